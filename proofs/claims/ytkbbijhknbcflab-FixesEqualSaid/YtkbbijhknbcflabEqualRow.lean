/-
  Proved here: for every input, whatever the arguments hold, the statement FixesEqual (promise P8.10) returns true and leaves its arguments as they were.
  Conditions: none beside the row's own (the form's reach: what is read takes less than 2^47 bytes a slice).
-/
import Derived.Test.YtkbbijhknbcflabOpen
import Derived.Test.YtkbbijhknbcflabL8
namespace Go.Proofs.Ytkbbijhknbcflab
open Go.ChangeShapes Go.WideShapes Go.ChangeAt Go.RowKit

set_option maxRecDepth 100000 in
theorem fixesEqual_lifted (os : Os) (started : os.Started) (H : Type) (enc : TypeId × Value → H) :
    ReturnsInHanded {} Try.checked os 5 .any (Rows.fixesEqualSpec.pre6 enc Try.prog Try.f5 Rows.fixesEqualRow.domain false) (Rows.fixesEqualSpec.post enc Try.prog Try.f5 false true false false) := by
  refine returnsInHanded_of_change_sized (C := Try.checked) Try.own started (by kernel_rfl) Try.func5
    (ChangeSpec.witness6 (enc := enc) (C := Try.checked) false ⟨#[], #[.agg #[.slice none 0 0, .slice none 0 0], .string (ByteArray.mk #[])], []⟩ 8 (by kernel_rfl) (by kernel_rfl) (by kernel_rfl) (by kernel_rfl)) ?_
  intro W base args ds gs before hval0 hW _ hsz0 _
  have hsz : (DataW.weightsEach Try.prog (Try.f5.params.toList ++ Rows.fixesEqualSpec.plain.varTypes Try.prog) (ds ++ gs)).all (· ≤ reachBytes) = true := hsz0
  clear hsz0
  have hval : ∀ (j : Nat) t v, Try.f5.params[j]? = some t → args[j]? = some v → Value.okWide Try.prog W .any base t v := hval0
  have hW' := hW
  obtain ⟨p, q, hA0, hV, rfl, _, _⟩ := hW
  have hA : DataW.TrodAll enc Try.prog W 0 (fun _ => true) true Try.f5.params.toList args.toList ds p := hA0
  rw [Try.params5] at hA hval hsz
  obtain ⟨v0, v1, d0, d1, p0, p1, rfl, rfl, rfl, h0, h1⟩ := trodAll_two hA
  obtain ⟨rfl, rfl⟩ := trodVars_none hV
  clear hA0 hval0
  have hsz2 : (DataW.weightsEach Try.prog [24, 9] [d0, d1]).all (· ≤ reachBytes) = true := hsz
  have big : ∀ k ∈ DataW.weightsEach Try.prog [24, 9] [d0, d1], k ≤ reachBytes := by
    intro k hk
    have := List.all_eq_true.1 hsz2 k hk
    simpa using this
  obtain ⟨aT0, n0, cT0, aL0, m0, cL0, T0, L0, rfl, hn0, hq0, hm0, hr0, hT0, hL0⟩ := view_W (hval 0 24 v0 rfl rfl) h0 (fun k hk => big k (by simp [DataW.weightsEach, hk]))
  obtain ⟨s1, rfl, hs1⟩ := view_S (hval 1 9 v1 rfl rfl) h1
  have lt0 : ∀ x ∈ p0, x.block < W.heap.size := by obtain ⟨f, hf⟩ := h0; exact DataW.trod_lt f _ _ _ hf
  have lt1 : ∀ x ∈ p1, x.block < W.heap.size := by obtain ⟨f, hf⟩ := h1; exact DataW.trod_lt f _ _ _ hf
  refine (equal_core W aT0 n0 cT0 aL0 m0 cL0 T0 L0 hn0 hq0 hm0 hr0 hT0 hL0 s1 hs1).mono fun e W' ⟨he, bel⟩ => ?_
  subst he
  exact ⟨_, rfl, _, _, _, [], _, [], hW', trodAll_mk1 (shut_bool Try.underlying4 _),
    trodAll_mk2 (Below.trod Try.laidOut (by kernel_rfl) (of_decide_eq_true (by kernel_rfl)) h0 bel lt0) (Below.trod Try.laidOut (by kernel_rfl) (of_decide_eq_true (by kernel_rfl)) h1 bel lt1),
    rfl, bel.frame _, fun h => by cases h⟩

theorem fixesEqual_holds : Rows.FixesEqualSaid :=
  OpenClaim.holds_of_wide 5 Try.f5 rfl rfl rfl rfl rfl rfl rfl ⟨rfl, rfl, rfl, rfl, rfl⟩ rfl rfl rfl rfl rfl (by kernel_rfl) Try.func5 (by kernel_rfl)
    (of_decide_eq_true (by kernel_rfl)) (by unfold Func.isWrapper; first | (rw [if_pos (by decide +kernel)]; kernel_rfl) | (rw [if_neg (by decide +kernel)]; exact ⟨rfl, rfl⟩))
    (fun os started H enc _ => fixesEqual_lifted os started H enc)

end Go.Proofs.Ytkbbijhknbcflab
