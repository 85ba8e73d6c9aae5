/-
  Proved here: for every input, whatever the arguments hold, the statement TagsCircles (promise P6.9) returns true and leaves its arguments as they were.
  Conditions: none beside the row's own (the form's reach: what is read takes less than 2^47 bytes a slice).
-/
import Derived.Test.YtiegingpmcloeaaOpen
import Derived.Test.YtiegingpmcloeaaH6
namespace Go.Proofs.Ytiegingpmcloeaa
open Go.ChangeShapes Go.WideShapes Go.ChangeAt Go.RowKit

set_option maxRecDepth 100000 in
theorem tagsCircles_lifted (os : Os) (started : os.Started) (H : Type) (enc : TypeId × Value → H) :
    ReturnsInHanded {} Try.checked os 6 .any (Rows.tagsCirclesSpec.pre6 enc Try.prog Try.f6 Rows.tagsCirclesRow.domain false) (Rows.tagsCirclesSpec.post enc Try.prog Try.f6 false true false false) := by
  refine returnsInHanded_of_change_sized (C := Try.checked) Try.own started (by kernel_rfl) Try.func6
    (ChangeSpec.witness6 (enc := enc) (C := Try.checked) false ⟨#[], #[.slice none 0 0, .agg #[.int .i64 0, .int .i64 0], .int .i64 0, .int .i64 0], []⟩ 8 (by kernel_rfl) (by kernel_rfl) (by kernel_rfl) (by kernel_rfl)) ?_
  intro W base args ds gs before hval0 hW _ hsz0 _
  have hsz : (DataW.weightsEach Try.prog (Try.f6.params.toList ++ Rows.tagsCirclesSpec.plain.varTypes Try.prog) (ds ++ gs)).all (· ≤ reachBytes) = true := hsz0
  clear hsz0
  have hval : ∀ (j : Nat) t v, Try.f6.params[j]? = some t → args[j]? = some v → Value.okWide Try.prog W .any base t v := hval0
  have hW' := hW
  obtain ⟨p, q, hA0, hV, rfl, _, _⟩ := hW
  have hA : DataW.TrodAll enc Try.prog W 0 (fun _ => true) true Try.f6.params.toList args.toList ds p := hA0
  rw [Try.params6] at hA hval hsz
  obtain ⟨v0, v1, v2, v3, d0, d1, d2, d3, p0, p1, p2, p3, rfl, rfl, rfl, h0, h1, h2, h3⟩ := trodAll_four hA
  obtain ⟨rfl, rfl⟩ := trodVars_none hV
  clear hA0 hval0
  have hsz2 : (DataW.weightsEach Try.prog [22, 23, 3, 3] [d0, d1, d2, d3]).all (· ≤ reachBytes) = true := hsz
  have big : ∀ k ∈ DataW.weightsEach Try.prog [22, 23, 3, 3] [d0, d1, d2, d3], k ≤ reachBytes := by
    intro k hk
    have := List.all_eq_true.1 hsz2 k hk
    simpa using this
  obtain ⟨aX0, nX0, cX0, M0, rfl, hx0, hy0, hX0⟩ := view_O (hval 0 22 v0 rfl rfl) h0 (fun k hk => big k (by simp [DataW.weightsEach, hk]))
  obtain ⟨x1, y1, rfl, hx1, hy1⟩ := view_J (hval 1 23 v1 rfl rfl) h1
  obtain ⟨z2, rfl, hz2⟩ := view_N (hval 2 3 v2 rfl rfl) h2
  obtain ⟨z3, rfl, hz3⟩ := view_N (hval 3 3 v3 rfl rfl) h3
  have lt0 : ∀ x ∈ p0, x.block < W.heap.size := by obtain ⟨f, hf⟩ := h0; exact DataW.trod_lt f _ _ _ hf
  have lt1 : ∀ x ∈ p1, x.block < W.heap.size := by obtain ⟨f, hf⟩ := h1; exact DataW.trod_lt f _ _ _ hf
  have lt2 : ∀ x ∈ p2, x.block < W.heap.size := by obtain ⟨f, hf⟩ := h2; exact DataW.trod_lt f _ _ _ hf
  have lt3 : ∀ x ∈ p3, x.block < W.heap.size := by obtain ⟨f, hf⟩ := h3; exact DataW.trod_lt f _ _ _ hf
  refine (circ_core W aX0 nX0 cX0 M0 hx0 hy0 hX0 x1 y1 hx1 hy1 z2 hz2 z3 hz3).mono fun e W' ⟨he, bel⟩ => ?_
  subst he
  exact ⟨_, rfl, _, _, _, [], _, [], hW', trodAll_mk1 (shut_bool Try.underlying4 _),
    trodAll_mk4 (Below.trod Try.laidOut (by kernel_rfl) (of_decide_eq_true (by kernel_rfl)) h0 bel lt0) (Below.trod Try.laidOut (by kernel_rfl) (of_decide_eq_true (by kernel_rfl)) h1 bel lt1) (Below.trod Try.laidOut (by kernel_rfl) (of_decide_eq_true (by kernel_rfl)) h2 bel lt2) (Below.trod Try.laidOut (by kernel_rfl) (of_decide_eq_true (by kernel_rfl)) h3 bel lt3),
    rfl, bel.frame _, fun h => by cases h⟩

theorem tagsCircles_holds : Rows.TagsCirclesSaid :=
  OpenClaim.holds_of_wide 6 Try.f6 rfl rfl rfl rfl rfl rfl rfl ⟨rfl, rfl, rfl, rfl, rfl⟩ rfl rfl rfl rfl rfl (by kernel_rfl) Try.func6 (by kernel_rfl)
    (of_decide_eq_true (by kernel_rfl)) (by unfold Func.isWrapper; first | (rw [if_pos (by decide +kernel)]; kernel_rfl) | (rw [if_neg (by decide +kernel)]; exact ⟨rfl, rfl⟩))
    (fun os started H enc _ => tagsCircles_lifted os started H enc)

end Go.Proofs.Ytiegingpmcloeaa
