/-
  Proved here: for every input, whatever the arguments hold, the statement MouldsFills (promise P7.6) returns true and leaves its arguments as they were; the card ties what the package's variables hold to the program's text.
  Conditions: none beside the row's own (the form's reach: what is read takes less than 2^47 bytes a slice; the listed variables hold what the program's text lays).
-/
import Derived.Test.YtfommfgokpiieabDoorOpen
import Derived.Test.YtfommfgokpiieabDoorL3
namespace Go.Proofs.YtfommfgokpiieabDoor
open Go.ChangeShapes Go.WideShapes Go.ChangeAt Go.RowKit

set_option maxRecDepth 100000 in
theorem mouldsFills_lifted (os : Os) (started : os.Started) (H : Type) (enc : TypeId × Value → H) :
    ReturnsInHanded {} Tryd.checked os 3 .any (fun w args => (Rows.mouldsFillsSpec.pre enc Tryd.prog Tryd.f3 Rows.mouldsFillsRow.domain false w args ∧ laidMetH Tryd.prog laid3 w) ∧ sizedMet enc Tryd.prog Tryd.f3 (OpenSpec.ofChange Rows.mouldsFillsSpec) false w args)
      (Rows.mouldsFillsSpec.post enc Tryd.prog Tryd.f3 false true false false) := by
  refine returnsInHanded_of_change_and (C := Tryd.checked) (X := fun w _ => laidMetH Tryd.prog laid3 w) (fun _ _ _ hh h => h.of_heap hh) Tryd.own started (by kernel_rfl) Tryd.func3
    (ChangeSpec.witness_shaped (enc := enc) (C := Tryd.checked) (os := os) (X := fun w _ => laidMetH Tryd.prog laid3 w) false (World.laidAll Tryd.prog os laid3) #[.slice none 0 0, .agg #[.int .i64 0, .int .i64 0], .agg #[.int .i64 0, .int .i64 0]] 8 (World.laidAll_os _ _ _)
      (World.shaped_of_ZipB (by kernel_rfl) (by kernel_rfl)) (by kernel_rfl) (by kernel_rfl) (by kernel_rfl)
      (by rw [MakeChecks.laidMetH_plain _ _ _ (by kernel_rfl)]; exact laidMet_laidAll _ (by kernel_rfl) (by kernel_rfl))) ?_
  intro W base args ds gs before hval0 hW _ hsz0 hL _
  have hS := steps_of_laid hL
  have hsz : (DataW.weightsEach Tryd.prog (Tryd.f3.params.toList ++ Rows.mouldsFillsSpec.plain.varTypes Tryd.prog) (ds ++ gs)).all (· ≤ reachBytes) = true := hsz0
  clear hsz0
  have hval : ∀ (j : Nat) t v, Tryd.f3.params[j]? = some t → args[j]? = some v → Value.okWide Tryd.prog W .any base t v := hval0
  have hW' := hW
  obtain ⟨p, q, hA0, hV, rfl, _, _⟩ := hW
  have hA : DataW.TrodAll enc Tryd.prog W 0 (fun _ => true) true Tryd.f3.params.toList args.toList ds p := hA0
  rw [Tryd.params3] at hA hval hsz
  obtain ⟨v0, v1, v2, d0, d1, d2, p0, p1, p2, rfl, rfl, rfl, h0, h1, h2⟩ := trodAll_three hA
  obtain ⟨rfl, rfl⟩ := trodVars_none hV
  clear hA0 hval0
  have hsz2 : (DataW.weightsEach Tryd.prog [22, 23, 23] [d0, d1, d2]).all (· ≤ reachBytes) = true := hsz
  have big : ∀ k ∈ DataW.weightsEach Tryd.prog [22, 23, 23] [d0, d1, d2], k ≤ reachBytes := by
    intro k hk
    have := List.all_eq_true.1 hsz2 k hk
    simpa using this
  obtain ⟨aX0, nX0, cX0, X0, Y0, rfl, hx0, hy0, hC0⟩ := view_L (hval 0 22 v0 rfl rfl) h0 (fun k hk => big k (by simp [DataW.weightsEach, hk]))
  obtain ⟨x1, y1, rfl, _, _⟩ := view_J (hval 1 23 v1 rfl rfl) h1
  obtain ⟨x2, y2, rfl, _, _⟩ := view_J (hval 2 23 v2 rfl rfl) h2
  have lt0 : ∀ x ∈ p0, x.block < W.heap.size := by obtain ⟨f, hf⟩ := h0; exact DataW.trod_lt f _ _ _ hf
  have lt1 : ∀ x ∈ p1, x.block < W.heap.size := by obtain ⟨f, hf⟩ := h1; exact DataW.trod_lt f _ _ _ hf
  have lt2 : ∀ x ∈ p2, x.block < W.heap.size := by obtain ⟨f, hf⟩ := h2; exact DataW.trod_lt f _ _ _ hf
  refine (lfills_core W aX0 nX0 cX0 X0 Y0 hx0 hy0 hC0 x1 y1 x2 y2 hS).mono fun e W' ⟨he, bel⟩ => ?_
  subst he
  exact ⟨_, rfl, _, _, _, [], _, [], hW', trodAll_mk1 (shut_bool Tryd.underlying4 _),
    trodAll_mk3 (Below.trod Tryd.laidOut (by kernel_rfl) (of_decide_eq_true (by kernel_rfl)) h0 bel lt0) (Below.trod Tryd.laidOut (by kernel_rfl) (of_decide_eq_true (by kernel_rfl)) h1 bel lt1) (Below.trod Tryd.laidOut (by kernel_rfl) (of_decide_eq_true (by kernel_rfl)) h2 bel lt2),
    rfl, bel.frame _, fun h => by cases h⟩

theorem mouldsFills_said : Rows.MouldsFillsSaid :=
  OpenClaim.holds_of_wide 3 Tryd.f3 rfl rfl rfl rfl rfl rfl rfl ⟨rfl, rfl, rfl, rfl, rfl⟩ rfl rfl rfl rfl rfl (by kernel_rfl) Tryd.func3 (by kernel_rfl)
    (of_decide_eq_true (by kernel_rfl)) (by unfold Func.isWrapper; first | (rw [if_pos (by decide +kernel)]; kernel_rfl) | (rw [if_neg (by decide +kernel)]; exact ⟨rfl, rfl⟩))
    (fun os started H enc _ => mouldsFills_lifted os started H enc)

theorem mouldsFills_plain (f : FuncId) (fn : Func) (hf : Tryd.pinned.checked.prog.funcNamed "comfit/comfitlaw07.MouldsFills" = some f) (hfn : Tryd.pinned.checked.prog.funcs[f]? = some fn) :
    false = Tryd.pinned.checked.prog.looks [] ∧ ∀ (j : Nat) t, fn.params[j]? = some t → Tryd.pinned.checked.prog.wantsStandIn t = false := by
  obtain rfl : f = 3 := Option.some.inj ((show Tryd.prog.funcNamed "comfit/comfitlaw07.MouldsFills" = some 3 by kernel_rfl).symm.trans hf) |>.symm
  obtain rfl : fn = Tryd.f3 := (Option.some.inj (Tryd.func3.symm.trans hfn)).symm
  refine ⟨by kernel_rfl, fun j t ht => ?_⟩
  rw [Tryd.params3] at ht
  have hm : t ∈ [22, 23, 23] := by simpa using Array.mem_of_getElem? ht
  have hall : ([22, 23, 23].all fun u => !Tryd.prog.wantsStandIn u) = true := by kernel_rfl
  exact (show Tryd.prog.wantsStandIn t = false by simpa using List.all_eq_true.1 hall t hm)

theorem mouldsFills_card : Rows.MouldsFillsCardSaid :=
  Claim7.holds_tied_plain_at .later [] _ _ _ _ mouldsFills_said (fun _ h => by cases h) (by kernel_rfl) (fun _ h => by cases h) mouldsFills_row_tie rfl ⟨rfl, rfl⟩ (by kernel_rfl) rfl mouldsFills_plain (by kernel_rfl)

end Go.Proofs.YtfommfgokpiieabDoor
