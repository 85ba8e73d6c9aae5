/-
  Proved here: for every input, whatever the arguments hold, the statement MouldsRoom (promise P7.9) returns true and leaves its arguments as they were; the card ties what the package's variables hold to the program's text.
  Conditions: none beside the row's own (the form's reach: what is read takes less than 2^47 bytes a slice; the listed variables hold what the program's text lays).
-/
import Derived.Test.YtfommfgokpiieacDoorOpen
import Derived.Test.YtfommfgokpiieacDoorL2
namespace Go.Proofs.YtfommfgokpiieacDoor
open Go.ChangeShapes Go.WideShapes Go.ChangeAt Go.RowKit

theorem trodAll_5 {H : Type} {enc : TypeId × Value → H} {P : Program} {w : World} {base : Nat} {spare : Nat → Bool} {held : Bool} {t0 : TypeId} {t1 : TypeId} {t2 : TypeId} {t3 : TypeId} {t4 : TypeId} {args : Array Value} {ds : List (DataW H)} {ps : List MemPlace} (h : DataW.TrodAll enc P w base spare held [t0, t1, t2, t3, t4] args.toList ds ps) :
    ∃ v0 v1 v2 v3 v4 d0 d1 d2 d3 d4 p0 p1 p2 p3 p4, args = #[v0, v1, v2, v3, v4] ∧ ds = [d0, d1, d2, d3, d4] ∧ ps = p0 ++ (p1 ++ (p2 ++ (p3 ++ (p4)))) ∧ DataW.Trod enc P w base spare held t0 v0 d0 p0 ∧ DataW.Trod enc P w base spare held t1 v1 d1 p1 ∧ DataW.Trod enc P w base spare held t2 v2 d2 p2 ∧ DataW.Trod enc P w base spare held t3 v3 d3 p3 ∧ DataW.Trod enc P w base spare held t4 v4 d4 p4 := by
  obtain ⟨v0, vs0, d0, ds0, p0, ps0, e0, rfl, rfl, h0, g0⟩ := trodAll_cons h
  obtain ⟨v1, vs1, d1, ds1, p1, ps1, e1, rfl, rfl, h1, g1⟩ := trodAll_cons g0
  subst e1
  obtain ⟨v2, vs2, d2, ds2, p2, ps2, e2, rfl, rfl, h2, g2⟩ := trodAll_cons g1
  subst e2
  obtain ⟨v3, vs3, d3, ds3, p3, ps3, e3, rfl, rfl, h3, g3⟩ := trodAll_cons g2
  subst e3
  obtain ⟨v4, vs4, d4, ds4, p4, ps4, e4, rfl, rfl, h4, g4⟩ := trodAll_cons g3
  subst e4
  obtain ⟨rfl, rfl, rfl⟩ := trodAll_nil g4
  refine ⟨v0, v1, v2, v3, v4, d0, d1, d2, d3, d4, p0, p1, p2, p3, p4, ?_, rfl, by simp, h0, h1, h2, h3, h4⟩
  obtain ⟨l⟩ := args
  simp at e0; subst e0; rfl
theorem trodAll_mk5 {H : Type} {enc : TypeId × Value → H} {P : Program} {w : World} {base : Nat} {spare : Nat → Bool} {held : Bool} {t0 : TypeId} {t1 : TypeId} {t2 : TypeId} {t3 : TypeId} {t4 : TypeId} {v0 v1 v2 v3 v4 : Value} {d0 d1 d2 d3 d4 : DataW H} {p0 p1 p2 p3 p4 : List MemPlace} (h0 : DataW.Trod enc P w base spare held t0 v0 d0 p0) (h1 : DataW.Trod enc P w base spare held t1 v1 d1 p1) (h2 : DataW.Trod enc P w base spare held t2 v2 d2 p2) (h3 : DataW.Trod enc P w base spare held t3 v3 d3 p3) (h4 : DataW.Trod enc P w base spare held t4 v4 d4 p4) :
    DataW.TrodAll enc P w base spare held [t0, t1, t2, t3, t4] [v0, v1, v2, v3, v4] [d0, d1, d2, d3, d4] (p0 ++ (p1 ++ (p2 ++ (p3 ++ (p4))))) :=
  trodAll_cons_mk h0 (trodAll_cons_mk h1 (trodAll_cons_mk h2 (trodAll_cons_mk h3 (trodAll_mk1 h4))))

set_option maxRecDepth 100000 in
theorem mouldsRoom_lifted (os : Os) (started : os.Started) (H : Type) (enc : TypeId × Value → H) :
    ReturnsInHanded {} Tryd.checked os 6 .any (fun w args => (Rows.mouldsRoomSpec.pre enc Tryd.prog Tryd.f6 Rows.mouldsRoomRow.domain false w args ∧ laidMetH Tryd.prog laid3 w) ∧ sizedMet enc Tryd.prog Tryd.f6 (OpenSpec.ofChange Rows.mouldsRoomSpec) false w args)
      (Rows.mouldsRoomSpec.post enc Tryd.prog Tryd.f6 false true false false) := by
  refine returnsInHanded_of_change_and (C := Tryd.checked) (X := fun w _ => laidMetH Tryd.prog laid3 w) (fun _ _ _ hh h => h.of_heap hh) Tryd.own started (by kernel_rfl) Tryd.func6
    (ChangeSpec.witness_shaped (enc := enc) (C := Tryd.checked) (os := os) (X := fun w _ => laidMetH Tryd.prog laid3 w) false (World.laidAll Tryd.prog os laid3) #[.slice none 0 0, .agg #[.int .i64 0, .int .i64 0], .agg #[.int .i64 0, .int .i64 0], .int .i64 0, .int .i64 0] 8 (World.laidAll_os _ _ _)
      (World.shaped_of_ZipB (by kernel_rfl) (by kernel_rfl)) (by kernel_rfl) (by kernel_rfl) (by kernel_rfl)
      (by rw [MakeChecks.laidMetH_plain _ _ _ (by kernel_rfl)]; exact laidMet_laidAll _ (by kernel_rfl) (by kernel_rfl))) ?_
  intro W base args ds gs before hval0 hW _ hsz0 hL _
  have hS := steps_of_laid hL
  have hsz : (DataW.weightsEach Tryd.prog (Tryd.f6.params.toList ++ Rows.mouldsRoomSpec.plain.varTypes Tryd.prog) (ds ++ gs)).all (· ≤ reachBytes) = true := hsz0
  clear hsz0
  have hval : ∀ (j : Nat) t v, Tryd.f6.params[j]? = some t → args[j]? = some v → Value.okWide Tryd.prog W .any base t v := hval0
  have hW' := hW
  obtain ⟨p, q, hA0, hV, rfl, _, _⟩ := hW
  have hA : DataW.TrodAll enc Tryd.prog W 0 (fun _ => true) true Tryd.f6.params.toList args.toList ds p := hA0
  rw [Tryd.params6] at hA hval hsz
  obtain ⟨v0, v1, v2, v3, v4, d0, d1, d2, d3, d4, p0, p1, p2, p3, p4, rfl, rfl, rfl, h0, h1, h2, h3, h4⟩ := trodAll_5 hA
  obtain ⟨rfl, rfl⟩ := trodVars_none hV
  clear hA0 hval0
  have hsz2 : (DataW.weightsEach Tryd.prog [28, 31, 31, 3, 3] [d0, d1, d2, d3, d4]).all (· ≤ reachBytes) = true := hsz
  have big : ∀ k ∈ DataW.weightsEach Tryd.prog [28, 31, 31, 3, 3] [d0, d1, d2, d3, d4], k ≤ reachBytes := by
    intro k hk
    have := List.all_eq_true.1 hsz2 k hk
    simpa using this
  obtain ⟨aX0, nX0, cX0, X0, Y0, rfl, hx0, hy0, hC0⟩ := view_L (hval 0 28 v0 rfl rfl) h0 (fun k hk => big k (by simp [DataW.weightsEach, hk]))
  obtain ⟨x1, y1, rfl, _, _⟩ := view_J (hval 1 31 v1 rfl rfl) h1
  obtain ⟨x2, y2, rfl, _, _⟩ := view_J (hval 2 31 v2 rfl rfl) h2
  obtain ⟨z3, rfl, hz3⟩ := view_N (hval 3 3 v3 rfl rfl) h3
  obtain ⟨z4, rfl, hz4⟩ := view_N (hval 4 3 v4 rfl rfl) h4
  have lt0 : ∀ x ∈ p0, x.block < W.heap.size := by obtain ⟨f, hf⟩ := h0; exact DataW.trod_lt f _ _ _ hf
  have lt1 : ∀ x ∈ p1, x.block < W.heap.size := by obtain ⟨f, hf⟩ := h1; exact DataW.trod_lt f _ _ _ hf
  have lt2 : ∀ x ∈ p2, x.block < W.heap.size := by obtain ⟨f, hf⟩ := h2; exact DataW.trod_lt f _ _ _ hf
  have lt3 : ∀ x ∈ p3, x.block < W.heap.size := by obtain ⟨f, hf⟩ := h3; exact DataW.trod_lt f _ _ _ hf
  have lt4 : ∀ x ∈ p4, x.block < W.heap.size := by obtain ⟨f, hf⟩ := h4; exact DataW.trod_lt f _ _ _ hf
  refine (room_core W aX0 nX0 cX0 X0 Y0 hx0 hy0 hC0 x1 y1 x2 y2 z3 hz3 z4 hz4 hS).mono fun e W' ⟨he, bel⟩ => ?_
  subst he
  exact ⟨_, rfl, _, _, _, [], _, [], hW', trodAll_mk1 (shut_bool Tryd.underlying4 _),
    trodAll_mk5 (Below.trod Tryd.laidOut (by kernel_rfl) (of_decide_eq_true (by kernel_rfl)) h0 bel lt0) (Below.trod Tryd.laidOut (by kernel_rfl) (of_decide_eq_true (by kernel_rfl)) h1 bel lt1) (Below.trod Tryd.laidOut (by kernel_rfl) (of_decide_eq_true (by kernel_rfl)) h2 bel lt2) (Below.trod Tryd.laidOut (by kernel_rfl) (of_decide_eq_true (by kernel_rfl)) h3 bel lt3) (Below.trod Tryd.laidOut (by kernel_rfl) (of_decide_eq_true (by kernel_rfl)) h4 bel lt4),
    rfl, bel.frame _, fun h => by cases h⟩

theorem mouldsRoom_said : Rows.MouldsRoomSaid :=
  OpenClaim.holds_of_wide 6 Tryd.f6 rfl rfl rfl rfl rfl rfl rfl ⟨rfl, rfl, rfl, rfl, rfl⟩ rfl rfl rfl rfl rfl (by kernel_rfl) Tryd.func6 (by kernel_rfl)
    (of_decide_eq_true (by kernel_rfl)) (by unfold Func.isWrapper; first | (rw [if_pos (by decide +kernel)]; kernel_rfl) | (rw [if_neg (by decide +kernel)]; exact ⟨rfl, rfl⟩))
    (fun os started H enc _ => mouldsRoom_lifted os started H enc)

theorem mouldsRoom_plain (f : FuncId) (fn : Func) (hf : Tryd.pinned.checked.prog.funcNamed "comfit/comfitlaw07.MouldsRoom" = some f) (hfn : Tryd.pinned.checked.prog.funcs[f]? = some fn) :
    false = Tryd.pinned.checked.prog.looks [] ∧ ∀ (j : Nat) t, fn.params[j]? = some t → Tryd.pinned.checked.prog.wantsStandIn t = false := by
  obtain rfl : f = 6 := Option.some.inj ((show Tryd.prog.funcNamed "comfit/comfitlaw07.MouldsRoom" = some 6 by kernel_rfl).symm.trans hf) |>.symm
  obtain rfl : fn = Tryd.f6 := (Option.some.inj (Tryd.func6.symm.trans hfn)).symm
  refine ⟨by kernel_rfl, fun j t ht => ?_⟩
  rw [Tryd.params6] at ht
  have hm : t ∈ [28, 31, 31, 3, 3] := by simpa using Array.mem_of_getElem? ht
  have hall : ([28, 31, 31, 3, 3].all fun u => !Tryd.prog.wantsStandIn u) = true := by kernel_rfl
  exact (show Tryd.prog.wantsStandIn t = false by simpa using List.all_eq_true.1 hall t hm)

theorem mouldsRoom_card : Rows.MouldsRoomCardSaid :=
  Claim7.holds_tied_plain_at .later [] _ _ _ _ mouldsRoom_said (fun _ h => by cases h) (by kernel_rfl) (fun _ h => by cases h) mouldsRoom_row_tie rfl ⟨rfl, rfl⟩ (by kernel_rfl) rfl mouldsRoom_plain (by kernel_rfl)

end Go.Proofs.YtfommfgokpiieacDoor
