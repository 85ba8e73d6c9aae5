import Derived.Test.YtkbbijhknbcflabG6
/-
  The program's Holds; awake.
-/
namespace Go.Proofs.Ytkbbijhknbcflab
open Go.RowKit Go.Shelf

theorem is_r (r : Bool) (l : List UInt8) (w : World) (hl : l.length ≤ 4900) (hr : isB l ↔ r = true) : Calls Try.prog 15 #[.string (st l)] w fun e w' => SomeB r w e w' := by
  cases r
  · exact is_no l w hl (fun h => by have := hr.1 h; cases this)
  · exact is_yes l w (hr.2 rfl)
theorem SomeB.out {r : Bool} {w : World} {e : Ending} {w' : World} (h : SomeB r w e w') : e = .returned (.bool r) ∧ Below w.heap.size w w' := h

/-- The box of a works, and that nothing that was there has turned (a name for what VInv keeps). -/
theorem VInv.start' (aN : Option Addr) (n cN : Nat) (aM : Option Addr) (m cM : Nat) (w : World) : VInv aN n cN aM m cM w (w.alloc (.cells #[.slice aN n cN, .slice aM m cM] 33)) := VInv.start _ _ _ _ _ _ _

set_option maxHeartbeats 4000000 in
set_option maxRecDepth 100000 in
theorem fHolds_arg (aN : Option Addr) (n cN : Nat) (aM : Option Addr) (m cM : Nat) (T L : Nat → Int) (s : ByteArray) (w : World) (hn : n ≤ 9) (hm : m ≤ 9) (hv : isWk n m T L = false) (hT : Ints w aN n T) (hL : Ints w aM m L) :
    Calls Try.prog 10 #[wkV aN n cN aM m cM, .string s] w fun e w' => NumOut 0 2 w e w' := by
  have hI := VInv.start aN n cN aM m cM w
  have HV := Lib.hid (valid_r false aN n cN aM m cM T L _ hv hn hm (hT.keep (Nat.le_refl _) hI.bel) (hL.keep (Nat.le_refl _) hI.bel))
  have HI := Lib.hid hI
  obtain ⟨q0, q1⟩ := hI.cells
  clear hT hL hv hI
  go_enter Try.func10, Try.ntmps10
  go_wp2_with fail
  refine HV.out.mono ?_
  rintro e w1 ⟨rfl, hb1⟩
  have HB1 := Lib.hid (HI.out.keep hb1).bel
  clear hb1 q0 q1
  go_wp2
  exact bodyPost_ret (v := .tuple #[.int .i64 0, .int .i64 2]) (by simp [results, Try.results10, go_sem]) rfl ⟨rfl, HB1.out⟩

set_option maxHeartbeats 4000000 in
set_option maxRecDepth 100000 in
theorem fHolds_form (aN : Option Addr) (n cN : Nat) (aM : Option Addr) (m cM : Nat) (T L : Nat → Int) (l : List UInt8) (w : World) (hl : l.length ≤ 4900) (hv : isWk n m T L = true) (hB : ¬ isB l) (hT : Ints w aN n T) (hL : Ints w aM m L) :
    Calls Try.prog 10 #[wkV aN n cN aM m cM, .string (st l)] w fun e w' => NumOut 0 3 w e w' := by
  obtain ⟨h1, h6, hmn, _⟩ := isWk_iff.1 hv
  subst hmn
  have hI := VInv.start aN m cN aM m cM w
  have HV := Lib.hid (valid_r true aN m cN aM m cM T L _ hv (by omega) (by omega) (hT.keep (Nat.le_refl _) hI.bel) (hL.keep (Nat.le_refl _) hI.bel))
  have HI := Lib.hid hI
  have HS := Lib.hid (fun W => is_no l W hl hB)
  obtain ⟨q0, q1⟩ := hI.cells
  clear hT hL hv hI hB
  generalize st l = S at *
  go_enter Try.func10, Try.ntmps10
  go_wp2_with fail
  refine HV.out.mono ?_
  rintro e w1 ⟨rfl, hb1⟩
  have HI1 := Lib.hid (HI.out.keep hb1)
  clear hb1 q0 q1
  go_wp2_with fail
  refine (HS.out _).mono ?_
  rintro e w2 ⟨rfl, hb2⟩
  have HB2 := Lib.hid (HI1.out.keep hb2).bel
  clear hb2
  go_wp2
  exact bodyPost_ret (v := .tuple #[.int .i64 0, .int .i64 3]) (by simp [results, Try.results10, go_sem]) rfl ⟨rfl, HB2.out⟩

set_option maxHeartbeats 4000000 in
set_option maxRecDepth 100000 in
theorem fHolds_good (aN : Option Addr) (n cN : Nat) (aM : Option Addr) (m cM : Nat) (T L : Nat → Int) (l : List UInt8) (F : Fm) (w : World) (hv : isWk n m T L = true) (h40 : l.length ≤ 40) (hF : isF (fun _ => false) l F) (hT : Ints w aN n T) (hL : Ints w aM m L) :
    Calls Try.prog 10 #[wkV aN n cN aM m cM, .string (st l)] w fun e w' => NumOut (holds n (nat T) (nat L) F : Nat) 0 w e w' := by
  obtain ⟨h1, h6, hmn, _⟩ := isWk_iff.1 hv
  subst hmn
  have hI := VInv.start aN m cN aM m cM w
  have hT1 := hT.keep (Nat.le_refl _) hI.bel
  have hL1 := hL.keep (Nat.le_refl _) hI.bel
  have HV := Lib.hid (valid_r true aN m cN aM m cM T L _ hv (by omega) (by omega) hT1 hL1)
  have HI := Lib.hid hI
  have HS := Lib.hid (fun W => is_yes l W ⟨h40, F, hF⟩)
  have HK := Lib.hid (wk_of hv hT1 hL1)
  have HF := Lib.hid hF
  have HW := Lib.hid (fun W (hb : Below (w.alloc (.cells #[.slice aN m cN, .slice aM m cM] 33)).heap.size (w.alloc (.cells #[.slice aN m cN, .slice aM m cM] 33)) W) => where_any l F hF (by omega) aN m cN aM cM (nat T) (nat L) W ((wk_of hv hT1 hL1).keep (Nat.le_refl _) hb))
  obtain ⟨q0, q1⟩ := hI.cells
  clear hT hL hv hI hF hT1 hL1
  generalize st l = S at *
  go_enter Try.func10, Try.ntmps10
  go_wp2_with fail
  refine HV.out.mono ?_
  rintro e w1 ⟨rfl, hb1⟩
  have HI1 := Lib.hid (HI.out.keep hb1)
  have HB1 := Lib.hid hb1
  clear hb1 q0 q1
  go_wp2_with fail
  refine (HS.out _).mono ?_
  rintro e w2 ⟨rfl, hb2⟩
  have HI2 := Lib.hid (HI1.out.keep hb2)
  have HB2 := Lib.hid (band HB1.out hb2)
  have HW2 := Lib.hid (HW.out _ HB2.out)
  obtain ⟨q0, q1⟩ := HI2.out.cells
  clear hb2
  go_wp2_with fail
  refine HW2.out.mono ?_
  rintro e w3 ⟨rfl, hb3⟩
  have HB3 := Lib.hid (HI2.out.keep hb3).bel
  clear hb3 q0 q1
  go_wp2
  exact bodyPost_ret (v := .tuple #[.int .i64 (holds m (nat T) (nat L) F : Nat), .int .i64 0]) (by simp [results, Try.results10, go_sem]) rfl ⟨rfl, HB3.out⟩
set_option maxHeartbeats 4000000 in
set_option maxRecDepth 100000 in
theorem awake_any (w : World) : Calls Try.prog 9 #[] w fun e w' => SomeB true w e w' := by
  have hx1 : ((w.alloc (.cells #[.int .i64 2, .int .i64 1] 3)).alloc (.cells #[.int .i64 0, .int .i64 1] 3)).heap[w.heap.size]? = some (.cells #[.int .i64 2, .int .i64 1] 3) := heap_two1 w _ _
  have hx2 : ((w.alloc (.cells #[.int .i64 2, .int .i64 1] 3)).alloc (.cells #[.int .i64 0, .int .i64 1] 3)).heap[w.heap.size + 1]? = some (.cells #[.int .i64 0, .int .i64 1] 3) := heap_two2 w _ _
  have HH := Lib.hid (fHolds_good (some ⟨w.heap.size, 0, none⟩) 2 2 (some ⟨w.heap.size + 1, 0, none⟩) 2 2 (fun j => if j = 0 then 2 else 1) (fun j => if j = 0 then 0 else 1) [48] (.mark 0) _ (by decide) (by decide) ⟨rfl, by show 0 < 4; decide⟩
    (fun j hj => by
      refine ⟨_, _, rfl, ?_⟩
      rw [block_cell hx1]
      rcases (show j = 0 ∨ j = 1 by omega) with rfl | rfl <;> rfl)
    (fun j hj => by
      refine ⟨_, _, rfl, ?_⟩
      rw [block_cell hx2]
      rcases (show j = 0 ∨ j = 1 by omega) with rfl | rfl <;> rfl))
  have hX : holds 2 (nat fun j => if j = 0 then 2 else 1) (nat fun j => if j = 0 then 0 else 1) (.mark 0) = 2 := by decide
  have HB := Lib.hid (below_two w (.cells #[.int .i64 2, .int .i64 1] 3) (.cells #[.int .i64 0, .int .i64 1] 3))
  clear hx1 hx2
  go_enter Try.func9, Try.ntmps9
  go_wp2_with fail
  refine HH.out.mono ?_
  rintro e w1 ⟨rfl, hb1⟩
  have HB1 := Lib.hid (HB.out.trans (hb1.mono (by simp; omega)))
  clear hb1
  rw [hX]
  go_wp2
  go_ret
  exact ⟨rfl, HB1.out⟩
end Go.Proofs.Ytkbbijhknbcflab
