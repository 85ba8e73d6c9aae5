import Derived.Test.YtaglbnblfhfkeaaB4
namespace Go.Proofs.Ytaglbnblfhfkeaa
open Go.RowKit

/-- readMatrix, in one contract: false with whatever where the rows are not those of a matrix. -/
theorem readMatrix_false (a : Option Addr) (cap R : Nat) (A : Nat → Option Addr) (L C : Nat → Nat) (Z : Nat → Nat → Int) (w : World) (hs : R ≤ 140737488351232) (hm : Mat w a R A L C Z) (hr : isMat R L Z = false) :
    Calls Try.prog 62 #[.slice a R cap] w fun e w' => SomeMat w e w' := by
  by_cases h : R < 1 ∨ 2 < R ∨ L 0 < 1
  · exact (readMatrix_no1 a cap R A L C Z w hs hm h).mono fun e w' ⟨he, hb⟩ => ⟨fun _ => 0, fun _ => 0, 0, he, hb⟩
  · exact (readMatrix_loop false a cap R A L C Z w hm (by omega) (by omega) (by omega) hr).mono fun e w' h => by simpa using h

theorem readMatrix_true (a : Option Addr) (cap R : Nat) (A : Nat → Option Addr) (L C : Nat → Nat) (Z : Nat → Nat → Int) (w : World) (hm : Mat w a R A L C Z) (hr : isMat R L Z = true) :
    Calls Try.prog 62 #[.slice a R cap] w fun e w' => e = .returned (.tuple #[.agg #[.int .i64 (rowN R L Z 0 0), .int .i64 (rowN R L Z 0 1), .int .i64 (rowN R L Z 0 2), .int .i64 (rowN R L Z 0 3), .int .i64 (rowN R L Z 1 0), .int .i64 (rowN R L Z 1 1), .int .i64 (rowN R L Z 1 2), .int .i64 (rowN R L Z 1 3), .int .i64 (L 0 : Int)], .bool true]) ∧ Below w.heap.size w w' := by
  have h := isMat_iff.1 hr
  exact (readMatrix_loop true a cap R A L C Z w hm h.1 h.2.1 (h.2.2 0 (by omega)).2.1 hr).mono fun e w' h => by simpa using h

/-- What readBoth returns where it returns false. -/
def SomeBoth (w : World) (e : Ending) (w' : World) : Prop := ∃ r0 r1 v : Nat → Int, ∃ c : Int, e = .returned (.tuple #[.agg #[.int .i64 (r0 0), .int .i64 (r0 1), .int .i64 (r0 2), .int .i64 (r0 3), .int .i64 (r1 0), .int .i64 (r1 1), .int .i64 (r1 2), .int .i64 (r1 3), .int .i64 c], .agg #[.int .i64 (v 0), .int .i64 (v 1), .int .i64 (v 2), .int .i64 (v 3)], .bool false]) ∧ Below w.heap.size w w'

set_option maxHeartbeats 4000000 in
set_option maxRecDepth 100000 in
theorem readBoth_no1 (a : Option Addr) (cap R : Nat) (A : Nat → Option Addr) (L C : Nat → Nat) (Z : Nat → Nat → Int) (ax : Option Addr) (n cx : Nat) (lo hi : Int) (w : World)
    (hs : R ≤ 140737488351232) (hm : Mat w a R A L C Z) (hr : isMat R L Z = false) :
    Calls Try.prog 58 #[.slice a R cap, .slice ax n cx, .int .i64 lo, .int .i64 hi] w fun e w' => SomeBoth w e w' := by
  have Hm := Lib.hid (hm.keep (Nat.le_refl _) (below_two w (.cells #[.int .i64 0, .int .i64 0, .int .i64 0, .int .i64 0, .int .i64 0, .int .i64 0, .int .i64 0, .int .i64 0, .int .i64 0] 64) (.cells #[.int .i64 0, .int .i64 0, .int .i64 0, .int .i64 0] 61)))
  have Hr := Lib.hid hr
  clear hr hm
  go_enter Try.func58, Try.ntmps58
  go_wp2_with fail
  refine (readMatrix_false _ _ _ _ _ _ _ _ hs Hm.out Hr.out).mono ?_
  rintro e w1 ⟨r0, r1, c, rfl, hb⟩
  have h0 := (hb.block w.heap.size (by simp; omega)).trans (heap_two1 w _ _)
  have h1 := (hb.block (w.heap.size + 1) (by simp)).trans (heap_two2 w _ _)
  have c0 := mat_cells (r0 := fun _ => 0) (r1 := fun _ => 0) (c := 0) h0
  have c1 := vec_cells (v := fun _ => 0) h1
  have HB : Hid (Below w.heap.size w w1) := (below_two w _ _).trans (hb.mono (by simp; omega))
  have hsz1 : w.heap.size + 1 < w1.heap.size := (Array.getElem?_eq_some_iff.1 h1).1
  have hsz0 : w.heap.size < w1.heap.size := by omega
  clear hb h0 h1
  go_wp2
  exact bodyPost_ret (v := .tuple #[.agg #[.int .i64 (r0 0), .int .i64 (r0 1), .int .i64 (r0 2), .int .i64 (r0 3), .int .i64 (r1 0), .int .i64 (r1 1), .int .i64 (r1 2), .int .i64 (r1 3), .int .i64 c], .agg #[.int .i64 0, .int .i64 0, .int .i64 0, .int .i64 0], .bool false]) (by simp [results, Try.results58, go_sem, c0, c1, hsz0, hsz1]) rfl
    ⟨r0, r1, fun _ => 0, c, rfl, (below_set4 (o := 0) (below_set9 HB.out (Nat.le_refl _) _ _ _ _ _ _ _ _ _) (by omega) _ _ _ _).alloc (by simp; omega) _⟩

set_option maxHeartbeats 4000000 in
set_option maxRecDepth 100000 in
theorem readBoth_no2 (a : Option Addr) (cap R : Nat) (A : Nat → Option Addr) (L C : Nat → Nat) (Z : Nat → Nat → Int) (ax : Option Addr) (n cx : Nat) (lo hi : Int) (w : World)
    (hn : n ≤ 140737488351232) (hm : Mat w a R A L C Z) (hr : isMat R L Z = true) (hnL : n ≠ L 0) :
    Calls Try.prog 58 #[.slice a R cap, .slice ax n cx, .int .i64 lo, .int .i64 hi] w fun e w' => SomeBoth w e w' := by
  have Hm := Lib.hid (hm.keep (Nat.le_refl _) (below_two w (.cells #[.int .i64 0, .int .i64 0, .int .i64 0, .int .i64 0, .int .i64 0, .int .i64 0, .int .i64 0, .int .i64 0, .int .i64 0] 64) (.cells #[.int .i64 0, .int .i64 0, .int .i64 0, .int .i64 0] 61)))
  have Hr := Lib.hid hr
  have HnL : Hid (¬ ((n : Int) = (L 0 : Int) ∧ (L 0 : Int) ≤ 4)) := fun h => hnL (by omega)
  clear hr hm hnL
  go_enter Try.func58, Try.ntmps58
  go_wp2_with fail
  refine (readMatrix_true _ _ _ _ _ _ _ _ Hm.out Hr.out).mono ?_
  rintro e w1 ⟨rfl, hb⟩
  have h0 := (hb.block w.heap.size (by simp; omega)).trans (heap_two1 w _ _)
  have h1 := (hb.block (w.heap.size + 1) (by simp)).trans (heap_two2 w _ _)
  have HB : Hid (Below w.heap.size w w1) := (below_two w _ _).trans (hb.mono (by simp; omega))
  have hsz1 : w.heap.size + 1 < w1.heap.size := (Array.getElem?_eq_some_iff.1 h1).1
  have hsz0 : w.heap.size < w1.heap.size := by omega
  have H0 := Lib.hid h0
  have H1 := Lib.hid h1
  clear hb h0 h1
  go_wp2_with fail
  refine (mread_no1 _ _ _ _ _ _ _ _ _ hn HnL.out).mono ?_
  rintro e w2 ⟨rfl, hb⟩
  have h0 := (hb.block w.heap.size (by simp; omega)).trans ((Below.heap_alloc _ _ _ (by omega)).trans H0.out)
  have h1 := (hb.block (w.heap.size + 1) (by simp; omega)).trans ((Below.heap_alloc _ _ _ (by omega)).trans H1.out)
  have h2 := (hb.block (w1.heap.size) (by simp)).trans (heap_alloc_new w1 _)
  have HB2 : Hid (Below w.heap.size w w2) := (HB.out.alloc (by omega) _).trans (hb.mono (by simp; omega))
  have hsz2 : w1.heap.size < w2.heap.size := (Array.getElem?_eq_some_iff.1 h2).1
  have hsz1' : w.heap.size + 1 < w2.heap.size := by omega
  have hsz0' : w.heap.size < w2.heap.size := by omega
  have c0 := mat_cells (r0 := fun _ => 0) (r1 := fun _ => 0) (c := 0) h0
  have c1 := vec_cells (v := fun _ => 0) h1
  have c2 := mat_cells h2
  clear hb h0 h1 h2
  go_wp2
  go_region
  go_wp2
  exact bodyPost_ret (v := .tuple #[.agg #[.int .i64 (rowN R L Z 0 0), .int .i64 (rowN R L Z 0 1), .int .i64 (rowN R L Z 0 2), .int .i64 (rowN R L Z 0 3), .int .i64 (rowN R L Z 1 0), .int .i64 (rowN R L Z 1 1), .int .i64 (rowN R L Z 1 2), .int .i64 (rowN R L Z 1 3), .int .i64 (L 0 : Int)], .agg #[.int .i64 0, .int .i64 0, .int .i64 0, .int .i64 0], .bool false]) (by simp [results, Try.results58, go_sem, c0, c1, hsz0', hsz1']) rfl
    ⟨rowN R L Z 0, rowN R L Z 1, fun _ => 0, (L 0 : Int), rfl, ((below_set4 (o := 0) (below_set9 HB2.out (Nat.le_refl _) _ _ _ _ _ _ _ _ _) (by omega) _ _ _ _).alloc (by simp; omega) _).drew⟩

set_option maxHeartbeats 4000000 in
set_option maxRecDepth 100000 in
theorem readBoth_yes (r : Bool) (a : Option Addr) (cap R : Nat) (A : Nat → Option Addr) (L C : Nat → Nat) (Z : Nat → Nat → Int) (ax : Option Addr) (n cx : Nat) (z : Nat → Int) (lo hi : Int) (w : World)
    (hm : Mat w a R A L C Z) (hr : isMat R L Z = true) (hnL : n = L 0) (hz : Ints w ax n z) (hA : allIn z n lo hi = r) :
    Calls Try.prog 58 #[.slice a R cap, .slice ax n cx, .int .i64 lo, .int .i64 hi] w fun e w' =>
      if r then e = .returned (.tuple #[.agg #[.int .i64 (rowN R L Z 0 0), .int .i64 (rowN R L Z 0 1), .int .i64 (rowN R L Z 0 2), .int .i64 (rowN R L Z 0 3), .int .i64 (rowN R L Z 1 0), .int .i64 (rowN R L Z 1 1), .int .i64 (rowN R L Z 1 2), .int .i64 (rowN R L Z 1 3), .int .i64 (n : Int)], .agg #[.int .i64 (padN z n 0), .int .i64 (padN z n 1), .int .i64 (padN z n 2), .int .i64 (padN z n 3)], .bool true]) ∧ Below w.heap.size w w' else SomeBoth w e w' := by
  have Hm := Lib.hid (hm.keep (Nat.le_refl _) (below_two w (.cells #[.int .i64 0, .int .i64 0, .int .i64 0, .int .i64 0, .int .i64 0, .int .i64 0, .int .i64 0, .int .i64 0, .int .i64 0] 64) (.cells #[.int .i64 0, .int .i64 0, .int .i64 0, .int .i64 0] 61)))
  have Hr := Lib.hid hr
  have hn4 : n ≤ 4 := by have := (isMat_iff.1 hr); have := (this.2.2 0 (by omega)).2.2.1; omega
  have HA := Lib.hid hA
  have HZ := Lib.hid hz
  have HnL := Lib.hid hnL
  clear hr hm hA hz hnL
  go_enter Try.func58, Try.ntmps58
  go_wp2_with fail
  refine (readMatrix_true _ _ _ _ _ _ _ _ Hm.out Hr.out).mono ?_
  rintro e w1 ⟨rfl, hb⟩
  have h0 := (hb.block w.heap.size (by simp; omega)).trans (heap_two1 w _ _)
  have h1 := (hb.block (w.heap.size + 1) (by simp)).trans (heap_two2 w _ _)
  have HB : Hid (Below w.heap.size w w1) := (below_two w _ _).trans (hb.mono (by simp; omega))
  have hsz1 : w.heap.size + 1 < w1.heap.size := (Array.getElem?_eq_some_iff.1 h1).1
  have hsz0 : w.heap.size < w1.heap.size := by omega
  have H0 := Lib.hid h0
  have H1 := Lib.hid h1
  clear hb h0 h1
  have hz2 := HZ.out.keep (Nat.le_refl _) (HB.out.alloc (by omega) (.cells #[.int .i64 (rowN R L Z 0 0), .int .i64 (rowN R L Z 0 1), .int .i64 (rowN R L Z 0 2), .int .i64 (rowN R L Z 0 3), .int .i64 (rowN R L Z 1 0), .int .i64 (rowN R L Z 1 1), .int .i64 (rowN R L Z 1 2), .int .i64 (rowN R L Z 1 3), .int .i64 (n : Int)] 64))
  have HZ2 := Lib.hid hz2
  clear hz2
  rw [← HnL.out]
  go_wp2_with fail
  refine (mread_yes r _ _ _ _ _ _ _ _ _ hn4 HZ2.out HA.out).mono ?_
  rintro e w2 ⟨rfl, hb⟩
  have h0 := (hb.block w.heap.size (by simp; omega)).trans ((Below.heap_alloc _ _ _ (by omega)).trans H0.out)
  have h1 := (hb.block (w.heap.size + 1) (by simp; omega)).trans ((Below.heap_alloc _ _ _ (by omega)).trans H1.out)
  have h2 := (hb.block (w1.heap.size) (by simp)).trans (heap_alloc_new w1 _)
  have HB2 : Hid (Below w.heap.size w w2) := (HB.out.alloc (by omega) _).trans (hb.mono (by simp; omega))
  have hsz2 : w1.heap.size < w2.heap.size := (Array.getElem?_eq_some_iff.1 h2).1
  have hsz1' : w.heap.size + 1 < w2.heap.size := by omega
  have hsz0' : w.heap.size < w2.heap.size := by omega
  have c0 := mat_cells (r0 := fun _ => 0) (r1 := fun _ => 0) (c := 0) h0
  have c1 := vec_cells (v := fun _ => 0) h1
  have c2 := mat_cells h2
  clear hb h0 h1 h2
  cases r
  · go_wp2
    go_region
    go_wp2
    exact bodyPost_ret (v := .tuple #[.agg #[.int .i64 (rowN R L Z 0 0), .int .i64 (rowN R L Z 0 1), .int .i64 (rowN R L Z 0 2), .int .i64 (rowN R L Z 0 3), .int .i64 (rowN R L Z 1 0), .int .i64 (rowN R L Z 1 1), .int .i64 (rowN R L Z 1 2), .int .i64 (rowN R L Z 1 3), .int .i64 (n : Int)], .agg #[.int .i64 0, .int .i64 0, .int .i64 0, .int .i64 0], .bool false]) (by simp [results, Try.results58, go_sem, c0, c1, hsz0', hsz1']) rfl
      ⟨rowN R L Z 0, rowN R L Z 1, fun _ => 0, (n : Int), rfl, ((below_set4 (o := 0) (below_set9 HB2.out (Nat.le_refl _) _ _ _ _ _ _ _ _ _) (by omega) _ _ _ _).alloc (by simp; omega) _).drew⟩
  · go_wp2
    go_region
    go_wp2
    exact bodyPost_ret (v := .tuple #[.agg #[.int .i64 (rowN R L Z 0 0), .int .i64 (rowN R L Z 0 1), .int .i64 (rowN R L Z 0 2), .int .i64 (rowN R L Z 0 3), .int .i64 (rowN R L Z 1 0), .int .i64 (rowN R L Z 1 1), .int .i64 (rowN R L Z 1 2), .int .i64 (rowN R L Z 1 3), .int .i64 (n : Int)], .agg #[.int .i64 (padN z n 0), .int .i64 (padN z n 1), .int .i64 (padN z n 2), .int .i64 (padN z n 3)], .bool true]) (by simp [results, Try.results58, go_sem, c0, c1, hsz0', hsz1']) rfl
      ⟨rfl, ((below_set4 (o := 0) (below_set9 HB2.out (Nat.le_refl _) _ _ _ _ _ _ _ _ _) (by omega) _ _ _ _).alloc (by simp; omega) _).drew⟩
end Go.Proofs.Ytaglbnblfhfkeaa
