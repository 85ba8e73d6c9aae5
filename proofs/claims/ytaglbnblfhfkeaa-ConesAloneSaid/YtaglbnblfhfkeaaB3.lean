import Derived.Test.YtaglbnblfhfkeaaB2
namespace Go.Proofs.Ytaglbnblfhfkeaa
open Go.RowKit

set_option maxHeartbeats 2000000 in
set_option maxRecDepth 100000 in
theorem mread_no1 (r0 r1 : Nat → Int) (a : Option Addr) (cap n : Nat) (c lo hi : Int) (w : World) (hs : n ≤ 140737488351232) (h : ¬ ((n : Int) = c ∧ c ≤ 4)) :
    Calls Try.prog 78 #[.agg #[.int .i64 (r0 0), .int .i64 (r0 1), .int .i64 (r0 2), .int .i64 (r0 3), .int .i64 (r1 0), .int .i64 (r1 1), .int .i64 (r1 2), .int .i64 (r1 3), .int .i64 c], .slice a n cap, .int .i64 lo, .int .i64 hi] w fun e w' =>
      e = .returned (.tuple #[.agg #[.int .i64 0, .int .i64 0, .int .i64 0, .int .i64 0], .bool false]) ∧ Below w.heap.size w w' := by
  have H := Lib.hid h
  clear h
  go_enter Try.func78, Try.ntmps78
  go_wp2_with fail
  refine (read_no1 _ _ _ _ _ _ _ hs H.out).mono ?_
  rintro e w1 ⟨rfl, hb⟩
  have hr := hb.block (w.heap.size + 1) (by simp)
  rw [heap_two2] at hr
  have q0 : w1.cell? ⟨w.heap.size + 1, 0, none⟩ = some (.int .i64 0) := block_cell hr 0
  have q1 : w1.cell? ⟨w.heap.size + 1, 1, none⟩ = some (.int .i64 0) := block_cell hr 1
  have q2 : w1.cell? ⟨w.heap.size + 1, 2, none⟩ = some (.int .i64 0) := block_cell hr 2
  have q3 : w1.cell? ⟨w.heap.size + 1, 3, none⟩ = some (.int .i64 0) := block_cell hr 3
  have f := block_free hr
  have HB : Hid (Below w.heap.size w w1) := (below_two w _ _).trans (hb.mono (by simp; omega))
  clear hb hr
  go_wp2
  exact bodyPost_ret (v := .tuple #[.agg #[.int .i64 0, .int .i64 0, .int .i64 0, .int .i64 0], .bool false]) (by simp [results, Try.results78, go_sem, q0, q1, q2, q3]) rfl
    ⟨rfl, (((HB.out.setCell (by simp) _).setCell (by simp) _).setCell (by simp) _).setCell (by simp) _⟩

set_option maxHeartbeats 2000000 in
set_option maxRecDepth 100000 in
theorem mread_yes (r : Bool) (r0 r1 : Nat → Int) (a : Option Addr) (cap n : Nat) (z : Nat → Int) (lo hi : Int) (w : World) (hn : n ≤ 4) (hc : Ints w a n z) (hr : allIn z n lo hi = r) :
    Calls Try.prog 78 #[.agg #[.int .i64 (r0 0), .int .i64 (r0 1), .int .i64 (r0 2), .int .i64 (r0 3), .int .i64 (r1 0), .int .i64 (r1 1), .int .i64 (r1 2), .int .i64 (r1 3), .int .i64 (n : Int)], .slice a n cap, .int .i64 lo, .int .i64 hi] w fun e w' =>
      e = .returned (if r then .tuple #[.agg #[.int .i64 (padN z n 0), .int .i64 (padN z n 1), .int .i64 (padN z n 2), .int .i64 (padN z n 3)], .bool true] else .tuple #[.agg #[.int .i64 0, .int .i64 0, .int .i64 0, .int .i64 0], .bool false]) ∧ Below w.heap.size w w' := by
  have H := Lib.hid (hc.keep (Nat.le_refl _) (below_two w (.cells #[.int .i64 (r0 0), .int .i64 (r0 1), .int .i64 (r0 2), .int .i64 (r0 3), .int .i64 (r1 0), .int .i64 (r1 1), .int .i64 (r1 2), .int .i64 (r1 3), .int .i64 (n : Int)] 64) (.cells #[.int .i64 0, .int .i64 0, .int .i64 0, .int .i64 0] 61)))
  have Hr := Lib.hid hr
  clear hr hc
  go_enter Try.func78, Try.ntmps78
  go_wp2_with fail
  refine (read_yes _ _ _ _ _ _ _ _ hn H.out Hr.out).mono ?_
  rintro e w1 ⟨rfl, hb⟩
  have hr := hb.block (w.heap.size + 1) (by simp)
  rw [heap_two2] at hr
  have q0 : w1.cell? ⟨w.heap.size + 1, 0, none⟩ = some (.int .i64 0) := block_cell hr 0
  have q1 : w1.cell? ⟨w.heap.size + 1, 1, none⟩ = some (.int .i64 0) := block_cell hr 1
  have q2 : w1.cell? ⟨w.heap.size + 1, 2, none⟩ = some (.int .i64 0) := block_cell hr 2
  have q3 : w1.cell? ⟨w.heap.size + 1, 3, none⟩ = some (.int .i64 0) := block_cell hr 3
  have f := block_free hr
  have HB : Hid (Below w.heap.size w w1) := (below_two w _ _).trans (hb.mono (by simp; omega))
  clear hb hr
  cases r
  · go_wp2
    exact bodyPost_ret (v := .tuple #[.agg #[.int .i64 0, .int .i64 0, .int .i64 0, .int .i64 0], .bool false]) (by simp [results, Try.results78, go_sem, q0, q1, q2, q3]) rfl
      ⟨rfl, (((HB.out.setCell (by simp) _).setCell (by simp) _).setCell (by simp) _).setCell (by simp) _⟩
  · go_wp2
    exact bodyPost_ret (v := .tuple #[.agg #[.int .i64 (padN z n 0), .int .i64 (padN z n 1), .int .i64 (padN z n 2), .int .i64 (padN z n 3)], .bool true]) (by simp [results, Try.results78, go_sem, q0, q1, q2, q3]) rfl
      ⟨rfl, (((HB.out.setCell (by simp) _).setCell (by simp) _).setCell (by simp) _).setCell (by simp) _⟩
end Go.Proofs.Ytaglbnblfhfkeaa
