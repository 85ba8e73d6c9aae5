import Derived.Test.YtaglbnblfhfkeaaD1
namespace Go.Proofs.Ytaglbnblfhfkeaa
open Go.RowKit

def small2 (p q : Int) : Prop := (-1000000 ≤ p ∧ p ≤ 1000000) ∧ (-1000000 ≤ q ∧ q ≤ 1000000)

set_option maxHeartbeats 4000000 in
set_option maxRecDepth 100000 in
theorem pdot_any (p q a b : Int) (w : World) (hp : small2 p q) (ha : low a) (hb : low b) :
    Calls Try.prog 118 #[.agg #[.int .i64 p, .int .i64 q], .agg #[.int .i64 a, .int .i64 b]] w fun e w' => e = .returned (.int .i64 (p * a + q * b)) ∧ Below w.heap.size w w' := by
  have h1 := mul_two ha.1 ha.2 hp.1.1 hp.1.2
  have h2 := mul_two hb.1 hb.2 hp.2.1 hp.2.2
  rw [Int.mul_comm a p] at h1
  rw [Int.mul_comm b q] at h2
  clear hp ha hb
  have HB := Lib.hid (below_two w (.cells #[.int .i64 p, .int .i64 q] 96) (.cells #[.int .i64 a, .int .i64 b] 96))
  go_enter Try.func118, Try.ntmps118
  go_wp2
  go_loopw [5, 7] (fun s i wr => ∃ k : Nat, k ≤ 2 ∧ i = .int .i64 k ∧ s = .int .i64 (if k = 0 then 0 else if k = 1 then p * a else p * a + q * b) ∧ ∃ n, wr = ((w.alloc (.cells #[.int .i64 p, .int .i64 q] 96)).alloc (.cells #[.int .i64 a, .int .i64 b] 96)).drewN n) (fun _ i _ => 2 - (intOf i).toNat)
  case atStart => exact ⟨0, Nat.zero_le _, rfl, rfl, 0, rfl⟩
  case round =>
    obtain ⟨k, hk, rfl, rfl, n, rfl⟩ := hrel
    have hk3 : k = 0 ∨ k = 1 ∨ k = 2 := by omega
    rcases hk3 with rfl | rfl | rfl
    · simp only [if_true]
      go_wp2
      go_quiet (fail)
      go_wp2
      exact ⟨⟨1, by omega, rfl, by simp, _, rfl⟩, by simp [intOf]⟩
    · simp only [if_true, Nat.one_ne_zero, if_false]
      go_wp2
      go_quiet (fail)
      go_wp2
      exact ⟨⟨2, by omega, rfl, by simp, _, rfl⟩, by simp [intOf]⟩
    · go_wp2
      go_ret
      exact ⟨rfl, below_drewN HB.out n⟩

structure ColAt (w wr : World) (m : Mx) (j k : Nat) : Prop where
  mm : wr.heap[w.heap.size]? = some (.cells #[.int .i64 (m).r0.a, .int .i64 (m).r0.b, .int .i64 (m).r0.c, .int .i64 (m).r0.d, .int .i64 (m).r1.a, .int .i64 (m).r1.b, .int .i64 (m).r1.c, .int .i64 (m).r1.d, .int .i64 ((m).n : Int)] 64)
  res : wr.heap[w.heap.size + 1]? = some (.cells #[.int .i64 0, .int .i64 0] 96)
  p : wr.heap[w.heap.size + 1 + 1]? = some (.cells #[.int .i64 (if 0 < k then m.r0.at' j else 0), .int .i64 (if 1 < k then m.r1.at' j else 0)] 96)
  below : Below w.heap.size w wr

theorem ColAt.start (w : World) (m : Mx) (j : Nat) : ColAt w (((w.alloc (.cells #[.int .i64 (m).r0.a, .int .i64 (m).r0.b, .int .i64 (m).r0.c, .int .i64 (m).r0.d, .int .i64 (m).r1.a, .int .i64 (m).r1.b, .int .i64 (m).r1.c, .int .i64 (m).r1.d, .int .i64 ((m).n : Int)] 64)).alloc (.cells #[.int .i64 0, .int .i64 0] 96)).alloc (.cells #[.int .i64 0, .int .i64 0] 96)) m j 0 := by
  refine ⟨?_, ?_, ?_, (below_two _ _ _).alloc (by simp; omega) _⟩
  · rw [Below.heap_alloc _ _ _ (by simp; omega)]; exact heap_two1 _ _ _
  · rw [Below.heap_alloc _ _ _ (by simp)]; exact heap_two2 _ _ _
  · have := heap_alloc_new ((w.alloc (.cells #[.int .i64 (m).r0.a, .int .i64 (m).r0.b, .int .i64 (m).r0.c, .int .i64 (m).r0.d, .int .i64 (m).r1.a, .int .i64 (m).r1.b, .int .i64 (m).r1.c, .int .i64 (m).r1.d, .int .i64 ((m).n : Int)] 64)).alloc (.cells #[.int .i64 0, .int .i64 0] 96)) (.cells #[.int .i64 0, .int .i64 0] 96)
    simpa using this

theorem ColAt.set0 {w wr : World} {m : Mx} {j : Nat} (h : ColAt w wr m j 0) (o : Obj) {x : Int} (hx : x = m.r0.at' j) : ColAt w ((wr.setCell ⟨w.heap.size + 1 + 1, 0, none⟩ (.int .i64 x)).alloc o) m j 1 := by
  have h1 : w.heap.size + 1 + 1 < wr.heap.size := (Array.getElem?_eq_some_iff.1 h.p).1
  refine ⟨?_, ?_, ?_, (h.below.setCell (by simp; omega) _).alloc (by simp; omega) _⟩
  · rw [Below.heap_alloc _ _ _ (by simp; omega), heap_setCell_other _ _ _ _ (by simp; omega)]; exact h.mm
  · rw [Below.heap_alloc _ _ _ (by simp; omega), heap_setCell_other _ _ _ _ (by simp)]; exact h.res
  · rw [Below.heap_alloc _ _ _ (by simp; omega), heap_setCell_same _ _ 0 _ _ _ h.p, hx]; simp
theorem ColAt.set1 {w wr : World} {m : Mx} {j : Nat} (h : ColAt w wr m j 1) (o : Obj) {x : Int} (hx : x = m.r1.at' j) : ColAt w ((wr.setCell ⟨w.heap.size + 1 + 1, 1, none⟩ (.int .i64 x)).alloc o) m j 2 := by
  have h1 : w.heap.size + 1 + 1 < wr.heap.size := (Array.getElem?_eq_some_iff.1 h.p).1
  refine ⟨?_, ?_, ?_, (h.below.setCell (by simp; omega) _).alloc (by simp; omega) _⟩
  · rw [Below.heap_alloc _ _ _ (by simp; omega), heap_setCell_other _ _ _ _ (by simp; omega)]; exact h.mm
  · rw [Below.heap_alloc _ _ _ (by simp; omega), heap_setCell_other _ _ _ _ (by simp)]; exact h.res
  · rw [Below.heap_alloc _ _ _ (by simp; omega), heap_setCell_same _ _ 1 _ _ _ h.p, hx]; simp

set_option maxHeartbeats 4000000 in
set_option maxRecDepth 100000 in
theorem mcolumn_any (m : Mx) (j : Nat) (w : World) (hj : j < 4) :
    Calls Try.prog 119 #[.agg #[.int .i64 (m).r0.a, .int .i64 (m).r0.b, .int .i64 (m).r0.c, .int .i64 (m).r0.d, .int .i64 (m).r1.a, .int .i64 (m).r1.b, .int .i64 (m).r1.c, .int .i64 (m).r1.d, .int .i64 ((m).n : Int)], .int .i64 j] w fun e w' => e = .returned (.agg #[.int .i64 (m.r0.at' j), .int .i64 (m.r1.at' j)]) ∧ Below w.heap.size w w' := by
  have i0 := ridx0 m.r0 m.r1
  have i1 := ridx1 m.r0 m.r1
  have h5 : j = 0 ∨ j = 1 ∨ j = 2 ∨ j = 3 := by omega
  rcases h5 with rfl | rfl | rfl | rfl
  · go_enter Try.func119, Try.ntmps119
    go_wp2
    go_loopw [10] (fun i wr => ∃ k : Nat, k ≤ 2 ∧ i = .int .i64 k ∧ ColAt w wr m 0 k) (fun i _ => 2 - (intOf i).toNat)
    case atStart => exact ⟨0, Nat.zero_le _, rfl, ColAt.start w m 0⟩
    case round =>
      obtain ⟨k, hk, rfl, hT⟩ := hrel
      have c1 := prod_cells hT.res
      have c2 := prod_cells hT.p
      have hs3 : w.heap.size + 1 + 1 < wr.heap.size := (Array.getElem?_eq_some_iff.1 hT.p).1
      have hs2 : w.heap.size + 1 < wr.heap.size := by omega
      have HT := Lib.hid hT
      have HB : Hid (Below w.heap.size w wr) := hT.below
      clear hT
      have hk3 : k = 0 ∨ k = 1 ∨ k = 2 := by omega
      rcases hk3 with rfl | rfl | rfl
      · go_wp2
        exact ⟨⟨1, by omega, rfl, HT.out.set0 _ rfl⟩, by simp [intOf]⟩
      · go_wp2
        exact ⟨⟨2, by omega, rfl, HT.out.set1 _ rfl⟩, by simp [intOf]⟩
      · go_wp2
        exact bodyPost_ret (v := .agg #[.int .i64 (m.r0.at' 0), .int .i64 (m.r1.at' 0)]) (by simp [results, Try.results119, go_sem, c1, Vec.at']) rfl
          ⟨rfl, (HB.out.setCell (by simp) _).setCell (by simp) _⟩
  · go_enter Try.func119, Try.ntmps119
    go_wp2
    go_loopw [10] (fun i wr => ∃ k : Nat, k ≤ 2 ∧ i = .int .i64 k ∧ ColAt w wr m 1 k) (fun i _ => 2 - (intOf i).toNat)
    case atStart => exact ⟨0, Nat.zero_le _, rfl, ColAt.start w m 1⟩
    case round =>
      obtain ⟨k, hk, rfl, hT⟩ := hrel
      have c1 := prod_cells hT.res
      have c2 := prod_cells hT.p
      have hs3 : w.heap.size + 1 + 1 < wr.heap.size := (Array.getElem?_eq_some_iff.1 hT.p).1
      have hs2 : w.heap.size + 1 < wr.heap.size := by omega
      have HT := Lib.hid hT
      have HB : Hid (Below w.heap.size w wr) := hT.below
      clear hT
      have hk3 : k = 0 ∨ k = 1 ∨ k = 2 := by omega
      rcases hk3 with rfl | rfl | rfl
      · go_wp2
        exact ⟨⟨1, by omega, rfl, HT.out.set0 _ rfl⟩, by simp [intOf]⟩
      · go_wp2
        exact ⟨⟨2, by omega, rfl, HT.out.set1 _ rfl⟩, by simp [intOf]⟩
      · go_wp2
        exact bodyPost_ret (v := .agg #[.int .i64 (m.r0.at' 1), .int .i64 (m.r1.at' 1)]) (by simp [results, Try.results119, go_sem, c1, Vec.at']) rfl
          ⟨rfl, (HB.out.setCell (by simp) _).setCell (by simp) _⟩
  · go_enter Try.func119, Try.ntmps119
    go_wp2
    go_loopw [10] (fun i wr => ∃ k : Nat, k ≤ 2 ∧ i = .int .i64 k ∧ ColAt w wr m 2 k) (fun i _ => 2 - (intOf i).toNat)
    case atStart => exact ⟨0, Nat.zero_le _, rfl, ColAt.start w m 2⟩
    case round =>
      obtain ⟨k, hk, rfl, hT⟩ := hrel
      have c1 := prod_cells hT.res
      have c2 := prod_cells hT.p
      have hs3 : w.heap.size + 1 + 1 < wr.heap.size := (Array.getElem?_eq_some_iff.1 hT.p).1
      have hs2 : w.heap.size + 1 < wr.heap.size := by omega
      have HT := Lib.hid hT
      have HB : Hid (Below w.heap.size w wr) := hT.below
      clear hT
      have hk3 : k = 0 ∨ k = 1 ∨ k = 2 := by omega
      rcases hk3 with rfl | rfl | rfl
      · go_wp2
        exact ⟨⟨1, by omega, rfl, HT.out.set0 _ rfl⟩, by simp [intOf]⟩
      · go_wp2
        exact ⟨⟨2, by omega, rfl, HT.out.set1 _ rfl⟩, by simp [intOf]⟩
      · go_wp2
        exact bodyPost_ret (v := .agg #[.int .i64 (m.r0.at' 2), .int .i64 (m.r1.at' 2)]) (by simp [results, Try.results119, go_sem, c1, Vec.at']) rfl
          ⟨rfl, (HB.out.setCell (by simp) _).setCell (by simp) _⟩
  · go_enter Try.func119, Try.ntmps119
    go_wp2
    go_loopw [10] (fun i wr => ∃ k : Nat, k ≤ 2 ∧ i = .int .i64 k ∧ ColAt w wr m 3 k) (fun i _ => 2 - (intOf i).toNat)
    case atStart => exact ⟨0, Nat.zero_le _, rfl, ColAt.start w m 3⟩
    case round =>
      obtain ⟨k, hk, rfl, hT⟩ := hrel
      have c1 := prod_cells hT.res
      have c2 := prod_cells hT.p
      have hs3 : w.heap.size + 1 + 1 < wr.heap.size := (Array.getElem?_eq_some_iff.1 hT.p).1
      have hs2 : w.heap.size + 1 < wr.heap.size := by omega
      have HT := Lib.hid hT
      have HB : Hid (Below w.heap.size w wr) := hT.below
      clear hT
      have hk3 : k = 0 ∨ k = 1 ∨ k = 2 := by omega
      rcases hk3 with rfl | rfl | rfl
      · go_wp2
        exact ⟨⟨1, by omega, rfl, HT.out.set0 _ rfl⟩, by simp [intOf]⟩
      · go_wp2
        exact ⟨⟨2, by omega, rfl, HT.out.set1 _ rfl⟩, by simp [intOf]⟩
      · go_wp2
        exact bodyPost_ret (v := .agg #[.int .i64 (m.r0.at' 3), .int .i64 (m.r1.at' 3)]) (by simp [results, Try.results119, go_sem, c1, Vec.at']) rfl
          ⟨rfl, (HB.out.setCell (by simp) _).setCell (by simp) _⟩
end Go.Proofs.Ytaglbnblfhfkeaa
