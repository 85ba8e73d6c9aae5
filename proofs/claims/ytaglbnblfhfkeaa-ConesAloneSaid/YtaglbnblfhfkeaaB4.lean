import Derived.Test.YtaglbnblfhfkeaaB3
namespace Go.Proofs.Ytaglbnblfhfkeaa
open Go.RowKit

/-- What readMatrix returns: the rows, 0 where the matrix has none. -/
def rowN (R : Nat) (L : Nat → Nat) (Z : Nat → Nat → Int) (j : Nat) : Nat → Int := if j < R then padN (Z j) (L j) else fun _ => 0

set_option maxHeartbeats 2000000 in
set_option maxRecDepth 100000 in
theorem readMatrix_no1 (a : Option Addr) (cap R : Nat) (A : Nat → Option Addr) (L C : Nat → Nat) (Z : Nat → Nat → Int) (w : World) (hs : R ≤ 140737488351232) (hm : Mat w a R A L C Z) (h : R < 1 ∨ 2 < R ∨ L 0 < 1) :
    Calls Try.prog 62 #[.slice a R cap] w fun e w' => e = .returned (.tuple #[.agg #[.int .i64 0, .int .i64 0, .int .i64 0, .int .i64 0, .int .i64 0, .int .i64 0, .int .i64 0, .int .i64 0, .int .i64 0], .bool false]) ∧ Below w.heap.size w w' := by
  by_cases h1 : R < 1
  · clear h
    go_enter Try.func62, Try.ntmps62
    go_wp2
    exact bodyPost_ret (v := .tuple #[.agg #[.int .i64 0, .int .i64 0, .int .i64 0, .int .i64 0, .int .i64 0, .int .i64 0, .int .i64 0, .int .i64 0, .int .i64 0], .bool false]) (by simp [results, Try.results62, go_sem]) rfl ⟨rfl, below_two _ _ _⟩
  by_cases h2 : 2 < R
  · clear h
    go_enter Try.func62, Try.ntmps62
    go_wp2
    exact bodyPost_ret (v := .tuple #[.agg #[.int .i64 0, .int .i64 0, .int .i64 0, .int .i64 0, .int .i64 0, .int .i64 0, .int .i64 0, .int .i64 0, .int .i64 0], .bool false]) (by simp [results, Try.results62, go_sem]) rfl ⟨rfl, below_two _ _ _⟩
  have h3 : L 0 < 1 := by omega
  have hR : (0 : Int) < R := by omega
  obtain ⟨b, o, rfl, hc0⟩ := (hm.keep (Nat.le_refl _) (below_two w (.cells #[.int .i64 0, .int .i64 0, .int .i64 0, .int .i64 0, .int .i64 0, .int .i64 0, .int .i64 0, .int .i64 0, .int .i64 0] 64) (.cells #[.int .i64 0, .int .i64 0, .int .i64 0, .int .i64 0, .int .i64 0, .int .i64 0, .int .i64 0, .int .i64 0, .int .i64 0] 64))).row 0 (by omega)
  simp only [Nat.add_zero] at hc0
  clear h hm
  go_enter Try.func62, Try.ntmps62
  go_wp2
  exact bodyPost_ret (v := .tuple #[.agg #[.int .i64 0, .int .i64 0, .int .i64 0, .int .i64 0, .int .i64 0, .int .i64 0, .int .i64 0, .int .i64 0, .int .i64 0], .bool false]) (by simp [results, Try.results62, go_sem]) rfl ⟨rfl, below_two _ _ _⟩

theorem mat_cells {w : World} {b : Nat} {r0 r1 : Nat → Int} {c : Int} {T : TypeId} (h : w.heap[b]? = some (.cells #[.int .i64 (r0 0), .int .i64 (r0 1), .int .i64 (r0 2), .int .i64 (r0 3), .int .i64 (r1 0), .int .i64 (r1 1), .int .i64 (r1 2), .int .i64 (r1 3), .int .i64 c] T)) :
    w.cell? ⟨b, 0, none⟩ = some (.int .i64 (r0 0)) ∧ w.cell? ⟨b, 1, none⟩ = some (.int .i64 (r0 1)) ∧ w.cell? ⟨b, 2, none⟩ = some (.int .i64 (r0 2)) ∧ w.cell? ⟨b, 3, none⟩ = some (.int .i64 (r0 3)) ∧
    w.cell? ⟨b, 4, none⟩ = some (.int .i64 (r1 0)) ∧ w.cell? ⟨b, 5, none⟩ = some (.int .i64 (r1 1)) ∧ w.cell? ⟨b, 6, none⟩ = some (.int .i64 (r1 2)) ∧ w.cell? ⟨b, 7, none⟩ = some (.int .i64 (r1 3)) ∧
    w.cell? ⟨b, 8, none⟩ = some (.int .i64 c) ∧ ∀ j, w.frozen? ⟨b, j, none⟩ = false :=
  ⟨block_cell h 0, block_cell h 1, block_cell h 2, block_cell h 3, block_cell h 4, block_cell h 5, block_cell h 6, block_cell h 7, block_cell h 8, block_free h⟩

theorem vec_cells {w : World} {b : Nat} {v : Nat → Int} {T : TypeId} (h : w.heap[b]? = some (.cells #[.int .i64 (v 0), .int .i64 (v 1), .int .i64 (v 2), .int .i64 (v 3)] T)) :
    w.cell? ⟨b, 0, none⟩ = some (.int .i64 (v 0)) ∧ w.cell? ⟨b, 1, none⟩ = some (.int .i64 (v 1)) ∧ w.cell? ⟨b, 2, none⟩ = some (.int .i64 (v 2)) ∧ w.cell? ⟨b, 3, none⟩ = some (.int .i64 (v 3)) ∧
    ∀ j, w.frozen? ⟨b, j, none⟩ = false :=
  ⟨block_cell h 0, block_cell h 1, block_cell h 2, block_cell h 3, block_free h⟩

/-- What holds at the loop's head, k rows read. -/
structure Reading (w wr : World) (L : Nat → Nat) (Z : Nat → Nat → Int) (k : Nat) : Prop where
  res : wr.heap[w.heap.size]? = some (.cells #[.int .i64 0, .int .i64 0, .int .i64 0, .int .i64 0, .int .i64 0, .int .i64 0, .int .i64 0, .int .i64 0, .int .i64 0] 64)
  m : wr.heap[w.heap.size + 1]? = some (.cells #[.int .i64 (rowN k L Z 0 0), .int .i64 (rowN k L Z 0 1), .int .i64 (rowN k L Z 0 2), .int .i64 (rowN k L Z 0 3), .int .i64 (rowN k L Z 1 0), .int .i64 (rowN k L Z 1 1), .int .i64 (rowN k L Z 1 2), .int .i64 (rowN k L Z 1 3), .int .i64 (L 0 : Int)] 64)
  below : Below w.heap.size w wr
  ok : ∀ j, j < k → L j = L 0 ∧ 1 ≤ L j ∧ L j ≤ 4 ∧ ∀ i, i < L j → -2 ≤ Z j i ∧ Z j i ≤ 2

theorem Reading.step0 {w w1 : World} {L : Nat → Nat} {Z : Nat → Nat → Int} (hr : w1.heap[w.heap.size]? = some (.cells #[.int .i64 0, .int .i64 0, .int .i64 0, .int .i64 0, .int .i64 0, .int .i64 0, .int .i64 0, .int .i64 0, .int .i64 0] 64))
    (hm : w1.heap[w.heap.size + 1]? = some (.cells #[.int .i64 (rowN 0 L Z 0 0), .int .i64 (rowN 0 L Z 0 1), .int .i64 (rowN 0 L Z 0 2), .int .i64 (rowN 0 L Z 0 3), .int .i64 (rowN 0 L Z 1 0), .int .i64 (rowN 0 L Z 1 1), .int .i64 (rowN 0 L Z 1 2), .int .i64 (rowN 0 L Z 1 3), .int .i64 (L 0 : Int)] 64)) (hb : Below w.heap.size w w1) (hsz : w.heap.size + 1 < w1.heap.size)
    (ok : ∀ j, j < 0 + 1 → L j = L 0 ∧ 1 ≤ L j ∧ L j ≤ 4 ∧ ∀ i, i < L j → -2 ≤ Z j i ∧ Z j i ≤ 2) (o : Obj) :
    Reading w (((((w1.setCell ⟨w.heap.size + 1, 0, none⟩ (.int .i64 (padN (Z 0) (L 0) 0))).setCell ⟨w.heap.size + 1, 1, none⟩ (.int .i64 (padN (Z 0) (L 0) 1))).setCell ⟨w.heap.size + 1, 2, none⟩ (.int .i64 (padN (Z 0) (L 0) 2))).setCell ⟨w.heap.size + 1, 3, none⟩ (.int .i64 (padN (Z 0) (L 0) 3))).alloc o) L Z 1 := by
  refine ⟨?_, ?_, (below_set4 (o := 0) hb (by omega) _ _ _ _).alloc (by simp; omega) _, ok⟩
  · rw [Below.heap_alloc _ _ _ (by simp; omega), heap_setCell_other _ _ _ _ (by simp), heap_setCell_other _ _ _ _ (by simp), heap_setCell_other _ _ _ _ (by simp), heap_setCell_other _ _ _ _ (by simp)]
    exact hr
  · rw [Below.heap_alloc _ _ _ (by simp; omega)]
    have := heap_setCell_same _ _ 3 _ _ (.int .i64 (padN (Z 0) (L 0) 3)) (heap_setCell_same _ _ 2 _ _ (.int .i64 (padN (Z 0) (L 0) 2)) (heap_setCell_same _ _ 1 _ _ (.int .i64 (padN (Z 0) (L 0) 1)) (heap_setCell_same _ _ 0 _ _ (.int .i64 (padN (Z 0) (L 0) 0)) hm)))
    rw [this]
    simp [rowN]

theorem Reading.step1 {w w1 : World} {L : Nat → Nat} {Z : Nat → Nat → Int} (hr : w1.heap[w.heap.size]? = some (.cells #[.int .i64 0, .int .i64 0, .int .i64 0, .int .i64 0, .int .i64 0, .int .i64 0, .int .i64 0, .int .i64 0, .int .i64 0] 64))
    (hm : w1.heap[w.heap.size + 1]? = some (.cells #[.int .i64 (rowN 1 L Z 0 0), .int .i64 (rowN 1 L Z 0 1), .int .i64 (rowN 1 L Z 0 2), .int .i64 (rowN 1 L Z 0 3), .int .i64 (rowN 1 L Z 1 0), .int .i64 (rowN 1 L Z 1 1), .int .i64 (rowN 1 L Z 1 2), .int .i64 (rowN 1 L Z 1 3), .int .i64 (L 0 : Int)] 64)) (hb : Below w.heap.size w w1) (hsz : w.heap.size + 1 < w1.heap.size)
    (ok : ∀ j, j < 1 + 1 → L j = L 0 ∧ 1 ≤ L j ∧ L j ≤ 4 ∧ ∀ i, i < L j → -2 ≤ Z j i ∧ Z j i ≤ 2) (o : Obj) :
    Reading w (((((w1.setCell ⟨w.heap.size + 1, 4, none⟩ (.int .i64 (padN (Z 1) (L 0) 0))).setCell ⟨w.heap.size + 1, 5, none⟩ (.int .i64 (padN (Z 1) (L 0) 1))).setCell ⟨w.heap.size + 1, 6, none⟩ (.int .i64 (padN (Z 1) (L 0) 2))).setCell ⟨w.heap.size + 1, 7, none⟩ (.int .i64 (padN (Z 1) (L 0) 3))).alloc o) L Z 2 := by
  refine ⟨?_, ?_, (below_set4 (o := 4) hb (by omega) _ _ _ _).alloc (by simp; omega) _, ok⟩
  · rw [Below.heap_alloc _ _ _ (by simp; omega), heap_setCell_other _ _ _ _ (by simp), heap_setCell_other _ _ _ _ (by simp), heap_setCell_other _ _ _ _ (by simp), heap_setCell_other _ _ _ _ (by simp)]
    exact hr
  · rw [Below.heap_alloc _ _ _ (by simp; omega)]
    have := heap_setCell_same _ _ 7 _ _ (.int .i64 (padN (Z 1) (L 0) 3)) (heap_setCell_same _ _ 6 _ _ (.int .i64 (padN (Z 1) (L 0) 2)) (heap_setCell_same _ _ 5 _ _ (.int .i64 (padN (Z 1) (L 0) 1)) (heap_setCell_same _ _ 4 _ _ (.int .i64 (padN (Z 1) (L 0) 0)) hm)))
    rw [this]
    have h1 := (ok 1 (by omega)).1
    simp [rowN, h1]

/-- What it returns where the rows are not those of a matrix: whatever. -/
def SomeMat (w : World) (e : Ending) (w' : World) : Prop := ∃ r0 r1 : Nat → Int, ∃ c : Int, e = .returned (.tuple #[.agg #[.int .i64 (r0 0), .int .i64 (r0 1), .int .i64 (r0 2), .int .i64 (r0 3), .int .i64 (r1 0), .int .i64 (r1 1), .int .i64 (r1 2), .int .i64 (r1 3), .int .i64 c], .bool false]) ∧ Below w.heap.size w w'

set_option maxHeartbeats 4000000 in
set_option maxRecDepth 100000 in
theorem readMatrix_loop (r : Bool) (a : Option Addr) (cap R : Nat) (A : Nat → Option Addr) (L C : Nat → Nat) (Z : Nat → Nat → Int) (w : World) (hm : Mat w a R A L C Z) (hR1 : 1 ≤ R) (hR2 : R ≤ 2) (hL : 1 ≤ L 0) (hr : isMat R L Z = r) :
    Calls Try.prog 62 #[.slice a R cap] w fun e w' =>
      if r then e = .returned (.tuple #[.agg #[.int .i64 (rowN R L Z 0 0), .int .i64 (rowN R L Z 0 1), .int .i64 (rowN R L Z 0 2), .int .i64 (rowN R L Z 0 3), .int .i64 (rowN R L Z 1 0), .int .i64 (rowN R L Z 1 1), .int .i64 (rowN R L Z 1 2), .int .i64 (rowN R L Z 1 3), .int .i64 (L 0 : Int)], .bool true]) ∧ Below w.heap.size w w' else SomeMat w e w' := by
  have hR : (0 : Int) < R := by omega
  obtain ⟨b, o, rfl, hc0⟩ := (hm.keep (Nat.le_refl _) (below_two w (.cells #[.int .i64 0, .int .i64 0, .int .i64 0, .int .i64 0, .int .i64 0, .int .i64 0, .int .i64 0, .int .i64 0, .int .i64 0] 64) (.cells #[.int .i64 0, .int .i64 0, .int .i64 0, .int .i64 0, .int .i64 0, .int .i64 0, .int .i64 0, .int .i64 0, .int .i64 0] 64))).row 0 (by omega)
  simp only [Nat.add_zero] at hc0
  have Hm := Lib.hid hm
  have Hr := Lib.hid hr
  clear hr hm
  go_enter Try.func62, Try.ntmps62
  go_wp2
  go_loopw [32] (fun i wr => ∃ k : Nat, k ≤ R ∧ i = .int .i64 k ∧ Reading w wr L Z k) (fun i _ => R - (intOf i).toNat)
  case atStart => exact ⟨0, Nat.zero_le _, rfl, heap_two1 _ _ _, heap_two2 _ _ _, below_two _ _ _, fun j hj => absurd hj (Nat.not_lt_zero _)⟩
  case round =>
    obtain ⟨k, hk, rfl, hd⟩ := hrel
    clear hc0
    have hres := mat_cells (r0 := fun _ => 0) (r1 := fun _ => 0) (c := 0) hd.res
    have hmc := mat_cells hd.m
    have hlt1 := (Array.getElem?_eq_some_iff.1 hd.m).1
    have HD := Lib.hid hd
    clear hd
    by_cases hlt : k < R
    · obtain ⟨b', o', he, hck⟩ := (Hm.out.keep (Nat.le_refl _) HD.out.below).row k hlt
      cases he
      have hzi := (Hm.out.keep (Nat.le_refl _) HD.out.below).ints k hlt
      have hcap := Lib.hid (Hm.out.cap k hlt)
      by_cases g : (L k : Int) = (L 0 : Int) ∧ (L 0 : Int) ≤ 4
      · obtain ⟨g1, g2⟩ := g
        have hLk : L k = L 0 := by omega
        have hL4 : L 0 ≤ 4 := by omega
        rw [hLk] at hzi hck
        cases hA : allIn (Z k) (L 0) (-2) 2
        · have hf := isMat_no (R := R) (L := L) (Z := Z) (fun h => by
            have := allIn_iff.2 (h.2.2 k hlt).2.2.2; rw [hLk, hA] at this; cases this)
          rw [Hr.out] at hf
          subst hf
          have HA := Lib.hid hA
          clear hLk g1 g2 hA
          go_wp2_with fail
          refine (mread_yes false _ _ _ _ _ _ _ _ _ hL4 hzi HA.out).mono ?_
          rintro e w1 ⟨rfl, hb1⟩
          have hm1 := (hb1.block (w.heap.size + 1) hlt1).trans HD.out.m
          have hr1 := (hb1.block w.heap.size (by omega)).trans HD.out.res
          have hmc1 := mat_cells hm1
          have hres1 := mat_cells (r0 := fun _ => 0) (r1 := fun _ => 0) (c := 0) hr1
          have hB1 : Hid (Below w.heap.size w w1) := HD.out.below.trans (hb1.mono HD.out.below.size)
          have hsz : w.heap.size + 1 < w1.heap.size := (Array.getElem?_eq_some_iff.1 hm1).1
          have hsz0 : w.heap.size < w1.heap.size := by omega
          clear hres hmc hck hlt1 hb1 hm1 hr1 hzi
          go_wp2
          exact bodyPost_ret (v := .tuple #[.agg #[.int .i64 (rowN k L Z 0 0), .int .i64 (rowN k L Z 0 1), .int .i64 (rowN k L Z 0 2), .int .i64 (rowN k L Z 0 3), .int .i64 (rowN k L Z 1 0), .int .i64 (rowN k L Z 1 1), .int .i64 (rowN k L Z 1 2), .int .i64 (rowN k L Z 1 3), .int .i64 (L 0 : Int)], .bool false]) (by simp [results, Try.results62, go_sem, hres1, hsz0]) rfl
            ⟨rowN k L Z 0, rowN k L Z 1, (L 0 : Int), rfl, (below_set9 hB1.out (Nat.le_refl _) _ _ _ _ _ _ _ _ _).alloc (by simp; omega) _⟩
        · have HA := Lib.hid hA
          have hok : Hid (∀ j, j < k + 1 → L j = L 0 ∧ 1 ≤ L j ∧ L j ≤ 4 ∧ ∀ i, i < L j → -2 ≤ Z j i ∧ Z j i ≤ 2) := by
            intro j hj
            by_cases e : j = k
            · subst e; exact ⟨hLk, by omega, by omega, by rw [hLk]; exact allIn_iff.1 hA⟩
            · exact HD.out.ok j (by omega)
          have HL := Lib.hid hLk
          clear hLk g1 g2 hA
          go_wp2_with fail
          refine (mread_yes true _ _ _ _ _ _ _ _ _ hL4 hzi HA.out).mono ?_
          rintro e w1 ⟨rfl, hb1⟩
          have hm1 := (hb1.block (w.heap.size + 1) hlt1).trans HD.out.m
          have hr1 := (hb1.block w.heap.size (by omega)).trans HD.out.res
          have hmc1 := mat_cells hm1
          have hB1 : Hid (Below w.heap.size w w1) := HD.out.below.trans (hb1.mono HD.out.below.size)
          have hsz : w.heap.size + 1 < w1.heap.size := (Array.getElem?_eq_some_iff.1 hm1).1
          have hsz0 : w.heap.size < w1.heap.size := by omega
          have hm2 := Lib.hid hm1
          have hr2 := Lib.hid hr1
          clear hres hmc hck hlt1 hb1 hm1 hr1 hzi
          have hk01 : k = 0 ∨ k = 1 := by omega
          rcases hk01 with rfl | rfl
          · go_wp2
            exact ⟨⟨1, by omega, rfl, Reading.step0 hr2.out hm2.out hB1.out hsz hok.out _⟩, by simp [intOf]; omega⟩
          · go_wp2
            exact ⟨⟨2, by omega, rfl, Reading.step1 hr2.out hm2.out hB1.out hsz hok.out _⟩, by simp [intOf]; omega⟩
      · have hf := isMat_no (R := R) (L := L) (Z := Z) (fun h => g (by have := h.2.2 k hlt; omega))
        rw [Hr.out] at hf
        subst hf
        have G := Lib.hid g
        clear g hzi
        go_wp2_with fail
        refine (mread_no1 _ _ _ _ _ _ _ _ _ (by have := hcap.out; omega) G.out).mono ?_
        rintro e w1 ⟨rfl, hb1⟩
        have hm1 := (hb1.block (w.heap.size + 1) hlt1).trans HD.out.m
        have hr1 := (hb1.block w.heap.size (by omega)).trans HD.out.res
        have hmc1 := mat_cells hm1
        have hres1 := mat_cells (r0 := fun _ => 0) (r1 := fun _ => 0) (c := 0) hr1
        have hB1 : Hid (Below w.heap.size w w1) := HD.out.below.trans (hb1.mono HD.out.below.size)
        have hsz : w.heap.size + 1 < w1.heap.size := (Array.getElem?_eq_some_iff.1 hm1).1
        have hsz0 : w.heap.size < w1.heap.size := by omega
        clear hres hmc hck hlt1 hb1 hm1 hr1
        go_wp2
        exact bodyPost_ret (v := .tuple #[.agg #[.int .i64 (rowN k L Z 0 0), .int .i64 (rowN k L Z 0 1), .int .i64 (rowN k L Z 0 2), .int .i64 (rowN k L Z 0 3), .int .i64 (rowN k L Z 1 0), .int .i64 (rowN k L Z 1 1), .int .i64 (rowN k L Z 1 2), .int .i64 (rowN k L Z 1 3), .int .i64 (L 0 : Int)], .bool false]) (by simp [results, Try.results62, go_sem, hres1, hsz0]) rfl
          ⟨rowN k L Z 0, rowN k L Z 1, (L 0 : Int), rfl, (below_set9 hB1.out (Nat.le_refl _) _ _ _ _ _ _ _ _ _).alloc (by simp; omega) _⟩
    · have e : k = R := by omega
      subst e
      have hf := isMat_iff.2 ⟨hR1, hR2, HD.out.ok⟩
      rw [Hr.out] at hf
      subst hf
      have hB1 : Hid (Below w.heap.size w wr) := HD.out.below
      go_wp2
      exact bodyPost_ret (v := .tuple #[.agg #[.int .i64 (rowN k L Z 0 0), .int .i64 (rowN k L Z 0 1), .int .i64 (rowN k L Z 0 2), .int .i64 (rowN k L Z 0 3), .int .i64 (rowN k L Z 1 0), .int .i64 (rowN k L Z 1 1), .int .i64 (rowN k L Z 1 2), .int .i64 (rowN k L Z 1 3), .int .i64 (L 0 : Int)], .bool true]) (by simp [results, Try.results62, go_sem, hres]) rfl
          ⟨rfl, below_set9 hB1.out (Nat.le_refl _) _ _ _ _ _ _ _ _ _⟩
end Go.Proofs.Ytaglbnblfhfkeaa
