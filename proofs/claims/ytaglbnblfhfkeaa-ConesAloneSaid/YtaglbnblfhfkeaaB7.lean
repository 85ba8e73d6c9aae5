import Derived.Test.YtaglbnblfhfkeaaB6
namespace Go.Proofs.Ytaglbnblfhfkeaa
open Go.RowKit

theorem read_true (a : Option Addr) (cap n : Nat) (z : Nat → Int) (lo hi : Int) (w : World) (hn : n ≤ 4) (hc : Ints w a n z) (hr : allIn z n lo hi = true) :
    Calls Try.prog 60 #[.slice a n cap, .int .i64 n, .int .i64 lo, .int .i64 hi] w fun e w' =>
      e = .returned (.tuple #[.agg #[.int .i64 (padN z n 0), .int .i64 (padN z n 1), .int .i64 (padN z n 2), .int .i64 (padN z n 3)], .bool true]) ∧ Below w.heap.size w w' :=
  (read_yes true a cap n z lo hi w hn hc hr).mono fun e w' h => by simpa using h
theorem read_false (a : Option Addr) (cap n : Nat) (c : Int) (z : Nat → Int) (lo hi : Int) (w : World) (hn : n ≤ 140737488351232) (hc : Ints w a n z) (hr : ¬ ((n : Int) = c ∧ c ≤ 4 ∧ allIn z n lo hi = true)) :
    Calls Try.prog 60 #[.slice a n cap, .int .i64 c, .int .i64 lo, .int .i64 hi] w fun e w' =>
      e = .returned (.tuple #[.agg #[.int .i64 0, .int .i64 0, .int .i64 0, .int .i64 0], .bool false]) ∧ Below w.heap.size w w' := by
  by_cases h : (n : Int) = c ∧ c ≤ 4
  · obtain ⟨rfl, h4⟩ := h
    have hA : allIn z n lo hi = false := by
      cases e : allIn z n lo hi
      · rfl
      · exact absurd ⟨rfl, h4, e⟩ hr
    exact (read_yes false a cap n z lo hi w (by omega) hc hA).mono fun e w' h => by simpa using h
  · exact read_no1 a cap n c lo hi w hn h

/-- Are the arguments of Fits valid? -/
def fitsArg (n m : Nat) (x y : Nat → Int) : Bool := decide (1 ≤ n ∧ n ≤ 4 ∧ m = n) && (allIn x n (-1000) 1000 && allIn y m (-1000) 1000)
theorem fitsArg_iff {n m : Nat} {x y : Nat → Int} : fitsArg n m x y = true ↔ (1 ≤ n ∧ n ≤ 4 ∧ m = n) ∧ allIn x n (-1000) 1000 = true ∧ allIn y m (-1000) 1000 = true := by simp [fitsArg]

theorem fitsN_pad {x y : Nat → Int} {n : Nat} (hn : n ≤ 4) : fitsN (padN x n) (padN y n) 4 = fitsN x y n := by
  rw [Bool.eq_iff_iff, fitsN_iff, fitsN_iff]
  constructor
  · intro h j hj
    have := h j (by omega)
    simpa [padN, hj] using this
  · intro h j _
    by_cases hj : j < n
    · simpa [padN, hj] using h j hj
    · simp [padN, hj]

set_option maxHeartbeats 4000000 in
set_option maxRecDepth 100000 in
theorem fits_yes (ax ay : Option Addr) (cx cy n m : Nat) (x y : Nat → Int) (w : World) (hx : Ints w ax n x) (hy : Ints w ay m y) (hr : fitsArg n m x y = true) :
    Calls Try.prog 18 #[.slice ax n cx, .slice ay m cy] w fun e w' => e = .returned (.tuple #[.bool (fitsN x y n), .int .i64 0]) ∧ Below w.heap.size w w' := by
  obtain ⟨⟨h1, h4, hmn⟩, hA, hB⟩ := fitsArg_iff.1 hr
  subst hmn
  have G1 : ((m : Int) == 0) = false := by simp; omega
  have HA := Lib.hid hA
  have HB := Lib.hid hB
  have HX := Lib.hid hx
  have HY := Lib.hid hy
  clear hr hA hB hx hy
  go_enter Try.func18, Try.ntmps18
  go_wp2_with fail
  refine (read_true _ _ _ _ _ _ _ h4 HX.out HA.out).mono ?_
  rintro e w1 ⟨rfl, hb⟩
  have Hb1 := Lib.hid hb
  have HY1 := Lib.hid (HY.out.keep (Nat.le_refl _) (hb.alloc hb.size (.cells #[.int .i64 (padN x m 0), .int .i64 (padN x m 1), .int .i64 (padN x m 2), .int .i64 (padN x m 3)] 61)))
  have hs1 := hb.size
  clear hb
  go_wp2_with fail
  refine (read_true _ _ _ _ _ _ _ h4 HY1.out HB.out).mono ?_
  rintro e w2 ⟨rfl, hb⟩
  have Hb2 : Hid (Below w.heap.size w w2) := (Hb1.out.alloc hs1 _).trans (hb.mono (by simp; omega))
  have hv := (hb.block w1.heap.size (by simp)).trans (heap_alloc_new w1 _)
  have c0 := vec_cells hv
  have hs2 : w1.heap.size < w2.heap.size := (Array.getElem?_eq_some_iff.1 hv).1
  clear hb hv
  go_wp2_with fail
  refine (vfits_any _ _ _).mono ?_
  rintro e w3 ⟨rfl, hb⟩
  have Hb3 : Hid (Below w.heap.size w w3) := (Hb2.out.alloc (by omega) _).trans (hb.mono (by simp; omega))
  rw [fitsN_pad h4]
  clear hb
  go_wp2
  go_ret2
  exact ⟨rfl, Hb3.out⟩

set_option maxHeartbeats 4000000 in
set_option maxRecDepth 100000 in
theorem fits_no (ax ay : Option Addr) (cx cy n m : Nat) (x y : Nat → Int) (w : World) (hn : n ≤ 140737488351232) (hm : m ≤ 140737488351232) (hx : Ints w ax n x) (hy : Ints w ay m y) (hr : fitsArg n m x y = false) :
    Calls Try.prog 18 #[.slice ax n cx, .slice ay m cy] w fun e w' => e = .returned (.tuple #[.bool false, .int .i64 2]) ∧ Below w.heap.size w w' := by
  have hr' : ¬ ((1 ≤ n ∧ n ≤ 4 ∧ m = n) ∧ allIn x n (-1000) 1000 = true ∧ allIn y m (-1000) 1000 = true) := fun h => by rw [fitsArg_iff.2 h] at hr; cases hr
  by_cases h0 : n = 0
  · subst h0
    clear hr hr'
    go_enter Try.func18, Try.ntmps18
    go_wp2
    go_ret2
    exact ⟨rfl, Below.refl _ _⟩
  have G1 : ((n : Int) == 0) = false := by simp; omega
  by_cases h1 : n ≤ 4 ∧ allIn x n (-1000) 1000 = true
  · obtain ⟨h4, hA⟩ := h1
    have H2 : Hid (¬ ((m : Int) = (n : Int) ∧ (n : Int) ≤ 4 ∧ allIn y m (-1000) 1000 = true)) := fun h => hr' ⟨⟨by omega, h4, by omega⟩, hA, h.2.2⟩
    have HA := Lib.hid hA
    have HX := Lib.hid hx
    have HY := Lib.hid hy
    clear hr hr' hA hx hy
    go_enter Try.func18, Try.ntmps18
    go_wp2_with fail
    refine (read_true _ _ _ _ _ _ _ h4 HX.out HA.out).mono ?_
    rintro e w1 ⟨rfl, hb⟩
    have Hb1 := Lib.hid hb
    have HY1 := Lib.hid (HY.out.keep (Nat.le_refl _) (hb.alloc hb.size (.cells #[.int .i64 (padN x n 0), .int .i64 (padN x n 1), .int .i64 (padN x n 2), .int .i64 (padN x n 3)] 61)))
    have hs1 := hb.size
    clear hb
    go_wp2_with fail
    refine (read_false _ _ _ _ _ _ _ _ hm HY1.out H2.out).mono ?_
    rintro e w2 ⟨rfl, hb⟩
    have Hb2 : Hid (Below w.heap.size w w2) := (Hb1.out.alloc hs1 _).trans (hb.mono (by simp; omega))
    have hs2 : w1.heap.size < w2.heap.size := by have := hb.size; simp at this; omega
    clear hb
    go_wp2
    go_ret2
    exact ⟨rfl, Hb2.out.alloc (by omega) _⟩
  · have H2 : Hid (¬ ((n : Int) = (n : Int) ∧ (n : Int) ≤ 4 ∧ allIn x n (-1000) 1000 = true)) := fun h => h1 ⟨by omega, h.2.2⟩
    have HX := Lib.hid hx
    clear hr hr' h1 hx hy
    go_enter Try.func18, Try.ntmps18
    go_wp2_with fail
    refine (read_false _ _ _ _ _ _ _ _ hn HX.out (fun h => H2.out ⟨trivial, h.2⟩)).mono ?_
    rintro e w1 ⟨rfl, hb⟩
    have Hb1 := Lib.hid hb
    have hs1 := hb.size
    clear hb
    go_wp2
    go_ret2
    exact ⟨rfl, Hb1.out.alloc hs1 _⟩
end Go.Proofs.Ytaglbnblfhfkeaa
