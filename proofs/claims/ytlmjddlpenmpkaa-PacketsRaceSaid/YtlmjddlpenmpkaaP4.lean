import Derived.Test.YtlmjddlpenmpkaaP3
namespace Go.Proofs.Ytlmjddlpenmpkaa
open Go.RowKit Go.Shelf

/-- Two sets, as a literal slice holds them. -/
def twoS (x y : Int) (j : Nat) : Int := if j = 0 then x else y
theorem ints_two (w : World) (x y : Int) : Ints (w.alloc (.cells #[.int .i64 x, .int .i64 y] 3)) (some ⟨w.heap.size, 0, none⟩) 2 (twoS x y) := by
  intro j hj
  have : j = 0 ∨ j = 1 := by omega
  rcases this with rfl | rfl
  · exact ⟨w.heap.size, 0, rfl, block_cell (heap_alloc_new w _) 0⟩
  · exact ⟨w.heap.size, 0, rfl, block_cell (heap_alloc_new w _) 1⟩
theorem valid2_iff {n : Nat} {z : Nat → Int} {x y : Int} : validB n z 2 (twoS x y) = (okS n z x && okS n z y) := by
  rw [Bool.eq_iff_iff, Bool.and_eq_true, okS_iff, okS_iff, validB_iff]
  constructor
  · intro h
    exact ⟨⟨h.1, h.2 0 (by omega)⟩, ⟨h.1, h.2 1 (by omega)⟩⟩
  · intro h
    refine ⟨h.1.1, fun j hj => ?_⟩
    have : j = 0 ∨ j = 1 := by omega
    rcases this with rfl | rfl
    · exact h.1.2
    · exact h.2.2
theorem valid_both (r : Bool) (a : Option Addr) (n cap : Nat) (z : Nat → Int) (x y : Int) (w : World) (h : (okS n z x && okS n z y) = r) (hn : n ≤ 140737488351232) (hz : Ints w a n z) :
    Calls Try.prog 48 #[.slice a n cap, .slice (some ⟨w.heap.size + 1, 0, none⟩) 2 2] ((w.alloc (.cells #[.int .i64 0, .int .i64 0] 24)).alloc (.cells #[.int .i64 x, .int .i64 y] 3)) fun e w' => e = .returned (.bool r) ∧ ((w.alloc (.cells #[.int .i64 0, .int .i64 0] 24)).alloc (.cells #[.int .i64 x, .int .i64 y] 3)) = w' := by
  have hi := ints_two (w.alloc (.cells #[.int .i64 0, .int .i64 0] 24)) x y
  rw [World.size_alloc] at hi
  exact valid_r r a n cap z _ 2 2 (twoS x y) _ (by rw [valid2_iff]; exact h) hn (by omega) (hz.keep (Nat.le_refl _) (below_two _ _ _)) hi

set_option maxRecDepth 100000 in
set_option maxHeartbeats 2000000 in
theorem fFirst_bad (a : Option Addr) (n cap : Nat) (z : Nat → Int) (x y : Int) (w : World) (h : (okS n z x && okS n z y) = false ∨ x = 0 ∨ y = 0) (hn : n ≤ 140737488351232) (hz : Ints w a n z) :
    Calls Try.prog 33 #[.slice a n cap, .int .i64 x, .int .i64 y] w fun e w' => BadOut w e w' := by
  cases hv : (okS n z x && okS n z y)
  · have HV := Lib.hid (valid_both false a n cap z x y w hv hn hz)
    clear h hz hv
    go_enter Try.func33, Try.ntmps33
    go_wp2_with (go_at_call 48; refine HV.out.mono ?_; rintro e w' ⟨rfl, rfl⟩)
    exact bodyPost_ret (v := .tuple #[.agg #[.int .i64 0, .int .i64 0], .int .i64 2]) (by simp [results, Try.results33, go_sem]) rfl ⟨rfl, below_two w _ _⟩
  · have hk : x = 0 ∨ y = 0 := by
      rcases h with h | h
      · rw [hv] at h; cases h
      · exact h
    have HV := Lib.hid (valid_both true a n cap z x y w hv hn hz)
    clear h hz hv
    by_cases hx : x = 0
    · have G : (x == 0) = true := by simp [hx]
      clear hk hx
      go_enter Try.func33, Try.ntmps33
      go_wp2_with (go_at_call 48; refine HV.out.mono ?_; rintro e w' ⟨rfl, rfl⟩)
      exact bodyPost_ret (v := .tuple #[.agg #[.int .i64 0, .int .i64 0], .int .i64 2]) (by simp [results, Try.results33, go_sem]) rfl ⟨rfl, below_two w _ _⟩
    · have G : (x == 0) = false := by simp [hx]
      have G2 : (y == 0) = true := by
        rcases hk with h | h
        · exact absurd h hx
        · simp [h]
      clear hk hx
      go_enter Try.func33, Try.ntmps33
      go_wp2_with (go_at_call 48; refine HV.out.mono ?_; rintro e w' ⟨rfl, rfl⟩)
      exact bodyPost_ret (v := .tuple #[.agg #[.int .i64 0, .int .i64 0], .int .i64 2]) (by simp [results, Try.results33, go_sem]) rfl ⟨rfl, below_two w _ _⟩

set_option maxRecDepth 100000 in
set_option maxHeartbeats 2000000 in
theorem fFirst_good (a : Option Addr) (n cap : Nat) (z : Nat → Int) (x y L : Nat) (w : World) (hx : okS n z x = true) (hy : okS n z y = true) (hx0 : x ≠ 0) (hy0 : y ≠ 0) (hn : n ≤ 140737488351232) (hz : Ints w a n z) (hL : 1 ≤ L) (hM : L ≤ 1152921504606846976)
    (hk : ∀ k ∈ kindsL (sdiff y x), LastOk z k (sdiff (x ||| y) (2 ^ k)) L) (hA : sumA (laX z L (x ||| y)) (kindsL (sdiff y x)) ≤ 4611686018427387903) :
    Calls Try.prog 33 #[.slice a n cap, .int .i64 x, .int .i64 y] w fun e w' => FrOut (fiX z L x y) L w e w' := by
  have HV := Lib.hid (valid_both true a n cap z x y w (by rw [hx, hy]; rfl) hn hz)
  obtain ⟨t, ht, hs, h1n, hn6, h9⟩ := okS_nat hx
  have ht' : x = t := by omega
  subst ht'
  obtain ⟨t, ht2, hs2, _, _, _⟩ := okS_nat hy
  have ht' : y = t := by omega
  subst ht'
  have HM := Lib.hid (first_any a n cap z x y L ((w.alloc (.cells #[.int .i64 0, .int .i64 0] 24)).alloc (.cells #[.int .i64 x, .int .i64 y] 3)) hs hs2 hn6 (hz.keep (Nat.le_refl _) (below_two _ _ _)) h9 hL hM hk hA)
  have G : ((x : Int) == 0) = false := by simp; omega
  have G2 : ((y : Int) == 0) = false := by simp; omega
  clear hx hy hz ht ht2 hs hs2 h9 hk hA hx0 hy0
  generalize fiX z L x y = X at *
  go_enter Try.func33, Try.ntmps33
  go_wp2_with (go_at_call 48; refine HV.out.mono ?_; rintro e w' ⟨rfl, rfl⟩)
  refine HM.out.mono ?_
  rintro e w4 ⟨rfl, hb4⟩
  obtain ⟨q1, q2, q3, q4⟩ := fr_cells ((hb4.block w.heap.size (by simp; omega)).trans (heap_two1 w _ _))
  have HB4 : Hid (Below w.heap.size w w4) := (below_two w _ _).trans (hb4.mono (by simp; omega))
  clear hb4
  go_wp2
  exact bodyPost_ret (v := .tuple #[.agg #[.int .i64 (frA X L), .int .i64 (frB X L : Nat)], .int .i64 0]) (by simp [results, Try.results33, go_sem, q1, q2]) rfl ⟨rfl, (HB4.out.setCell (by simp) _).setCell (by simp) _⟩
end Go.Proofs.Ytlmjddlpenmpkaa
