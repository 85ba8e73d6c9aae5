import Derived.Test.YtgednacoeifclaaP1
namespace Go.Proofs.Ytgednacoeifclaa
open Go.RowKit Go.Shelf

/-- The chance that kind k is the last of a set, over L. -/
def laX (z : Nat → Int) (L s k : Nat) : Int := lX z L k (sdiff s (2 ^ k))

set_option maxRecDepth 100000 in
set_option maxHeartbeats 2000000 in
theorem fLast_good (a : Option Addr) (n cap : Nat) (z : Nat → Int) (s k L : Nat) (w : World) (h : okS n z s = true) (hb : s.testBit k = true) (hn : n ≤ 140737488351232) (hz : Ints w a n z) (hok : LastOk z k (sdiff s (2 ^ k)) L) :
    Calls Try.prog 20 #[.slice a n cap, .int .i64 s, .int .i64 k] w fun e w' => FrOut (laX z L s k) L w e w' := by
  have HV := Lib.hid (valid_one true a n cap z s w h hn hz)
  obtain ⟨t, ht, hs, h1n, hn6, h9⟩ := okS_nat h
  have ht' : s = t := by omega
  subst ht'
  have hkn : k < n := by
    rcases Nat.lt_or_ge k n with h1 | h1
    · exact h1
    · have : s < 2 ^ k := Nat.lt_of_lt_of_le hs (Nat.pow_le_pow_right (by decide) h1)
      rw [Nat.testBit_lt_two_pow this] at hb; cases hb
  have hs64 := lt64 hs hn6
  have HH := Lib.hid (fun W => has_r true s k W (Nat.lt_of_lt_of_le hs64 (by decide)) (by omega) hb)
  have HM : Hid (Calls Try.prog 52 #[.slice a n cap, .int .i64 s, .int .i64 k] ((w.alloc (.cells #[.int .i64 0, .int .i64 0] 24)).alloc (.cells #[.int .i64 s] 3)) fun e w' => QOut (laX z L s k) L ((w.alloc (.cells #[.int .i64 0, .int .i64 0] 24)).alloc (.cells #[.int .i64 s] 3)) e w') :=
    last_any a n cap z s k L _ hs hkn hn6 (hz.keep (Nat.le_refl _) (below_two _ _ _)) h9 hok
  clear h hz ht hs h9 hb hok hs64
  generalize laX z L s k = X at *
  go_enter Try.func20, Try.ntmps20
  go_wp2_with (first | (go_at_call 48; refine HV.out.mono ?_; rintro e w' ⟨rfl, rfl⟩) | (go_at_call 51; refine (HH.out _).mono ?_; rintro e w' ⟨rfl, rfl⟩))
  refine HM.out.mono ?_
  rintro e w4 ⟨rfl, hb4⟩
  obtain ⟨q1, q2, q3, q4⟩ := fr_cells ((hb4.block w.heap.size (by simp; omega)).trans (heap_two1 w _ _))
  have HB4 : Hid (Below w.heap.size w w4) := (below_two w _ _).trans (hb4.mono (by simp; omega))
  clear hb4
  go_wp2
  exact bodyPost_ret (v := .tuple #[.agg #[.int .i64 (frA X L), .int .i64 (frB X L : Nat)], .int .i64 0]) (by simp [results, Try.results20, go_sem, q1, q2]) rfl ⟨rfl, (HB4.out.setCell (by simp) _).setCell (by simp) _⟩

set_option maxRecDepth 100000 in
set_option maxHeartbeats 4000000 in
theorem first1_any (a : Option Addr) (n cap : Nat) (z : Nat → Int) (x y L : Nat) (xs : List Nat) (b1 b2 b3 : Nat) (w : World) (hx : x < 2 ^ n) (hy : y < 2 ^ n) (hn : n ≤ 6) (hz : Ints w a n z) (h9 : ∀ j, j < n → 1 ≤ z j ∧ z j ≤ 9)
    (hc1 : w.cell? ⟨b1, 0, none⟩ = some (.slice a n cap)) (hc2 : w.cell? ⟨b2, 0, none⟩ = some (.int .i64 x)) (hc3 : w.cell? ⟨b3, 0, none⟩ = some (.int .i64 y)) (hk : ∀ k ∈ xs, k < n ∧ LastOk z k (sdiff (x ||| y) (2 ^ k)) L) :
    Num 81 #[.pointer (some ⟨b1, 0, none⟩), .pointer (some ⟨b2, 0, none⟩), .pointer (some ⟨b3, 0, none⟩)] (laX z L (x ||| y)) L xs w := by
  intro k hkk W hW
  obtain ⟨hkn, hok⟩ := hk k hkk
  have c1 : W.cell? ⟨b1, 0, none⟩ = some (.slice a n cap) := (hW.cell (p := ⟨b1, 0, none⟩) (World.block_lt_of_cell? _ _ hc1)).trans hc1
  have c2 : W.cell? ⟨b2, 0, none⟩ = some (.int .i64 x) := (hW.cell (p := ⟨b2, 0, none⟩) (World.block_lt_of_cell? _ _ hc2)).trans hc2
  have c3 : W.cell? ⟨b3, 0, none⟩ = some (.int .i64 y) := (hW.cell (p := ⟨b3, 0, none⟩) (World.block_lt_of_cell? _ _ hc3)).trans hc3
  have d1 : (W.alloc (.cells #[.int .i64 0, .int .i64 0] 24)).cell? ⟨b1, 0, none⟩ = some (.slice a n cap) := cell_kept c1 (World.grownBy_alloc W _ none) (fun r e => by cases e)
  have d2 : (W.alloc (.cells #[.int .i64 0, .int .i64 0] 24)).cell? ⟨b2, 0, none⟩ = some (.int .i64 x) := cell_kept c2 (World.grownBy_alloc W _ none) (fun r e => by cases e)
  have d3 : (W.alloc (.cells #[.int .i64 0, .int .i64 0] 24)).cell? ⟨b3, 0, none⟩ = some (.int .i64 y) := cell_kept c3 (World.grownBy_alloc W _ none) (fun r e => by cases e)
  have hxy : x ||| y < 2 ^ n := Nat.or_lt_two_pow hx hy
  have HD : Hid (Calls Try.prog 52 #[.slice a n cap, .int .i64 ((x ||| y : Nat) : Int), .int .i64 k] (W.alloc (.cells #[.int .i64 0, .int .i64 0] 24)) fun e w' => QOut (laX z L (x ||| y) k) L (W.alloc (.cells #[.int .i64 0, .int .i64 0] 24)) e w') :=
    last_any a n cap z (x ||| y) k L _ hxy hkn hn (hz.keep (Nat.le_refl _) (hW.trans ((below_one W _).mono hW.size))) h9 hok
  have HOr : Hid (bits .or .i64 (x : Int) (y : Int) = ((x ||| y : Nat) : Int)) := bor_nat x y (Nat.lt_of_lt_of_le (lt64 hx hn) (by decide)) (Nat.lt_of_lt_of_le (lt64 hy hn) (by decide))
  clear hW hk hz h9 hc1 hc2 hc3 c1 c2 c3 hkk hok
  generalize laX z L (x ||| y) k = X at *
  show Calls Try.prog 81 #[.int .i64 k, .pointer (some ⟨b1, 0, none⟩), .pointer (some ⟨b2, 0, none⟩), .pointer (some ⟨b3, 0, none⟩)] W _
  go_enter Try.func81, Try.ntmps81
  go_wp2_with (go_at_call 52; rw [HOr.out]; refine HD.out.mono ?_; rintro e w1 ⟨rfl, hb1⟩; obtain ⟨s1, s2, s3, s4⟩ := fr_cells ((hb1.block W.heap.size (by simp)).trans (heap_alloc_new W _)); have HF : Hid (Below W.heap.size W w1) := (below_one W _).trans (hb1.mono (by simp)); clear hb1)
  exact bodyPost_ret (v := .agg #[.int .i64 (frA X L), .int .i64 (frB X L : Nat)]) (by simp [results, Try.results81, go_sem, s1, s2]) rfl ⟨rfl, (HF.out.setCell (by simp) _).setCell (by simp) _⟩

/-- The chance that the set x is there before the set y, over L. -/
def fiX (z : Nat → Int) (L x y : Nat) : Int := sumC (laX z L (x ||| y)) (kindsL (sdiff y x))

/-- What 'kinds' hands back, loosely. -/
def KiOut (s : Nat) (w : World) (e : Ending) (w' : World) : Prop :=
  ∃ b, e = .returned (.func (.func 94) #[] #[.pointer (some ⟨b, 0, none⟩)]) ∧ w'.cell? ⟨b, 0, none⟩ = some (.int .i64 s) ∧ Below w.heap.size w w'
theorem kinds_out (s : Nat) (w : World) : Calls Try.prog 79 #[.int .i64 s] w fun e w' => KiOut s w e w' := by
  refine (kinds_any s w).mono ?_
  rintro e w' ⟨rfl, rfl⟩
  exact ⟨_, rfl, block_cell (heap_alloc_new w _) 0, below_one w _⟩

set_option maxRecDepth 100000 in
set_option maxHeartbeats 8000000 in
theorem first_any (a : Option Addr) (n cap : Nat) (z : Nat → Int) (x y L : Nat) (w : World) (hx : x < 2 ^ n) (hy : y < 2 ^ n) (hn : n ≤ 6) (hz : Ints w a n z) (h9 : ∀ j, j < n → 1 ≤ z j ∧ z j ≤ 9) (hL : 1 ≤ L) (hM : L ≤ 1152921504606846976)
    (hk : ∀ k ∈ kindsL (sdiff y x), LastOk z k (sdiff (x ||| y) (2 ^ k)) L) (hA : sumA (laX z L (x ||| y)) (kindsL (sdiff y x)) ≤ 4611686018427387903) :
    Calls Try.prog 63 #[.slice a n cap, .int .i64 x, .int .i64 y] w fun e w' => QOut (fiX z L x y) L w e w' := by
  have hd := sdiff_lt (t := x) hy
  have HS : Hid (∀ W b1 b2 b3 b4, Below w.heap.size w W → W.cell? ⟨b1, 0, none⟩ = some (.slice a n cap) ∧ W.cell? ⟨b2, 0, none⟩ = some (.int .i64 x) ∧ W.cell? ⟨b3, 0, none⟩ = some (.int .i64 y) → W.cell? ⟨b4, 0, none⟩ = some (.int .i64 ((sdiff y x : Nat) : Int)) →
      Calls Try.prog 78 #[.func (.func 94) #[] #[.pointer (some ⟨b4, 0, none⟩)], .func (.func 81) #[] #[.pointer (some ⟨b1, 0, none⟩), .pointer (some ⟨b2, 0, none⟩), .pointer (some ⟨b3, 0, none⟩)]] W fun e w' => e = .returned (.agg #[.int .i64 (frA (fiX z L x y) L), .int .i64 (frB (fiX z L x y) L : Nat)]) ∧ Below W.heap.size W w') := by
    intro W b1 b2 b3 b4 hb hc c4
    have hnum := first1_any a n cap z x y L (kindsL (sdiff y x)) b1 b2 b3 W hx hy hn (hz.keep (Nat.le_refl _) hb) h9 hc.1 hc.2.1 hc.2.2 (fun k hkk => ⟨kindsL_in hd hkk, hk k hkk⟩)
    have hit := kinds_iter (sdiff y x) (lt64 hd hn) b4 W c4
    have hl4 := World.block_lt_of_cell? _ _ c4
    exact sum_any 94 #[.pointer (some ⟨b4, 0, none⟩)] 81 #[.pointer (some ⟨b1, 0, none⟩), .pointer (some ⟨b2, 0, none⟩), .pointer (some ⟨b3, 0, none⟩)] (laX z L (x ||| y)) L (kindsL (sdiff y x)) _ W (enters_of Try.func94 (by kernel_rfl) rfl) (enters_of Try.func81 (by kernel_rfl) rfl)
      hit (fun q h => by simp only at hl4; omega) hnum hL (by omega) hA
  have HN : Hid (bits .andNot .i64 (y : Int) (x : Int) = ((sdiff y x : Nat) : Int)) := andNot_nat (lt64 hy hn) (lt64 hx hn)
  clear hk hA hz h9
  generalize fiX z L x y = X at *
  obtain ⟨w4, hw4⟩ : ∃ w4, w4 = (((w.alloc (.cells #[.slice a n cap] 53)).alloc (.cells #[.int .i64 x] 3)).alloc (.cells #[.int .i64 y] 3)).alloc (.cells #[.int .i64 0, .int .i64 0] 24) := ⟨_, rfl⟩
  have hb4 : Below w.heap.size w w4 := by rw [hw4]; exact ((below_two _ _ _).alloc (by simp; omega) _).alloc (by simp; omega) _
  have hs4 : w4.heap.size = w.heap.size + 4 := by rw [hw4]; simp
  have e0 : w4.heap[w.heap.size]? = some (.cells #[.slice a n cap] 53) := by rw [hw4]; exact (Below.heap_alloc _ _ _ (by simp; omega)).trans (heap_three0 w _ _ _)
  have e1 : w4.heap[w.heap.size + 1]? = some (.cells #[.int .i64 x] 3) := by rw [hw4]; exact (Below.heap_alloc _ _ _ (by simp)).trans (heap_three1 w _ _ _)
  have e2 : w4.heap[w.heap.size + 1 + 1]? = some (.cells #[.int .i64 y] 3) := by rw [hw4]; exact (Below.heap_alloc _ _ _ (by simp)).trans (heap_three w _ _ _)
  have e3 : w4.heap[w.heap.size + 1 + 1 + 1]? = some (.cells #[.int .i64 0, .int .i64 0] 24) := by
    rw [hw4]
    have h := heap_alloc_new (((w.alloc (.cells #[.slice a n cap] 53)).alloc (.cells #[.int .i64 x] 3)).alloc (.cells #[.int .i64 y] 3)) (.cells #[.int .i64 0, .int .i64 0] 24)
    have e : (((w.alloc (.cells #[.slice a n cap] 53)).alloc (.cells #[.int .i64 x] 3)).alloc (.cells #[.int .i64 y] 3)).heap.size = w.heap.size + 1 + 1 + 1 := by simp
    rw [e] at h
    exact h
  have k0 := block_cell e0 0
  have k1 := block_cell e1 0
  have k2 := block_cell e2 0
  rw [hw4] at k0 k1 k2
  have HK := Lib.hid (And.intro (block_cell e0 0) (And.intro (block_cell e1 0) (block_cell e2 0)))
  have HB4 := Lib.hid hb4
  have HE3 := Lib.hid e3
  have HW4 := Lib.hid hw4
  clear hw4 hb4 e0 e1 e2 e3
  go_enter Try.func63, Try.ntmps63
  go_wp2_with fail
  first | rw [HN.out] | skip
  rw [← HW4.out]
  refine (kinds_out (sdiff y x) _).mono ?_
  rintro e w5 ⟨b5, rfl, hc5, hb5⟩
  have HB5 := Lib.hid hb5
  have HA5 := Lib.hid (HS.out w5 w.heap.size (w.heap.size + 1) (w.heap.size + 1 + 1) b5 (HB4.out.trans (HB5.out.mono (show w.heap.size ≤ w4.heap.size by omega))) (cells3 HK.out HB5.out) hc5)
  clear hb5 hc5
  go_wp2_with fail
  refine HA5.out.mono ?_
  rintro e w6 ⟨rfl, hb6⟩
  obtain ⟨s1, s2, s3, s4⟩ := fr_cells ((hb6.block (w.heap.size + 1 + 1 + 1) (Nat.lt_of_lt_of_le (show w.heap.size + 1 + 1 + 1 < w4.heap.size by omega) HB5.out.size)).trans ((HB5.out.block _ (show w.heap.size + 1 + 1 + 1 < w4.heap.size by omega)).trans HE3.out))
  have HF : Hid (Below w.heap.size w w6) := (HB4.out.trans (HB5.out.mono (show w.heap.size ≤ w4.heap.size by omega))).trans (hb6.mono (Nat.le_trans (show w.heap.size ≤ w4.heap.size by omega) HB5.out.size))
  clear hb6
  go_wp2
  exact bodyPost_ret (v := .agg #[.int .i64 (frA X L), .int .i64 (frB X L : Nat)]) (by simp [results, Try.results63, go_sem, s1, s2]) rfl ⟨rfl, (HF.out.setCell (by simp; omega) _).setCell (by simp; omega) _⟩

/-- Two sets, as a literal slice holds them. -/
def twoS (x y : Int) (j : Nat) : Int := if j = 0 then x else y
theorem ints_two (w : World) (x y : Int) : Ints (w.alloc (.cells #[.int .i64 x, .int .i64 y] 3)) (some ⟨w.heap.size, 0, none⟩) 2 (twoS x y) := by
  intro j hj
  have : j = 0 ∨ j = 1 := by omega
  rcases this with rfl | rfl
  · exact ⟨w.heap.size, 0, rfl, block_cell (heap_alloc_new w _) 0⟩
  · exact ⟨w.heap.size, 0, rfl, block_cell (heap_alloc_new w _) 1⟩
theorem valid2_iff {n : Nat} {z : Nat → Int} {x y : Int} : validB n z 2 (twoS x y) = (okS n z x && okS n z y) := by
  rw [Bool.eq_iff_iff, Bool.and_eq_true, okS_iff, okS_iff, validB_iff]
  constructor
  · intro h
    exact ⟨⟨h.1, h.2 0 (by omega)⟩, ⟨h.1, h.2 1 (by omega)⟩⟩
  · intro h
    refine ⟨h.1.1, fun j hj => ?_⟩
    have : j = 0 ∨ j = 1 := by omega
    rcases this with rfl | rfl
    · exact h.1.2
    · exact h.2.2
theorem valid_both (r : Bool) (a : Option Addr) (n cap : Nat) (z : Nat → Int) (x y : Int) (w : World) (h : (okS n z x && okS n z y) = r) (hn : n ≤ 140737488351232) (hz : Ints w a n z) :
    Calls Try.prog 48 #[.slice a n cap, .slice (some ⟨w.heap.size + 1, 0, none⟩) 2 2] ((w.alloc (.cells #[.int .i64 0, .int .i64 0] 24)).alloc (.cells #[.int .i64 x, .int .i64 y] 3)) fun e w' => e = .returned (.bool r) ∧ ((w.alloc (.cells #[.int .i64 0, .int .i64 0] 24)).alloc (.cells #[.int .i64 x, .int .i64 y] 3)) = w' := by
  have hi := ints_two (w.alloc (.cells #[.int .i64 0, .int .i64 0] 24)) x y
  rw [World.size_alloc] at hi
  exact valid_r r a n cap z _ 2 2 (twoS x y) _ (by rw [valid2_iff]; exact h) hn (by omega) (hz.keep (Nat.le_refl _) (below_two _ _ _)) hi

set_option maxRecDepth 100000 in
set_option maxHeartbeats 2000000 in
theorem fFirst_bad (a : Option Addr) (n cap : Nat) (z : Nat → Int) (x y : Int) (w : World) (h : (okS n z x && okS n z y) = false ∨ x = 0 ∨ y = 0) (hn : n ≤ 140737488351232) (hz : Ints w a n z) :
    Calls Try.prog 33 #[.slice a n cap, .int .i64 x, .int .i64 y] w fun e w' => BadOut w e w' := by
  cases hv : (okS n z x && okS n z y)
  · have HV := Lib.hid (valid_both false a n cap z x y w hv hn hz)
    clear h hz hv
    go_enter Try.func33, Try.ntmps33
    go_wp2_with (go_at_call 48; refine HV.out.mono ?_; rintro e w' ⟨rfl, rfl⟩)
    exact bodyPost_ret (v := .tuple #[.agg #[.int .i64 0, .int .i64 0], .int .i64 2]) (by simp [results, Try.results33, go_sem]) rfl ⟨rfl, below_two w _ _⟩
  · have hk : x = 0 ∨ y = 0 := by
      rcases h with h | h
      · rw [hv] at h; cases h
      · exact h
    have HV := Lib.hid (valid_both true a n cap z x y w hv hn hz)
    clear h hz hv
    by_cases hx : x = 0
    · have G : (x == 0) = true := by simp [hx]
      clear hk hx
      go_enter Try.func33, Try.ntmps33
      go_wp2_with (go_at_call 48; refine HV.out.mono ?_; rintro e w' ⟨rfl, rfl⟩)
      exact bodyPost_ret (v := .tuple #[.agg #[.int .i64 0, .int .i64 0], .int .i64 2]) (by simp [results, Try.results33, go_sem]) rfl ⟨rfl, below_two w _ _⟩
    · have G : (x == 0) = false := by simp [hx]
      have G2 : (y == 0) = true := by
        rcases hk with h | h
        · exact absurd h hx
        · simp [h]
      clear hk hx
      go_enter Try.func33, Try.ntmps33
      go_wp2_with (go_at_call 48; refine HV.out.mono ?_; rintro e w' ⟨rfl, rfl⟩)
      exact bodyPost_ret (v := .tuple #[.agg #[.int .i64 0, .int .i64 0], .int .i64 2]) (by simp [results, Try.results33, go_sem]) rfl ⟨rfl, below_two w _ _⟩

set_option maxRecDepth 100000 in
set_option maxHeartbeats 2000000 in
theorem fFirst_good (a : Option Addr) (n cap : Nat) (z : Nat → Int) (x y L : Nat) (w : World) (hx : okS n z x = true) (hy : okS n z y = true) (hx0 : x ≠ 0) (hy0 : y ≠ 0) (hn : n ≤ 140737488351232) (hz : Ints w a n z) (hL : 1 ≤ L) (hM : L ≤ 1152921504606846976)
    (hk : ∀ k ∈ kindsL (sdiff y x), LastOk z k (sdiff (x ||| y) (2 ^ k)) L) (hA : sumA (laX z L (x ||| y)) (kindsL (sdiff y x)) ≤ 4611686018427387903) :
    Calls Try.prog 33 #[.slice a n cap, .int .i64 x, .int .i64 y] w fun e w' => FrOut (fiX z L x y) L w e w' := by
  have HV := Lib.hid (valid_both true a n cap z x y w (by rw [hx, hy]; rfl) hn hz)
  obtain ⟨t, ht, hs, h1n, hn6, h9⟩ := okS_nat hx
  have ht' : x = t := by omega
  subst ht'
  obtain ⟨t, ht2, hs2, _, _, _⟩ := okS_nat hy
  have ht' : y = t := by omega
  subst ht'
  have HM := Lib.hid (first_any a n cap z x y L ((w.alloc (.cells #[.int .i64 0, .int .i64 0] 24)).alloc (.cells #[.int .i64 x, .int .i64 y] 3)) hs hs2 hn6 (hz.keep (Nat.le_refl _) (below_two _ _ _)) h9 hL hM hk hA)
  have G : ((x : Int) == 0) = false := by simp; omega
  have G2 : ((y : Int) == 0) = false := by simp; omega
  clear hx hy hz ht ht2 hs hs2 h9 hk hA hx0 hy0
  generalize fiX z L x y = X at *
  go_enter Try.func33, Try.ntmps33
  go_wp2_with (go_at_call 48; refine HV.out.mono ?_; rintro e w' ⟨rfl, rfl⟩)
  refine HM.out.mono ?_
  rintro e w4 ⟨rfl, hb4⟩
  obtain ⟨q1, q2, q3, q4⟩ := fr_cells ((hb4.block w.heap.size (by simp; omega)).trans (heap_two1 w _ _))
  have HB4 : Hid (Below w.heap.size w w4) := (below_two w _ _).trans (hb4.mono (by simp; omega))
  clear hb4
  go_wp2
  exact bodyPost_ret (v := .tuple #[.agg #[.int .i64 (frA X L), .int .i64 (frB X L : Nat)], .int .i64 0]) (by simp [results, Try.results33, go_sem, q1, q2]) rfl ⟨rfl, (HB4.out.setCell (by simp) _).setCell (by simp) _⟩
end Go.Proofs.Ytgednacoeifclaa
