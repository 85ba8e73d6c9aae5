import Derived.Test.YtgednacoeifclaaR5
namespace Go.Proofs.Ytgednacoeifclaa
open Go.RowKit Go.Shelf

/-- The chance that a kind came. -/
def kiC (z : Nat → Int) (n k i : Nat) : Int := doC z (2 ^ n - 1) (2 ^ i) k
def LK (z : Nat → Int) (n k : Nat) : Nat := (ofS z (2 ^ n - 1)).toNat ^ k
theorem LK_bd {z : Nat → Int} {n k : Nat} (h1n : 1 ≤ n) (hn : n ≤ 6) (h9 : ∀ j, j < n → 1 ≤ z j ∧ z j ≤ 9) (hk : k ≤ 8) : 1 ≤ LK z n k ∧ LK z n k ≤ 72301961339136 := by
  have hall0 : 2 ^ n - 1 ≠ 0 := by
    have : 2 ^ 1 ≤ 2 ^ n := Nat.pow_le_pow_right (by decide) h1n
    omega
  have hof := of_pos (full_lt hn) hn hall0 h9
  exact ⟨Nat.one_le_pow _ _ (by omega), pow54n (m := (ofS z (2 ^ n - 1)).toNat) (by omega) hk⟩
theorem doC_abs {z : Nat → Int} {n set k : Nat} (hset : set < 2 ^ n) (h9 : ∀ j, j < n → 1 ≤ z j ∧ z j ≤ 9) (hk : k ≤ 8) (s : Nat) : (doC z set s k).natAbs ≤ 4627325525704704 := by
  have h1 := sumC_abs (alC (woC z set k)) (partsL s)
  rw [sumA_alC] at h1
  have h2 := sumA_le (c := woC z set k) (woC_abs hset h9 hk) (partsL s)
  have h3 := partsL_len s
  have h4 : (partsL s).length * 72301961339136 ≤ 64 * 72301961339136 := Nat.mul_le_mul_right _ h3
  unfold doC
  omega
theorem two_lt {n i : Nat} (h : i < n) : 2 ^ i < 2 ^ n := Nat.pow_lt_pow_right (by decide) h
theorem wrap_two {i : Nat} (h : i ≤ 6) : wrap64 ((2 : Int) ^ i) = ((2 ^ i : Nat) : Int) := wrap_pow6 h
theorem wrap_two' {i : Nat} (h : i ≤ 6) : IntKind.i64.wrap ((2 : Int) ^ i) = ((2 ^ i : Nat) : Int) := (IntWalk.i64_left _).trans (wrap_two h)
theorem kinds_full {n : Nat} (hn : n ≤ 6) : kindsL (2 ^ n - 1) = List.range n := by
  have : n = 0 ∨ n = 1 ∨ n = 2 ∨ n = 3 ∨ n = 4 ∨ n = 5 ∨ n = 6 := by omega
  rcases this with rfl | rfl | rfl | rfl | rfl | rfl | rfl <;> decide +kernel

set_option maxRecDepth 100000 in
set_option maxHeartbeats 4000000 in
theorem diff1_any (a : Option Addr) (n cap : Nat) (z : Nat → Int) (k : Nat) (xs : List Nat) (b1 b2 : Nat) (w : World) (h1n : 1 ≤ n) (hn : n ≤ 6) (hz : Ints w a n z) (h9 : ∀ j, j < n → 1 ≤ z j ∧ z j ≤ 9) (hk : k ≤ 8)
    (hc1 : w.cell? ⟨b1, 0, none⟩ = some (.slice a n cap)) (hc2 : w.cell? ⟨b2, 0, none⟩ = some (.int .i64 k)) (hx : ∀ x ∈ xs, x < n) :
    Num 80 #[.pointer (some ⟨b1, 0, none⟩), .pointer (some ⟨b2, 0, none⟩)] (kiC z n k) (LK z n k) xs w := by
  intro x hxx W hW
  have hxn := hx x hxx
  have c1 : W.cell? ⟨b1, 0, none⟩ = some (.slice a n cap) := (hW.cell (p := ⟨b1, 0, none⟩) (World.block_lt_of_cell? _ _ hc1)).trans hc1
  have c2 : W.cell? ⟨b2, 0, none⟩ = some (.int .i64 k) := (hW.cell (p := ⟨b2, 0, none⟩) (World.block_lt_of_cell? _ _ hc2)).trans hc2
  obtain ⟨W0, hW0⟩ : ∃ W0, W0 = W.alloc (.cells #[.int .i64 0, .int .i64 0] 24) := ⟨_, rfl⟩
  have d1 : W0.cell? ⟨b1, 0, none⟩ = some (.slice a n cap) := by rw [hW0]; exact cell_kept c1 (World.grownBy_alloc W _ none) (fun r e => by cases e)
  have d2 : W0.cell? ⟨b2, 0, none⟩ = some (.int .i64 k) := by rw [hW0]; exact cell_kept c2 (World.grownBy_alloc W _ none) (fun r e => by cases e)
  have hb0 : Below W.heap.size W W0 := by rw [hW0]; exact below_one W _
  have hr0 : W0.heap[W.heap.size]? = some (.cells #[.int .i64 0, .int .i64 0] 24) := by rw [hW0]; exact heap_alloc_new W _
  have hs0 : W.heap.size < W0.heap.size := by rw [hW0]; simp
  have hdo := done_any a n cap z (2 ^ x) k W0.drew (two_lt hxn) h1n hn (hz.keep (Nat.le_refl _) (hW.trans (hb0.mono hW.size)).drew) h9 hk
  have HP : Hid (IntKind.i64.wrap ((2 : Int) ^ x) = ((2 ^ x : Nat) : Int)) := wrap_two' (by omega)
  have hx0 : (0 : Int) ≤ (x : Int) := by omega
  have HD : Hid (Calls Try.prog 58 #[.slice a n cap, .int .i64 ((2 ^ x : Nat) : Int), .int .i64 k] W0.drew fun e w' => QOut (kiC z n k x) (LK z n k) W0.drew e w') := hdo
  have HB0 := Lib.hid hb0
  have HR0 := Lib.hid hr0
  have HW0 := Lib.hid hW0
  clear hdo hW hx hz h9 hc1 hc2 c1 c2 hW0 hb0 hr0 hxx
  generalize kiC z n k x = X at *
  generalize LK z n k = L at *
  show Calls Try.prog 80 #[.int .i64 x, .pointer (some ⟨b1, 0, none⟩), .pointer (some ⟨b2, 0, none⟩)] W _
  go_enter Try.func80, Try.ntmps80
  go_wp2_with fail
  rw [← HW0.out]
  go_region_with (first
    | (go_at_call 58; rw [HP.out]; refine HD.out.mono ?_; rintro e w1 ⟨rfl, hb1⟩; have hb1' := below_drew1 hb1; obtain ⟨s1, s2, s3, s4⟩ := fr_cells ((hb1'.block _ hs0).trans HR0.out); have HB1 := Lib.hid hb1'; clear hb1 hb1'))
  all_goals
    have HF : Hid (Below W.heap.size W w1) := HB0.out.trans (HB1.out.mono (by omega))
    go_wp2
    exact bodyPost_ret (v := .agg #[.int .i64 (frA X L), .int .i64 (frB X L : Nat)]) (by simp [results, Try.results80, go_sem, s1, s2]) rfl ⟨rfl, (HF.out.setCell (by simp) _).setCell (by simp) _⟩

/-- How many kinds come on the average, over L. -/
def knC (z : Nat → Int) (n k : Nat) : Int := sumC (kiC z n k) (List.range n)

set_option maxRecDepth 100000 in
set_option maxHeartbeats 4000000 in
theorem different_any (a : Option Addr) (n cap : Nat) (z : Nat → Int) (k : Nat) (w : World) (h1n : 1 ≤ n) (hn : n ≤ 6) (hz : Ints w a n z) (h9 : ∀ j, j < n → 1 ≤ z j ∧ z j ≤ 9) (hk : k ≤ 8) :
    Calls Try.prog 62 #[.slice a n cap, .int .i64 k] w fun e w' => QOut (knC z n k) (LK z n k) w e w' := by
  obtain ⟨w4, hw4⟩ : ∃ w4, w4 = (((w.alloc (.cells #[.slice a n cap] 53)).alloc (.cells #[.int .i64 k] 3)).alloc (.cells #[.int .i64 0, .int .i64 0] 24)).alloc (.cells #[.int .i64 ((2 ^ n - 1 : Nat) : Int)] 3) := ⟨_, rfl⟩
  have hb4 : Below w.heap.size w w4 := by rw [hw4]; exact ((below_two _ _ _).alloc (by simp; omega) _).alloc (by simp; omega) _
  have hs4 : w4.heap.size = w.heap.size + 4 := by rw [hw4]; simp
  have e0 : w4.heap[w.heap.size]? = some (.cells #[.slice a n cap] 53) := by rw [hw4]; exact (Below.heap_alloc _ _ _ (by simp; omega)).trans (heap_three0 w _ _ _)
  have e1 : w4.heap[w.heap.size + 1]? = some (.cells #[.int .i64 k] 3) := by rw [hw4]; exact (Below.heap_alloc _ _ _ (by simp)).trans (heap_three1 w _ _ _)
  have e2 : w4.heap[w.heap.size + 1 + 1]? = some (.cells #[.int .i64 0, .int .i64 0] 24) := by rw [hw4]; exact (Below.heap_alloc _ _ _ (by simp)).trans (heap_three w _ _ _)
  have e3 : w4.heap[w.heap.size + 1 + 1 + 1]? = some (.cells #[.int .i64 ((2 ^ n - 1 : Nat) : Int)] 3) := by
    rw [hw4]
    have h := heap_alloc_new (((w.alloc (.cells #[.slice a n cap] 53)).alloc (.cells #[.int .i64 k] 3)).alloc (.cells #[.int .i64 0, .int .i64 0] 24)) (.cells #[.int .i64 ((2 ^ n - 1 : Nat) : Int)] 3)
    have e : (((w.alloc (.cells #[.slice a n cap] 53)).alloc (.cells #[.int .i64 k] 3)).alloc (.cells #[.int .i64 0, .int .i64 0] 24)).heap.size = w.heap.size + 1 + 1 + 1 := by simp
    rw [e] at h
    exact h
  have hl := LK_bd h1n hn h9 hk
  have hnum := diff1_any a n cap z k (kindsL (2 ^ n - 1)) w.heap.size (w.heap.size + 1) w4 h1n hn (hz.keep (Nat.le_refl _) hb4) h9 hk (block_cell e0 0) (block_cell e1 0) (fun x hx => kindsL_in (full_lt hn) hx)
  have hit := kinds_iter (2 ^ n - 1) (lt64 (full_lt hn) hn) (w.heap.size + 1 + 1 + 1) w4 (block_cell e3 0)
  have hA : sumA (kiC z n k) (kindsL (2 ^ n - 1)) ≤ 4611686018427387903 := by
    have h := sumA_le (c := kiC z n k) (fun x => doC_abs (full_lt hn) h9 hk (2 ^ x)) (kindsL (2 ^ n - 1))
    have h2 := kindsL_len (2 ^ n - 1)
    have h3 : (kindsL (2 ^ n - 1)).length * 4627325525704704 ≤ 6 * 4627325525704704 := Nat.mul_le_mul_right _ h2
    omega
  have hsum := sum_any 94 #[.pointer (some ⟨w.heap.size + 1 + 1 + 1, 0, none⟩)] 80 #[.pointer (some ⟨w.heap.size, 0, none⟩), .pointer (some ⟨w.heap.size + 1, 0, none⟩)] (kiC z n k) (LK z n k) (kindsL (2 ^ n - 1)) _ w4 (enters_of Try.func94 (by kernel_rfl) rfl) (enters_of Try.func80 (by kernel_rfl) rfl)
    hit (fun q h => by omega) hnum hl.1 (by omega) hA
  rw [kinds_full hn] at hsum
  have HS : Hid (Calls Try.prog 78 #[.func (.func 94) #[] #[.pointer (some ⟨w.heap.size + 1 + 1 + 1, 0, none⟩)], .func (.func 80) #[] #[.pointer (some ⟨w.heap.size, 0, none⟩), .pointer (some ⟨w.heap.size + 1, 0, none⟩)]] w4 fun e w' => e = .returned (.agg #[.int .i64 (frA (knC z n k) (LK z n k)), .int .i64 (frB (knC z n k) (LK z n k) : Nat)]) ∧ Below w4.heap.size w4 w') := hsum
  have HB4 := Lib.hid hb4
  have HE2 := Lib.hid e2
  have HW4 := Lib.hid hw4
  clear hsum hit hnum hA e0 e1 e2 e3 hb4 hw4 hz h9 hl
  generalize knC z n k = X at *
  generalize LK z n k = L at *
  go_enter Try.func62, Try.ntmps62
  go_wp2_with (first | (go_at_call 66; refine (all_any a n cap _ hn).mono ?_; rintro e w' ⟨rfl, rfl⟩) | (go_at_call 79; refine (kinds_any _ _).mono ?_; rintro e w' ⟨rfl, rfl⟩))
  rw [← HW4.out]
  refine HS.out.mono ?_
  rintro e w5 ⟨rfl, hb5⟩
  obtain ⟨q1, q2, q3, q4⟩ := fr_cells ((hb5.block (w.heap.size + 1 + 1) (by omega)).trans HE2.out)
  have HB5 : Hid (Below w.heap.size w w5) := HB4.out.trans (hb5.mono (by omega))
  clear hb5
  go_wp2
  exact bodyPost_ret (v := .agg #[.int .i64 (frA X L), .int .i64 (frB X L : Nat)]) (by simp [results, Try.results62, go_sem, q1, q2]) rfl ⟨rfl, (HB5.out.setCell (by simp; omega) _).setCell (by simp; omega) _⟩
end Go.Proofs.Ytgednacoeifclaa
