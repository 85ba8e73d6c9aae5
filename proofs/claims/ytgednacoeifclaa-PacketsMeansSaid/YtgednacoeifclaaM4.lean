import Derived.Test.YtgednacoeifclaaM3
namespace Go.Proofs.Ytgednacoeifclaa
open Go.RowKit Go.Shelf

theorem shortest_any (a : Option Addr) (n cap : Nat) (tw : Int) (w : World) :
    Calls Try.prog 72 #[.slice a n cap, .int .i64 tw] w fun e w' => e = .returned (.func (.func 86) #[] #[.pointer (some ⟨w.heap.size + 1, 0, none⟩), .pointer (some ⟨w.heap.size, 0, none⟩)]) ∧ w' = (w.alloc (.cells #[.slice a n cap] 53)).alloc (.cells #[.int .i64 tw] 3) := by
  go_enter Try.func72, Try.ntmps72
  go_wp2
  go_ret
  exact ⟨rfl, rfl⟩

/-- The average wait, over L, before it is multiplied with all weights. -/
def waitC (z : Nat → Int) (s tw L : Nat) : Int := - sumC (alC (shC z tw L)) (partsL s)
/-- What the denominator L must be for. -/
structure MeanOk (n : Nat) (z : Nat → Int) (s tw L : Nat) : Prop where
  L1 : 1 ≤ L
  LM : L ≤ 4611686018427387903
  dv : ∀ x ∈ partsL s, x ≠ 0 → ∀ once ∈ partsL (x &&& tw), StOk z x L once
  ab : sumA (shC z tw L) (partsL s) ≤ 4611686018427387903
  fin : (frA (waitC z s tw L * ofS z (2 ^ n - 1)) L).natAbs ≤ 9223372036854775807

set_option maxRecDepth 100000 in
set_option maxHeartbeats 4000000 in
theorem mean_any (a : Option Addr) (n cap : Nat) (z : Nat → Int) (s tw L : Nat) (w : World) (hs : s < 2 ^ n) (ht : tw < 2 ^ n) (h1n : 1 ≤ n) (hn : n ≤ 6) (hz : Ints w a n z) (h9 : ∀ j, j < n → 1 ≤ z j ∧ z j ≤ 9) (hk : MeanOk n z s tw L) :
    Calls Try.prog 49 #[.slice a n cap, .int .i64 s, .int .i64 tw] w fun e w' => e = .returned (.agg #[.int .i64 (frA (waitC z s tw L * ofS z (2 ^ n - 1)) L), .int .i64 (frB (waitC z s tw L * ofS z (2 ^ n - 1)) L : Nat)]) ∧ Below w.heap.size w w' := by
  obtain ⟨hL, hM, hdv, hab, hfin⟩ := hk
  obtain ⟨p1, p2⟩ := pow_6 hn
  have hall : 2 ^ n - 1 < 2 ^ n := by omega
  have hall0 : 2 ^ n - 1 ≠ 0 := by
    have : 2 ^ 1 ≤ 2 ^ n := Nat.pow_le_pow_right (by decide) h1n
    omega
  have hof := of_pos hall hn hall0 h9
  obtain ⟨w3, hw3⟩ : ∃ w3, w3 = ((w.alloc (.cells #[.int .i64 0, .int .i64 0] 24)).alloc (.cells #[.slice a n cap] 53)).alloc (.cells #[.int .i64 tw] 3) := ⟨_, rfl⟩
  have hb3 : Below w.heap.size w w3 := by rw [hw3]; exact (below_two _ _ _).alloc (by simp; omega) _
  have hs3 : w3.heap.size = w.heap.size + 3 := by rw [hw3]; simp
  have e0 : w3.heap[w.heap.size]? = some (.cells #[.int .i64 0, .int .i64 0] 24) := by rw [hw3]; exact heap_three0 w _ _ _
  have e1 : w3.heap[w.heap.size + 1]? = some (.cells #[.slice a n cap] 53) := by rw [hw3]; exact heap_three1 w _ _ _
  have e2 : w3.heap[w.heap.size + 1 + 1]? = some (.cells #[.int .i64 tw] 3) := by rw [hw3]; exact heap_three w _ _ _
  have hnum := short1_any a n cap z tw L (partsL s) (w.heap.size + 1 + 1) (w.heap.size + 1) w3 ht hn (hz.keep (Nat.le_refl _) hb3) h9 (block_cell e2 0) (block_cell e1 0) hL hM (fun x hx => partsL_lt2 hs hx) hdv hab
  have halt := alternate_any s 86 #[.pointer (some ⟨w.heap.size + 1 + 1, 0, none⟩), .pointer (some ⟨w.heap.size + 1, 0, none⟩)] (shC z tw L) L w3 (lt64 hs hn) (enters_of Try.func86 (by kernel_rfl) rfl) hL hM hnum hab
  have hwt : waitC z s tw L = - sumC (alC (shC z tw L)) (partsL s) := rfl
  have hSb : (sumC (alC (shC z tw L)) (partsL s)).natAbs ≤ 4611686018427387903 := by
    have := sumC_abs (alC (shC z tw L)) (partsL s)
    rw [sumA_alC] at this; omega
  obtain ⟨N, hN⟩ : ∃ N : Nat, ofS z (2 ^ n - 1) = N := ⟨(ofS z (2 ^ n - 1)).toNat, by omega⟩
  rw [hN] at hof hfin ⊢
  have hti := fun W => times_any (waitC z s tw L) L N W hL hM (by omega) (by omega) (by rw [hwt]; omega) hfin
  have hA1 : frA (waitC z s tw L) L = - frA (sumC (alC (shC z tw L)) (partsL s)) L := by rw [hwt]; exact frA_neg _ _
  have hB1 : frB (waitC z s tw L) L = frB (sumC (alC (shC z tw L)) (partsL s)) L := by rw [hwt]; exact frB_neg _ _
  have hAb := frA_abs (sumC (alC (shC z tw L)) (partsL s)) hL
  have hwait : (waitC z s tw L).natAbs ≤ 4611686018427387903 := by rw [hwt]; omega
  have hti2 : ∀ W, Calls Try.prog 73 #[.agg #[.int .i64 (- frA (sumC (alC (shC z tw L)) (partsL s)) L), .int .i64 (frB (sumC (alC (shC z tw L)) (partsL s)) L : Nat)], .int .i64 N] W fun e w' => e = .returned (.agg #[.int .i64 (frA (waitC z s tw L * N) L), .int .i64 (frB (waitC z s tw L * N) L : Nat)]) ∧ Below W.heap.size W w' := by
    intro W
    have h := hti W
    rw [hA1, hB1] at h
    exact h
  have HOf : Hid (∀ W, Below w.heap.size w W → Calls Try.prog 74 #[.slice a n cap, .int .i64 ((2 ^ n - 1 : Nat) : Int)] W fun e w' => e = .returned (.int .i64 N) ∧ Below W.heap.size W w') := fun W hW => by
    have h := of_any a n cap z (2 ^ n - 1) W hall hn (hz.keep (Nat.le_refl _) hW) h9
    rw [hN] at h
    exact h
  have HT := Lib.hid hti2
  have HAlt := Lib.hid halt
  have HB3 := Lib.hid hb3
  have HE0 := Lib.hid e0
  have HW3 := Lib.hid hw3
  clear hti hti2 halt hnum hb3 e0 e1 e2 hw3 hA1 hB1 hwt hdv hab hfin hN hz h9
  generalize waitC z s tw L * N = X at *
  obtain ⟨A, hA⟩ : ∃ A, A = frA (sumC (alC (shC z tw L)) (partsL s)) L := ⟨_, rfl⟩
  obtain ⟨B, hB⟩ : ∃ B, B = frB (sumC (alC (shC z tw L)) (partsL s)) L := ⟨_, rfl⟩
  rw [← hA, ← hB] at HT HAlt
  have hAr : -4611686018427387904 ≤ A ∧ A ≤ 4611686018427387904 := by rw [hA]; omega
  clear hA hB hSb hAb
  have hwr : wrap64 (-A) = -A := IntWalk.wrap64_in _ ⟨by omega, by omega⟩
  go_enter Try.func49, Try.ntmps49
  go_wp2_with (go_at_call 72; refine (shortest_any _ _ _ _ _).mono ?_; rintro e w' ⟨rfl, rfl⟩)
  rw [← HW3.out]
  refine HAlt.out.mono ?_
  rintro e w4 ⟨rfl, hb4⟩
  have hs4 : w.heap.size + 3 ≤ w4.heap.size := by have := hb4.size; omega
  have hr4 : w4.heap[w.heap.size]? = some (.cells #[.int .i64 0, .int .i64 0] 24) := (hb4.block _ (by omega)).trans HE0.out
  have HB4 : Hid (Below w.heap.size w w4) := HB3.out.trans (hb4.mono (by omega))
  have HR4 := Lib.hid hr4
  clear hb4 hr4
  go_wp2
  obtain ⟨W5, hW5⟩ : ∃ W5, W5 = (w4.alloc (.cells #[.int .i64 (-A), .int .i64 (B : Int)] 24)) := ⟨_, rfl⟩
  rw [← hW5]
  have hq : W5.heap[w4.heap.size]? = some (.cells #[.int .i64 (-A), .int .i64 (B : Int)] 24) := by rw [hW5]; exact heap_alloc_new w4 _
  have hr5 : W5.heap[w.heap.size]? = some (.cells #[.int .i64 0, .int .i64 0] 24) := by rw [hW5]; exact (Below.heap_alloc _ _ _ (by omega)).trans HR4.out
  have HB5 : Hid (Below w.heap.size w W5) := by rw [hW5]; exact HB4.out.alloc (by omega) _
  have hs5 : W5.heap.size = w4.heap.size + 1 := by rw [hW5]; simp
  obtain ⟨q1, q2, q3, q4⟩ := fr_cells hq
  have HQ := Lib.hid hq
  have HR5 := Lib.hid hr5
  clear hW5 hq hr5
  have HOf5 := Lib.hid (HOf.out W5.drew HB5.out.drew)
  go_region_with (first
    | (go_at_call 66; refine (all_any a n cap _ hn).mono ?_; rintro e w' ⟨rfl, rfl⟩)
    | (go_at_call 74; refine HOf5.out.mono ?_; rintro e w6 ⟨rfl, hb6⟩; obtain ⟨r1, r2, r3, r4⟩ := fr_cells ((hb6.block w4.heap.size (show w4.heap.size < W5.heap.size by omega)).trans HQ.out); have HB6 := Lib.hid hb6; clear hb6)
    | (go_at_call 73; refine (HT.out _).mono ?_; rintro e w7 ⟨rfl, hb7⟩; obtain ⟨s1, s2, s3, s4⟩ := fr_cells ((hb7.block w.heap.size (Nat.lt_of_lt_of_le (show w.heap.size < W5.heap.size by omega) HB6.out.size)).trans ((HB6.out.block w.heap.size (show w.heap.size < W5.heap.size by omega)).trans HR5.out)); have HB7 := Lib.hid hb7; clear hb7))
  all_goals
    have HF : Hid (Below w.heap.size w w7) := (HB5.out.drew.trans (HB6.out.mono (show w.heap.size ≤ W5.heap.size by omega))).trans (HB7.out.mono (Nat.le_trans (show w.heap.size ≤ W5.heap.size by omega) HB6.out.size))
    clear q1 q2 q3 q4 r1 r2 r3 r4
    go_wp2
    exact bodyPost_ret (v := .agg #[.int .i64 (frA X L), .int .i64 (frB X L : Nat)]) (by simp [results, Try.results49, go_sem, s1, s2]) rfl ⟨rfl, (HF.out.setCell (by simp) _).setCell (by simp) _⟩
end Go.Proofs.Ytgednacoeifclaa
