import Derived.Test.YtgednacoeifclaaR1
namespace Go.Proofs.Ytgednacoeifclaa
open Go.RowKit Go.Shelf

theorem isW_no {n : Nat} {z : Nat → Int} (h : ¬ (1 ≤ n ∧ n ≤ 6 ∧ ∀ j, j < n → 1 ≤ z j ∧ z j ≤ 9)) : isW n z = false := by
  cases e : isW n z
  · rfl
  · exact absurd (isW_iff.1 e) h

set_option maxHeartbeats 1000000 in
theorem rweights_any (a : Option Addr) (n cap : Nat) (z : Nat → Int) (w : World) (hn : n ≤ 140737488351232) (hz : Ints w a n z) :
    Calls Try.prog 31 #[.slice a n cap] w fun e w' => e = .returned (.bool (isW n z)) ∧ w = w' := by
  have HZ := Lib.hid hz
  clear hz
  go_enter Try.func31, Try.ntmps31
  go_wp2
  go_loop [4, 7] (fun _ i => ∃ k : Nat, k ≤ n ∧ i = .int .i64 k ∧ Hid (∀ j, j < k → 1 ≤ z j ∧ z j ≤ 9)) (fun _ i => n - (intOf i).toNat)
  case atStart => exact ⟨0, Nat.zero_le _, rfl, fun j hj => absurd hj (Nat.not_lt_zero _)⟩
  case round =>
    obtain ⟨k, hk, rfl, hr⟩ := hrel
    by_cases hlt : k < n
    · obtain ⟨b, o, rfl, hck⟩ := HZ.out k hlt
      by_cases h1 : z k < 1
      · have HF := Lib.hid (isW_no (n := n) (z := z) (fun h => by have := h.2.2 k hlt; omega))
        go_wp2
        go_ret
        exact ⟨by rw [HF.out]; rfl, rfl⟩
      by_cases h9 : 9 < z k
      · have HF := Lib.hid (isW_no (n := n) (z := z) (fun h => by have := h.2.2 k hlt; omega))
        go_wp2
        go_ret
        exact ⟨by rw [HF.out]; rfl, rfl⟩
      have hn' : Hid (∀ j, j < k + 1 → 1 ≤ z j ∧ z j ≤ 9) := by
        intro j hj
        by_cases e : j = k
        · subst e; omega
        · exact hr.out j (by omega)
      go_wp2
      go_round
      case rel => exact ⟨k + 1, by omega, by go_num, hn'⟩
      case measure => simp [intOf]; omega
    · have e : k = n := by omega
      have hge : (n : Int) ≤ k := by omega
      have hall : Hid (∀ j, j < n → 1 ≤ z j ∧ z j ≤ 9) := by rw [← e]; exact hr
      clear e hr
      by_cases h1 : 1 ≤ n
      · by_cases h6 : n ≤ 6
        · have HF := Lib.hid (isW_iff.2 ⟨h1, h6, hall.out⟩)
          have G : decide ((n : Int) ≤ 6) = true := by simp; omega
          go_wp2
          go_ret
          exact ⟨by rw [HF.out]; rfl, rfl⟩
        · have HF := Lib.hid (isW_no (n := n) (z := z) (fun h => by omega))
          have G : decide ((n : Int) ≤ 6) = false := by simp; omega
          go_wp2
          go_ret
          exact ⟨by rw [HF.out]; rfl, rfl⟩
      · have HF := Lib.hid (isW_no (n := n) (z := z) (fun h => by omega))
        have hn0 : (n : Int) < 1 := by omega
        go_wp2
        go_ret
        exact ⟨by rw [HF.out]; rfl, rfl⟩
theorem rweights_r (r : Bool) (a : Option Addr) (n cap : Nat) (z : Nat → Int) (w : World) (h : isW n z = r) (hn : n ≤ 140737488351232) (hz : Ints w a n z) :
    Calls Try.prog 31 #[.slice a n cap] w fun e w' => e = .returned (.bool r) ∧ w = w' := by rw [← h]; exact rweights_any a n cap z w hn hz

theorem okS_no {n : Nat} {z : Nat → Int} {s : Int} (h : ¬ ((1 ≤ n ∧ n ≤ 6 ∧ ∀ j, j < n → 1 ≤ z j ∧ z j ≤ 9) ∧ 0 ≤ s ∧ s < 2 ^ n)) : okS n z s = false := by
  cases e : okS n z s
  · rfl
  · exact absurd (okS_iff.1 e) h
theorem wrap_pow6 {n : Nat} (hn : n ≤ 6) : wrap64 ((2 : Int) ^ n) = ((2 ^ n : Nat) : Int) := by
  obtain ⟨h1, h2⟩ := pow_6 hn
  have e : (2 : Int) ^ n = ((2 ^ n : Nat) : Int) := by simp
  rw [e]; exact IntWalk.wrap64_in _ ⟨by omega, by omega⟩

set_option maxHeartbeats 1000000 in
theorem rset_any (a : Option Addr) (n cap : Nat) (z : Nat → Int) (s : Int) (w : World) (hn : n ≤ 140737488351232) (hz : Ints w a n z) :
    Calls Try.prog 21 #[.slice a n cap, .int .i64 s] w fun e w' => e = .returned (.bool (okS n z s)) ∧ w = w' := by
  cases hw : isW n z
  · have HF := Lib.hid (okS_no (n := n) (z := z) (s := s) (fun h => by have := isW_iff.2 h.1; rw [hw] at this; cases this))
    have HW := Lib.hid (rweights_r false a n cap z w hw hn hz)
    clear hw hz
    go_enter Try.func21, Try.ntmps21
    go_wp2_with (go_at_call 31; refine HW.out.mono ?_; rintro e w' ⟨rfl, rfl⟩)
    go_ret
    exact ⟨by rw [HF.out]; rfl, rfl⟩
  · have HW := Lib.hid (rweights_r true a n cap z w hw hn hz)
    have hh := isW_iff.1 hw
    have hn6 := hh.2.1
    have hp := wrap_pow6 hn6
    have e : (2 : Int) ^ n = ((2 ^ n : Nat) : Int) := by simp
    by_cases h0 : s < 0
    · have HF := Lib.hid (okS_no (n := n) (z := z) (s := s) (fun h => by omega))
      clear hw hz hh e
      go_enter Try.func21, Try.ntmps21
      go_wp2_with (go_at_call 31; refine HW.out.mono ?_; rintro e w' ⟨rfl, rfl⟩)
      go_ret
      exact ⟨by rw [HF.out]; rfl, rfl⟩
    · have h0' : 0 ≤ s := by omega
      by_cases h1 : s < ((2 ^ n : Nat) : Int)
      · have HF := Lib.hid (okS_iff.2 ⟨hh, h0', by rw [e]; exact h1⟩)
        have G : decide (s < ((2 ^ n : Nat) : Int)) = true := by simpa using h1
        clear hw hz hh e
        generalize 2 ^ n = P at *
        go_enter Try.func21, Try.ntmps21
        go_wp2_with (go_at_call 31; refine HW.out.mono ?_; rintro e w' ⟨rfl, rfl⟩)
        go_ret
        exact ⟨by rw [HF.out]; rfl, rfl⟩
      · have HF := Lib.hid (okS_no (n := n) (z := z) (s := s) (fun h => by have := h.2.2; rw [e] at this; omega))
        have G : decide (s < ((2 ^ n : Nat) : Int)) = false := decide_eq_false h1
        clear hw hz hh e
        generalize 2 ^ n = P at *
        go_enter Try.func21, Try.ntmps21
        go_wp2_with (go_at_call 31; refine HW.out.mono ?_; rintro e w' ⟨rfl, rfl⟩)
        go_ret
        exact ⟨by rw [HF.out]; rfl, rfl⟩
theorem rset_r (r : Bool) (a : Option Addr) (n cap : Nat) (z : Nat → Int) (s : Int) (w : World) (h : okS n z s = r) (hn : n ≤ 140737488351232) (hz : Ints w a n z) :
    Calls Try.prog 21 #[.slice a n cap, .int .i64 s] w fun e w' => e = .returned (.bool r) ∧ w = w' := by rw [← h]; exact rset_any a n cap z s w hn hz

theorem kindsTo_end {s n : Nat} (hs : s < 2 ^ n) (hn : n ≤ 6) : kindsTo s n = kindsL s := by
  have gen : ∀ m, n ≤ m → kindsTo s m = kindsTo s n := by
    intro m
    induction m with
    | zero => intro h; have : n = 0 := by omega
              subst this; rfl
    | succ m ih =>
      intro h
      by_cases e : n = m + 1
      · subst e; rfl
      · rw [kindsTo_no (Nat.testBit_lt_two_pow (Nat.lt_of_lt_of_le hs (Nat.pow_le_pow_right (by decide) (by omega)))), ih (by omega)]
  exact (gen 6 hn).symm
theorem kindsTo_in {s k x : Nat} (h : x ∈ kindsTo s k) : x < k := List.mem_range.1 (List.mem_filter.1 h).1

set_option maxHeartbeats 1000000 in
theorem rsum_any (a : Option Addr) (n cap : Nat) (z : Nat → Int) (s : Nat) (w : World) (hs : s < 2 ^ n) (hn : n ≤ 6) (hz : Ints w a n z) (h9 : ∀ j, j < n → 1 ≤ z j ∧ z j ≤ 9) :
    Calls Try.prog 47 #[.slice a n cap, .int .i64 s] w fun e w' => e = .returned (.int .i64 (ofS z s)) ∧ w = w' := by
  have HZ := Lib.hid hz
  have H9 := Lib.hid h9
  have hs62 : s < 2 ^ 62 := Nat.lt_of_lt_of_le (lt64 hs hn) (by decide)
  have HE := Lib.hid (kindsTo_end hs hn)
  have HB := Lib.hid (fun y => bit_at s y hs62)
  clear hz h9 hs hs62
  go_enter Try.func47, Try.ntmps47
  go_wp2
  go_loop [5, 6, 7, 10] (fun m _ _ i => ∃ k : Nat, k ≤ n ∧ i = .int .i64 k ∧ m = .int .i64 (ofL z (kindsTo s k))) (fun _ _ _ i => n - (intOf i).toNat)
  case atStart => exact ⟨0, Nat.zero_le _, rfl, rfl⟩
  case round =>
    obtain ⟨k, hk, rfl, rfl⟩ := hrel
    have hbd := ofL_bd (z := z) (xs := kindsTo s k) (fun x hx => H9.out x (by have := kindsTo_in hx; omega))
    have hlen : (kindsTo s k).length ≤ 6 := Nat.le_trans (List.length_filter_le _ _) (by simp; omega)
    by_cases hlt : k < n
    · obtain ⟨b, o, rfl, hck⟩ := HZ.out k hlt
      have h9k := H9.out k hlt
      have B := HB.out k
      have hS : 0 ≤ ofL z (kindsTo s k) ∧ ofL z (kindsTo s k) ≤ 54 := by omega
      have HY := Lib.hid (kindsTo_yes (s := s) (k := k))
      have HN := Lib.hid (kindsTo_no (s := s) (k := k))
      have HSn := Lib.hid (ofL_snoc z (kindsTo s k) k)
      clear hbd hlen
      cases hbit : s.testBit k
      · have HR : Hid (ofL z (kindsTo s (k + 1)) = ofL z (kindsTo s k)) := by rw [Hid, HN.out hbit]
        rw [hbit] at B
        clear hbit
        generalize ofL z (kindsTo s k) = S at *
        go_wp2
        go_round
        case rel => exact ⟨k + 1, by omega, by go_num, by rw [HR.out]⟩
        case measure => simp [intOf]; omega
      · have HR : Hid (ofL z (kindsTo s (k + 1)) = ofL z (kindsTo s k) + z k) := by rw [Hid, HY.out hbit]; exact HSn.out
        rw [hbit] at B
        clear hbit
        generalize ofL z (kindsTo s k) = S at *
        go_wp2
        go_round
        case rel => exact ⟨k + 1, by omega, by go_num, by rw [HR.out]⟩
        case measure => simp [intOf]; omega
    · have e : k = n := by omega
      have HF : Hid (ofL z (kindsTo s k) = ofS z s) := by unfold ofS; rw [← HE.out, e]; exact rfl
      have hge : (n : Int) ≤ k := by omega
      clear e
      go_wp2
      go_ret
      exact ⟨by rw [← HF.out]; rfl, rfl⟩

/-- The weights of a set, kind by kind. -/
def bt (s i : Nat) : Int := if s.testBit i then 1 else 0
theorem ofS_bits (z : Nat → Int) (s : Nat) : ofS z s = bt s 0 * z 0 + bt s 1 * z 1 + bt s 2 * z 2 + bt s 3 * z 3 + bt s 4 * z 4 + bt s 5 * z 5 := by
  have step : ∀ k, ofL z (kindsTo s (k + 1)) = ofL z (kindsTo s k) + bt s k * z k := by
    intro k
    unfold bt
    cases h : s.testBit k
    · rw [kindsTo_no h]; simp
    · rw [kindsTo_yes h, ofL_snoc]; simp
  have h0 : ofL z (kindsTo s 0) = 0 := rfl
  unfold ofS kindsL
  rw [step 5, step 4, step 3, step 2, step 1, step 0, h0]
  omega
def bitsB (s t : Nat) : Bool := (List.range 6).all fun i => (sdiff s t).testBit i == (s.testBit i && !t.testBit i)
theorem bits_all : (List.range 64).all (fun s => (List.range 64).all (bitsB s)) = true := by decide +kernel
theorem sdiff_bit {s t i : Nat} (hs : s < 64) (ht : t < 64) (hi : i < 6) : (sdiff s t).testBit i = (s.testBit i && !t.testBit i) := by
  have := List.all_eq_true.1 (List.all_eq_true.1 bits_all s (List.mem_range.2 hs)) t (List.mem_range.2 ht)
  simpa using List.all_eq_true.1 this i (List.mem_range.2 hi)
/-- A set falls into a part and the rest. -/
theorem ofS_diff (z : Nat → Int) {s t : Nat} (hs : s < 64) (ht : t < 64) (h : t &&& s = t) : ofS z (sdiff s t) + ofS z t = ofS z s := by
  have hb : ∀ i, i < 6 → bt (sdiff s t) i + bt t i = bt s i := by
    intro i hi
    have h1 := sdiff_bit hs ht hi
    have h2 : t.testBit i = (t.testBit i && s.testBit i) := by rw [← Nat.testBit_and, h]
    unfold bt
    rw [h1]
    generalize s.testBit i = p at h2 ⊢
    generalize t.testBit i = q at h2 ⊢
    revert h2
    cases p <;> cases q <;> decide
  rw [ofS_bits, ofS_bits z t, ofS_bits z s, ← hb 0 (by omega), ← hb 1 (by omega), ← hb 2 (by omega), ← hb 3 (by omega), ← hb 4 (by omega), ← hb 5 (by omega)]
  grind
end Go.Proofs.Ytgednacoeifclaa
