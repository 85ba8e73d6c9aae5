import Derived.Test.YtmbccdjoliegiaaA2
import Derived.Test.YtmbccdjoliegiaaMath2
import Derived.Laws.BitsLemmas
namespace Go.Proofs.Ytmbccdjoliegiaa
open Go.RowKit

theorem wraps_i64 (n : Int) (h0 : 0 ≤ n) (h1 : n < 2 ^ 62) : IntKind.i64.wrap n = n := by
  have e : (2 : Int) ^ 62 = 4611686018427387904 := by decide
  rw [e] at h1
  exact IntWalk.i64_in _ (by omega)

theorem band (a b : Nat) (ha : a < 2 ^ 62) (hb : b < 2 ^ 62) : bits .and .i64 (a : Int) (b : Int) = ((a &&& b : Nat) : Int) := (bits_nat .i64 62 (by decide) wraps_i64 a b ha hb).1
theorem bor (a b : Nat) (ha : a < 2 ^ 62) (hb : b < 2 ^ 62) : bits .or .i64 (a : Int) (b : Int) = ((a ||| b : Nat) : Int) := (bits_nat .i64 62 (by decide) wraps_i64 a b ha hb).2

/-- Is bit y set? -/
theorem bit_at (M y : Nat) (hM : M < 2 ^ 62) : (bits BinOp.and IntKind.i64 ((M : Int) / 2 ^ y) 1 == 1) = M.testBit y := by
  have e : ((M : Int) / 2 ^ y) = ((M / 2 ^ y : Nat) : Int) := by simp
  have h1 : M / 2 ^ y < 2 ^ 62 := Nat.lt_of_le_of_lt (Nat.div_le_self _ _) hM
  rw [e, show (1 : Int) = ((1 : Nat) : Int) from rfl, band _ 1 h1 (by decide), Nat.and_one_is_mod]
  rw [Nat.testBit, Nat.shiftRight_eq_div_pow, Nat.and_comm, Nat.and_one_is_mod]
  rw [Bool.eq_iff_iff]
  simp
  omega
theorem pow_le (y : Nat) (h : y ≤ 60) : 2 ^ y < 2 ^ 61 := Nat.pow_lt_pow_right (by decide) (by omega)
theorem wrap_pow (y : Nat) (h : y ≤ 60) : wrap64 ((2 : Int) ^ y) = ((2 ^ y : Nat) : Int) := by
  have h1 := pow_le y h
  have e : (2 : Int) ^ y = ((2 ^ y : Nat) : Int) := by simp
  have e2 : (2 : Nat) ^ 61 = 2305843009213693952 := by decide
  rw [e]
  rw [e2] at h1
  generalize 2 ^ y = q at *
  exact IntWalk.wrap64_in _ (by omega)
theorem set_bit (M y : Nat) (hM : M < 2 ^ 61) (hy : y ≤ 60) : bits BinOp.or IntKind.i64 (M : Int) (wrap64 ((2 : Int) ^ y)) = ((M ||| 2 ^ y : Nat) : Int) := by
  rw [wrap_pow y hy]
  have := pow_le y hy
  have e1 : (2 : Nat) ^ 61 < 2 ^ 62 := by decide
  exact bor _ _ (by omega) (by omega)
theorem or_lt (M y : Nat) (hM : M < 2 ^ 61) (hy : y ≤ 60) : (M ||| 2 ^ y) < 2 ^ 61 := Nat.or_lt_two_pow hM (pow_le y hy)
theorem or_bit (M y x : Nat) : (M ||| 2 ^ y).testBit x = (M.testBit x || decide (y = x)) := by
  rw [Nat.testBit_or, Nat.testBit_two_pow]

set_option maxHeartbeats 1000000 in
set_option maxRecDepth 100000 in
theorem rpile_any (a : Option Addr) (cap n : Nat) (z : Nat → Int) (most : Int) (w : World) (hs : n ≤ 140737488351232) (hc : Ints w a n z) :
    Calls Try.prog 44 #[.slice a n cap, .int .i64 most] w fun e w' => e = .returned (.bool (pileR n z most)) ∧ w = w' := by
  go_enter Try.func44, Try.ntmps44
  go_wp2
  go_loop [5, 10] (fun m i => ∃ k M : Nat, k ≤ n ∧ i = .int .i64 k ∧ m = .int .i64 M ∧ Hid (M < 2 ^ 61 ∧ goodP n z k ∧ ∀ y : Nat, M.testBit y = true ↔ ∃ j, j < k ∧ z j = y)) (fun _ i => n - (intOf i).toNat)
  case atStart => exact ⟨0, 0, Nat.zero_le _, rfl, rfl, by decide, fun j hj => absurd hj (Nat.not_lt_zero _), fun y => by simp⟩
  case round =>
    obtain ⟨k, M, hk, rfl, rfl, hr⟩ := hrel
    by_cases hlt : k < n
    · obtain ⟨b, o, rfl, hck⟩ := hc k hlt
      clear hc
      by_cases h1 : z k < 0
      · have hf := Lib.hid (pileR_no (n := n) (z := z) (most := most) (fun h => by have := h k hlt; omega))
        go_wp2
        go_ret
        exact ⟨by rw [hf.out]; rfl, rfl⟩
      by_cases h2 : z k < n
      · by_cases h3 : z k ≤ 60
        · obtain ⟨y, hy⟩ : ∃ y : Nat, z k = y := ⟨(z k).toNat, by omega⟩
          have Hy := Lib.hid hy
          have hy60 : y ≤ 60 := by omega
          rw [hy] at hck h2 h3
          clear h1 hy
          have hM62 : M < 2 ^ 62 := Nat.lt_trans hr.out.1 (by decide)
          have B := bit_at M y hM62
          have S := set_bit M y hr.out.1 hy60
          have HB := Lib.hid (hr.out.2.2 y)
          clear hM62
          cases hbit : M.testBit y
          · rw [hbit] at B
            have hn : Hid ((M ||| 2 ^ y) < 2 ^ 61 ∧ goodP n z (k + 1) ∧ ∀ x : Nat, (M ||| 2 ^ y).testBit x = true ↔ ∃ j, j < k + 1 ∧ z j = x) := by
              refine ⟨or_lt M y hr.out.1 hy60, fun j hj => ?_, fun x => ?_⟩
              · by_cases e : j = k
                · subst e
                  have := Hy.out
                  refine ⟨by omega, by omega, by omega, fun i hi e => ?_⟩
                  have : M.testBit y = true := HB.out.2 ⟨i, hi, by rw [e, Hy.out]⟩
                  rw [hbit] at this; cases this
                · exact hr.out.2.1 j (by omega)
              · rw [or_bit, Bool.or_eq_true, decide_eq_true_eq, hr.out.2.2 x]
                constructor
                · rintro (⟨j, hj, e⟩ | rfl)
                  · exact ⟨j, by omega, e⟩
                  · exact ⟨k, by omega, Hy.out⟩
                · rintro ⟨j, hj, e⟩
                  by_cases ej : j = k
                  · right; rw [ej, Hy.out] at e; omega
                  · left; exact ⟨j, by omega, e⟩
            clear hbit
            go_wp2
            go_round
            case rel => exact ⟨k + 1, M ||| 2 ^ y, by omega, by go_num, rfl, hn⟩
            case measure => simp [intOf]; omega
          · rw [hbit] at B
            have hf : Hid (pileR n z most = false) := pileR_no fun h => by
              obtain ⟨j, hj, e⟩ := HB.out.1 hbit
              exact (h k hlt).2.2.2 j hj (by rw [e, Hy.out])
            clear hbit
            go_wp2
            go_ret
            exact ⟨by rw [hf.out]; rfl, rfl⟩
        · have hf := Lib.hid (pileR_no (n := n) (z := z) (most := most) (fun h => by have := h k hlt; omega))
          have h1' : 0 ≤ z k := by omega
          clear h1
          go_wp2
          go_ret
          exact ⟨by rw [hf.out]; rfl, rfl⟩
      · have hf := Lib.hid (pileR_no (n := n) (z := z) (most := most) (fun h => by have := h k hlt; omega))
        have h1' : 0 ≤ z k := by omega
        clear h1
        go_wp2
        go_ret
        exact ⟨by rw [hf.out]; rfl, rfl⟩
    · have e : k = n := by omega
      subst e
      have hf := Lib.hid (pileR_yes (most := most) hr.out.2.1)
      by_cases h1 : 1 ≤ k
      · go_wp2
        go_ret
        exact ⟨by rw [hf.out]; simp [h1], rfl⟩
      · have G : decide ((1 : Int) ≤ k) = false := by simp; omega
        go_wp2
        go_ret
        exact ⟨by rw [hf.out]; simp [h1], rfl⟩

theorem rpile_r (r : Bool) (a : Option Addr) (cap n : Nat) (z : Nat → Int) (most : Int) (w : World) (hr : pileR n z most = r) (hs : n ≤ 140737488351232) (hc : Ints w a n z) :
    Calls Try.prog 44 #[.slice a n cap, .int .i64 most] w fun e w' => e = .returned (.bool r) ∧ w = w' := by
  subst hr; exact rpile_any a cap n z most w hs hc

theorem stripL_any (a : Option Addr) (cap n : Nat) (z : Nat → Int) (w : World) (hs : n ≤ 140737488351232) (hc : Ints w a n z) :
    Calls Try.prog 18 #[.slice a n cap] w fun e w' => e = .returned (.bool (isP n z)) ∧ w = w' := by
  have h := rpile_any a cap n z 7 w hs hc
  rw [pileR_isP] at h
  go_enter Try.func18, Try.ntmps18
  go_wp2_with (go_at_call 44; refine h.mono ?_; rintro e w' ⟨rfl, rfl⟩)
  go_ret
  exact ⟨rfl, rfl⟩
theorem stripL_r (r : Bool) (a : Option Addr) (cap n : Nat) (z : Nat → Int) (w : World) (hr : isP n z = r) (hs : n ≤ 140737488351232) (hc : Ints w a n z) :
    Calls Try.prog 18 #[.slice a n cap] w fun e w' => e = .returned (.bool r) ∧ w = w' := by
  subst hr; exact stripL_any a cap n z w hs hc

end Go.Proofs.Ytmbccdjoliegiaa
