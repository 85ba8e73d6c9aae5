import Derived.Test.YtmbccdjoliegiaaMath3
import Derived.Test.YtmbccdjoliegiaaR2
namespace Go.Proofs.Ytmbccdjoliegiaa
open Go.RowKit

/-- Is a crease a mountain? -/
def mtB (n : Nat) (z : Nat → Int) (i : Nat) : Bool := decide (ix n z i < ix n z ((i : Int) + 1)) == decide (i % 2 = 0)
/-- The set of the mountains among the first k creases. -/
def mts (n : Nat) (z : Nat → Int) : Nat → Nat
  | 0 => 0
  | k + 1 => if mtB n z k then mts n z k ||| 2 ^ k else mts n z k
theorem mts_lt (n : Nat) (z : Nat → Int) : ∀ k, k ≤ 60 → mts n z k < 2 ^ 61
  | 0, _ => by simp [mts]
  | k + 1, h => by
    have := mts_lt n z k (by omega)
    unfold mts; split
    · exact or_lt _ _ this (by omega)
    · exact this
theorem mts_bit (n : Nat) (z : Nat → Int) (x : Nat) : ∀ k, (mts n z k).testBit x = (decide (x < k) && mtB n z x)
  | 0 => by simp [mts]
  | k + 1 => by
    have ih := mts_bit n z x k
    unfold mts
    by_cases e : x = k
    · subst e
      cases h : mtB n z x
      · simp [ih]
      · simp [or_bit, ih]
    · have e2 : ¬ k = x := fun h => e h.symm
      have e3 : decide (x < k + 1) = decide (x < k) := by rw [decide_eq_decide]; omega
      split
      · rw [or_bit, ih, e3]; simp [e2]
      · rw [ih, e3]

theorem mtB_yes {n : Nat} {z : Nat → Int} {i : Nat} (h : (ix n z i < ix n z ((i : Int) + 1) ∧ i % 2 = 0) ∨ (ix n z ((i : Int) + 1) ≤ ix n z i ∧ i % 2 = 1)) : mtB n z i = true := by
  rcases h with ⟨h1, h2⟩ | ⟨h1, h2⟩
  · simp [mtB, h1, h2]
  · have : ¬ (ix n z i < ix n z ((i : Int) + 1)) := by omega
    simp [mtB, this, h2]
theorem mtB_no {n : Nat} {z : Nat → Int} {i : Nat} (h : (ix n z i < ix n z ((i : Int) + 1) ∧ i % 2 = 1) ∨ (ix n z ((i : Int) + 1) ≤ ix n z i ∧ i % 2 = 0)) : mtB n z i = false := by
  rcases h with ⟨h1, h2⟩ | ⟨h1, h2⟩
  · simp [mtB, h1, h2]
  · have : ¬ (ix n z i < ix n z ((i : Int) + 1)) := by omega
    simp [mtB, this, h2]

theorem sideOf_0 (i : Nat) (w : World) (hi : i ≤ 100) (h : i % 2 = 0) : Calls Try.prog 75 #[.int .i64 i] w fun e w' => e = .returned (.int .i64 0) ∧ w = w' := by
  have := sideOf_any i w hi; rw [h] at this; exact this
theorem sideOf_1 (i : Nat) (w : World) (hi : i ≤ 100) (h : i % 2 = 1) : Calls Try.prog 75 #[.int .i64 i] w fun e w' => e = .returned (.int .i64 1) ∧ w = w' := by
  have := sideOf_any i w hi; rw [h] at this; exact this

set_option maxHeartbeats 4000000 in
set_option maxRecDepth 100000 in
theorem mountains_any (a : Option Addr) (cap n : Nat) (z : Nat → Int) (w : World) (h1 : 1 ≤ n) (hn : n ≤ 20) (hc : Ints w a n z) :
    Calls Try.prog 59 #[.slice a n cap] w fun e w' => e = .returned (.int .i64 (mts n z (n - 1))) ∧ w = w' := by
  have HI : Hid (∀ x, Calls Try.prog 60 #[.slice a n cap, .int .i64 x] w fun e w' => e = .returned (.int .i64 (ix n z x)) ∧ w = w') := fun x => index_any a cap n z x w (by omega) hc
  clear hc
  go_enter Try.func59, Try.ntmps59
  go_wp2
  go_loop [3, 9] (fun s i => ∃ k : Nat, k ≤ n - 1 ∧ i = .int .i64 k ∧ s = .int .i64 (mts n z k)) (fun _ i => n - (intOf i).toNat)
  case atStart => exact ⟨0, Nat.zero_le _, rfl, rfl⟩
  case round =>
    obtain ⟨k, hk, rfl, rfl⟩ := hrel
    by_cases hlt : k + 1 < n
    · have hlt' : (k : Int) < (n : Int) - 1 := by omega
      have hk60 : k ≤ 60 := by omega
      have hM := mts_lt n z k hk60
      have S := set_bit (mts n z k) k hM hk60
      have HS0 : Hid (mtB n z k = true → mts n z (k + 1) = mts n z k ||| 2 ^ k) := fun h => by simp [mts, h]
      have HS1 : Hid (mtB n z k = false → mts n z (k + 1) = mts n z k) := fun h => by simp [mts, h]
      have HY := Lib.hid (mtB_yes (n := n) (z := z) (i := k))
      have HN := Lib.hid (mtB_no (n := n) (z := z) (i := k))
      have HP0 : Hid (k % 2 = 0 → ∀ w, Calls Try.prog 75 #[.int .i64 k] w fun e w' => e = .returned (.int .i64 0) ∧ w = w') := fun h w => sideOf_0 k w (by omega) h
      have HP1 : Hid (k % 2 = 1 → ∀ w, Calls Try.prog 75 #[.int .i64 k] w fun e w' => e = .returned (.int .i64 1) ∧ w = w') := fun h w => sideOf_1 k w (by omega) h
      clear hM
      have hpar : k % 2 = 0 ∨ k % 2 = 1 := by omega
      have hord : ix n z k < ix n z ((k : Int) + 1) ∨ ix n z ((k : Int) + 1) ≤ ix n z k := by omega
      rcases hpar with hp | hp <;> rcases hord with ho | ho
      · have HT : Hid (mts n z (k + 1) = mts n z k ||| 2 ^ k) := HS0.out (HY.out (Or.inl ⟨ho, hp⟩))
        have HQ := Lib.hid (HP0.out hp)
        clear hp
        go_wp2_with (first
          | (go_at_call 60; refine (HI.out _).mono ?_; rintro e w' ⟨rfl, rfl⟩)
          | (go_at_call 75; refine (HQ.out _).mono ?_; rintro e w' ⟨rfl, rfl⟩))
        go_round
        case rel => exact ⟨k + 1, by omega, by go_num, by rw [HT.out]⟩
        case measure => simp [intOf]; omega
      · have HT : Hid (mts n z (k + 1) = mts n z k) := HS1.out (HN.out (Or.inr ⟨ho, hp⟩))
        have D : decide (ix n z k < ix n z ((k : Int) + 1)) = false := by simp; omega
        have HQ := Lib.hid (HP0.out hp)
        clear hp
        go_wp2_with (first
          | (go_at_call 60; refine (HI.out _).mono ?_; rintro e w' ⟨rfl, rfl⟩)
          | (go_at_call 75; refine (HQ.out _).mono ?_; rintro e w' ⟨rfl, rfl⟩))
        go_round
        case rel => exact ⟨k + 1, by omega, by go_num, by rw [HT.out]⟩
        case measure => simp [intOf]; omega
      · have HT : Hid (mts n z (k + 1) = mts n z k) := HS1.out (HN.out (Or.inl ⟨ho, hp⟩))
        have HQ := Lib.hid (HP1.out hp)
        clear hp
        go_wp2_with (first
          | (go_at_call 60; refine (HI.out _).mono ?_; rintro e w' ⟨rfl, rfl⟩)
          | (go_at_call 75; refine (HQ.out _).mono ?_; rintro e w' ⟨rfl, rfl⟩))
        go_round
        case rel => exact ⟨k + 1, by omega, by go_num, by rw [HT.out]⟩
        case measure => simp [intOf]; omega
      · have HT : Hid (mts n z (k + 1) = mts n z k ||| 2 ^ k) := HS0.out (HY.out (Or.inr ⟨ho, hp⟩))
        have D : decide (ix n z k < ix n z ((k : Int) + 1)) = false := by simp; omega
        have HQ := Lib.hid (HP1.out hp)
        clear hp
        go_wp2_with (first
          | (go_at_call 60; refine (HI.out _).mono ?_; rintro e w' ⟨rfl, rfl⟩)
          | (go_at_call 75; refine (HQ.out _).mono ?_; rintro e w' ⟨rfl, rfl⟩))
        go_round
        case rel => exact ⟨k + 1, by omega, by go_num, by rw [HT.out]⟩
        case measure => simp [intOf]; omega
    · have e : k = n - 1 := by omega
      have E := Lib.hid e
      clear e
      have hge : (n : Int) - 1 ≤ k := by omega
      go_wp2
      go_ret
      exact ⟨by rw [← E.out]; rfl, rfl⟩

theorem creases_bad (a : Option Addr) (cap n : Nat) (z : Nat → Int) (w : World) (hP : isP n z = false) (hs : n ≤ 140737488351232) (hc : Ints w a n z) :
    Calls Try.prog 29 #[.slice a n cap] w fun e w' => e = .returned (.tuple #[.int .i64 0, .int .i64 2]) ∧ Below w.heap.size w w' := by
  have HP := Lib.hid hP
  clear hP
  go_enter Try.func29, Try.ntmps29
  go_wp2_with (go_at_call 48; refine (isPileOf_r false _ _ _ _ _ HP.out hs hc).mono ?_; rintro e w' ⟨rfl, rfl⟩)
  go_ret2
  exact ⟨rfl, Below.refl _ _⟩

set_option maxHeartbeats 2000000 in
set_option maxRecDepth 100000 in
theorem creases_good (a : Option Addr) (cap n : Nat) (z : Nat → Int) (w : World) (hP : isP n z = true) (hc : Ints w a n z) :
    Calls Try.prog 29 #[.slice a n cap] w fun e w' => ((poss n z = true ∧ e = .returned (.tuple #[.int .i64 (mts n z (n - 1)), .int .i64 0])) ∨ (poss n z = false ∧ e = .returned (.tuple #[.int .i64 0, .int .i64 5]))) ∧ Below w.heap.size w w' := by
  have hp := isP_iff.1 hP
  have h1 := hp.1
  have h7 := hp.2.1
  have HP := Lib.hid hP
  have HC := Lib.hid hc
  clear hp hP
  go_enter Try.func29, Try.ntmps29
  go_wp2_with (go_at_call 48; refine (isPileOf_r true _ _ _ _ _ HP.out (by omega) hc).mono ?_; rintro e w' ⟨rfl, rfl⟩; clear hc)
  refine (strip_any n _ (by omega) h1).mono ?_
  rintro e w2 ⟨ca, cc, rfl, hT, hc1, hc2, hlt, hb2⟩
  have HB2 := Lib.hid hb2
  cases hpo : poss n z
  · have H3 := Lib.hid (possible_r false n ca (n - 1) cc (rowN 0 (n - 1)) a cap n z w2 hpo (by omega) (by omega) (rowN_len _ _) hT (HC.out.keep (Nat.le_refl _) hb2))
    have HPo := Lib.hid hpo
    clear hT hb2 hc1 hc2 hlt hpo
    go_wp2_with fail
    refine H3.out.mono ?_
    rintro e w3 ⟨rfl, hb3⟩
    have HB3 : Hid (Below w.heap.size w w3) := HB2.out.trans (hb3.mono HB2.out.size)
    clear hb3
    go_wp2
    go_ret2
    exact ⟨Or.inr ⟨HPo.out, rfl⟩, HB3.out⟩
  · have H3 := Lib.hid (possible_r true n ca (n - 1) cc (rowN 0 (n - 1)) a cap n z w2 hpo (by omega) (by omega) (rowN_len _ _) hT (HC.out.keep (Nat.le_refl _) hb2))
    have HPo := Lib.hid hpo
    clear hT hb2 hc1 hc2 hlt hpo
    go_wp2_with fail
    refine H3.out.mono ?_
    rintro e w3 ⟨rfl, hb3⟩
    have HB3 : Hid (Below w.heap.size w w3) := HB2.out.trans (hb3.mono HB2.out.size)
    have H4 := Lib.hid (mountains_any a cap n z w3 h1 (by omega) (HC.out.keep (Nat.le_refl _) HB3.out))
    clear hb3
    go_wp2_with fail
    refine H4.out.mono ?_
    rintro e w4 ⟨rfl, rfl⟩
    go_wp2
    go_ret2
    exact ⟨Or.inl ⟨HPo.out, rfl⟩, HB3.out⟩

end Go.Proofs.Ytmbccdjoliegiaa
