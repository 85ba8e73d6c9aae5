import Derived.Test.YtmbccdjoliegiaaA2
namespace Go.Proofs.Ytmbccdjoliegiaa
open Go.RowKit

def cmp1 (x y : Int) : Int := if x < y then -1 else if y < x then 1 else 0

set_option maxHeartbeats 1000000 in
theorem isNaN_any (x : Int) (w : World) : Calls Try.prog 80 #[.int .i64 x] w fun e w' => e = .returned (.bool false) ∧ w = w' := by
  have G : (x != x) = false := by simp
  have H := Lib.hid G
  go_enter Try.func80, Try.ntmps80
  go_wp2
  go_ret
  exact ⟨rfl, rfl⟩

set_option maxHeartbeats 1000000 in
theorem cmpCompare_any (x y : Int) (w : World) : Calls Try.prog 68 #[.int .i64 x, .int .i64 y] w fun e w' => e = .returned (.int .i64 (cmp1 x y)) ∧ w = w' := by
  rcases Int.lt_trichotomy x y with h | h | h
  · have e := Lib.hid (show cmp1 x y = -1 by simp [cmp1, h])
    go_enter Try.func68, Try.ntmps68
    go_wp2_with (go_at_call 80; refine (isNaN_any _ _).mono ?_; rintro e w' ⟨rfl, rfl⟩)
    go_ret
    exact ⟨by rw [e.out]; rfl, rfl⟩
  · have e := Lib.hid (show cmp1 x y = 0 by simp [cmp1, h])
    have h1 : x ≤ y := by omega
    have h2 : y ≤ x := by omega
    clear h
    go_enter Try.func68, Try.ntmps68
    go_wp2_with (go_at_call 80; refine (isNaN_any _ _).mono ?_; rintro e w' ⟨rfl, rfl⟩)
    go_ret
    exact ⟨by rw [e.out]; rfl, rfl⟩
  · have e := Lib.hid (show cmp1 x y = 1 by have : ¬ x < y := by omega
                                            simp [cmp1, h, this])
    have h1 : y ≤ x := by omega
    go_enter Try.func68, Try.ntmps68
    go_wp2_with (go_at_call 80; refine (isNaN_any _ _).mono ?_; rintro e w' ⟨rfl, rfl⟩)
    go_ret
    exact ⟨by rw [e.out]; rfl, rfl⟩

/-- What comparing two slices of numbers gives. -/
def CmpN (n m : Nat) (x y : Nat → Int) (r : Int) : Prop :=
  (r = 0 ∧ n = m ∧ ∀ j, j < n → x j = y j) ∨ (r = -1 ∧ ∃ k, k ≤ n ∧ k < m ∧ (∀ j, j < k → x j = y j) ∧ (k < n → x k < y k)) ∨ (r = 1 ∧ ∃ k, k < n ∧ k ≤ m ∧ (∀ j, j < k → x j = y j) ∧ (k < m → y k < x k))
def SomeCmp (n m : Nat) (x y : Nat → Int) (w : World) (e : Ending) (w' : World) : Prop := ∃ r : Int, CmpN n m x y r ∧ e = .returned (.int .i64 r) ∧ w = w'

set_option maxHeartbeats 2000000 in
theorem compare_any (ax ay : Option Addr) (cx cy n m : Nat) (x y : Nat → Int) (w : World) (hs : n ≤ 140737488351232) (_ : m ≤ 140737488351232) (hx : Ints w ax n x) (hy : Ints w ay m y) :
    Calls Try.prog 47 #[.slice ax n cx, .slice ay m cy] w fun e w' => SomeCmp n m x y w e w' := by
  go_enter Try.func47, Try.ntmps47
  go_wp2
  go_loop [11] (fun i => ∃ k : Nat, k ≤ n ∧ k ≤ m ∧ i = .int .i64 k ∧ Hid (∀ j, j < k → x j = y j)) (fun i => n - (intOf i).toNat)
  case atStart => exact ⟨0, Nat.zero_le _, Nat.zero_le _, rfl, fun j hj => absurd hj (Nat.not_lt_zero _)⟩
  case round =>
    obtain ⟨k, hk, hkm, rfl, hr⟩ := hrel
    by_cases hlt : k < n
    · obtain ⟨b, o, rfl, hck⟩ := hx k hlt
      by_cases hltm : k < m
      · obtain ⟨b', o', rfl, hcy⟩ := hy k hltm
        clear hx hy
        rcases Int.lt_trichotomy (x k) (y k) with h | h | h
        · have hf : Hid (CmpN n m x y (-1)) := Or.inr (Or.inl ⟨rfl, k, hk, hltm, hr.out, fun _ => h⟩)
          have hc := Lib.hid (show cmp1 (x k) (y k) = -1 by simp [cmp1, h])
          clear h
          go_wp2_with (go_at_call 68; refine (cmpCompare_any _ _ _).mono ?_; rw [hc.out]; rintro e w' ⟨rfl, rfl⟩)
          go_ret
          exact ⟨_, hf.out, rfl, rfl⟩
        · have hn : Hid (∀ j, j < k + 1 → x j = y j) := by
            intro j hj
            by_cases e : j = k
            · subst e; exact h
            · exact hr.out j (by omega)
          have hc := Lib.hid (show cmp1 (x k) (y k) = 0 by simp [cmp1, h])
          clear h
          go_wp2_with (go_at_call 68; refine (cmpCompare_any _ _ _).mono ?_; rw [hc.out]; rintro e w' ⟨rfl, rfl⟩)
          go_round
          case rel => exact ⟨k + 1, by omega, by omega, by go_num, hn⟩
          case measure => simp [intOf]; omega
        · have hf : Hid (CmpN n m x y 1) := Or.inr (Or.inr ⟨rfl, k, hlt, hkm, hr.out, fun _ => h⟩)
          have hc := Lib.hid (show cmp1 (x k) (y k) = 1 by have : ¬ x k < y k := by omega
                                                           simp [cmp1, h, this])
          clear h
          go_wp2_with (go_at_call 68; refine (cmpCompare_any _ _ _).mono ?_; rw [hc.out]; rintro e w' ⟨rfl, rfl⟩)
          go_ret
          exact ⟨_, hf.out, rfl, rfl⟩
      · have hf : Hid (CmpN n m x y 1) := Or.inr (Or.inr ⟨rfl, k, hlt, hkm, hr.out, fun h => absurd h hltm⟩)
        clear hx hy
        go_wp2
        go_ret
        exact ⟨_, hf.out, rfl, rfl⟩
    · by_cases hltm : k < m
      · have hf : Hid (CmpN n m x y (-1)) := Or.inr (Or.inl ⟨rfl, k, hk, hltm, hr.out, fun h => absurd h hlt⟩)
        have hnm : n < m := by omega
        clear hx hy
        go_wp2
        go_ret
        exact ⟨_, hf.out, rfl, rfl⟩
      · have hf : Hid (CmpN n m x y 0) := Or.inl ⟨rfl, by omega, fun j hj => hr.out j (by omega)⟩
        have hnm : m ≤ n := by omega
        clear hx hy
        go_wp2
        go_ret
        exact ⟨_, hf.out, rfl, rfl⟩

end Go.Proofs.Ytmbccdjoliegiaa
