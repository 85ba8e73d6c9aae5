import Derived.Test.YtmbccdjoliegiaaProg
import Derived.Test.YtmbccdjoliegiaaMem
import Derived.Test.YtmbccdjoliegiaaMath1
import Derived.WalkSpells
import Derived.WalkLawsBesides
import Derived.BigQuiet
import Derived.Deep.QuietTactic
namespace Go.Proofs.Ytmbccdjoliegiaa
open Go.RowKit

set_option maxHeartbeats 400000 in
theorem index_any (a : Option Addr) (cap n : Nat) (z : Nat → Int) (x : Int) (w : World) (hs : n ≤ 140737488351232) (hc : Ints w a n z) :
    Calls Try.prog 60 #[.slice a n cap, .int .i64 x] w fun e w' => e = .returned (.int .i64 (ix n z x)) ∧ w = w' := by
  go_enter Try.func60, Try.ntmps60
  go_wp2
  go_loop [8] (fun i => ∃ k : Nat, k ≤ n ∧ i = .int .i64 k ∧ Hid (∀ j, j < k → z j ≠ x)) (fun i => n - (intOf i).toNat)
  case atStart => exact ⟨0, Nat.zero_le _, rfl, fun j hj => absurd hj (Nat.not_lt_zero _)⟩
  case round =>
    obtain ⟨k, hk, rfl, hr⟩ := hrel
    by_cases hlt : k < n
    · obtain ⟨b, o, rfl, hck⟩ := hc k hlt
      clear hc
      by_cases h1 : z k = x
      · have hf := Lib.hid (ix_at k hlt h1 hr.out)
        have G1 : (x == z k) = true := by simp [h1]
        clear h1
        go_wp2
        go_ret
        exact ⟨by rw [hf.out]; rfl, rfl⟩
      · have hn : Hid (∀ j, j < k + 1 → z j ≠ x) := by
          intro j hj
          by_cases e : j = k
          · subst e; exact h1
          · exact hr.out j (by omega)
        have G1 : (x == z k) = false := by simp; exact fun h => h1 h.symm
        clear h1
        go_wp2
        go_round
        case rel => exact ⟨k + 1, by omega, by go_num, hn⟩
        case measure => simp [intOf]; omega
    · have e : k = n := by omega
      subst e
      have hf := Lib.hid (ix_no hr.out)
      go_wp2
      go_ret
      exact ⟨by rw [hf.out]; rfl, rfl⟩

theorem contains_any (a : Option Addr) (cap n : Nat) (z : Nat → Int) (x : Int) (w : World) (hs : n ≤ 140737488351232) (hc : Ints w a n z) :
    Calls Try.prog 78 #[.slice a n cap, .int .i64 x] w fun e w' => e = .returned (.bool (has n z x)) ∧ w = w' := by
  have hb := ix_bd n z x
  have H := Lib.hid (has_ix n z x)
  generalize ix n z x = q at H hb
  have hq : ∀ q, q = ix n z x → Hid (decide (0 ≤ q) = has n z x) := fun q h => by rw [h]; exact has_ix n z x
  go_enter Try.func78, Try.ntmps78
  go_wp2_with (go_at_call 60; refine (index_any _ _ _ _ _ _ hs hc).mono ?_; rintro e w' ⟨rfl, rfl⟩; have H := Lib.hid (has_ix n z x))
  go_ret
  exact ⟨by rw [← has_ix]; rfl, rfl⟩

theorem contains_r (r : Bool) (a : Option Addr) (cap n : Nat) (z : Nat → Int) (x : Int) (w : World) (hr : has n z x = r) (hs : n ≤ 140737488351232) (hc : Ints w a n z) :
    Calls Try.prog 78 #[.slice a n cap, .int .i64 x] w fun e w' => e = .returned (.bool r) ∧ w = w' := by
  subst hr; exact contains_any a cap n z x w hs hc

theorem sideOf_any (i : Nat) (w : World) (hi : i ≤ 100) :
    Calls Try.prog 75 #[.int .i64 i] w fun e w' => e = .returned (.int .i64 ((i % 2 : Nat) : Int)) ∧ w = w' := by
  have h : i % 2 = 0 ∨ i % 2 = 1 := by omega
  rcases h with h | h
  · have h1 : (i : Int) % 2 = 0 := by omega
    have H := Lib.hid h
    clear h
    go_enter Try.func75, Try.ntmps75
    go_wp2
    go_ret
    exact ⟨by rw [H.out]; rfl, rfl⟩
  · have h1 : (i : Int) % 2 = 1 := by omega
    have H := Lib.hid h
    clear h
    go_enter Try.func75, Try.ntmps75
    go_wp2
    go_ret
    exact ⟨by rw [H.out]; rfl, rfl⟩

theorem isStrip_r (r : Bool) (n : Int) (w : World) (hr : stripB n = r) :
    Calls Try.prog 54 #[.int .i64 n] w fun e w' => e = .returned (.bool r) ∧ w = w' := by
  by_cases h1 : 1 ≤ n
  · by_cases h2 : n ≤ 7
    · have H : Hid (r = true) := by rw [Hid, ← hr]; simp [stripB, h1, h2]
      clear hr
      go_enter Try.func54, Try.ntmps54
      go_wp2
      go_ret
      exact ⟨by rw [H.out]; rfl, rfl⟩
    · have H : Hid (r = false) := by rw [Hid, ← hr]; simp [stripB]; omega
      have h2' : decide (n ≤ 7) = false := by simpa using h2
      clear hr
      go_enter Try.func54, Try.ntmps54
      go_wp2
      go_ret
      exact ⟨by rw [H.out]; rfl, rfl⟩
  · have H : Hid (r = false) := by rw [Hid, ← hr]; simp [stripB]; omega
    have h1' : decide (1 ≤ n) = false := by simpa using h1
    clear hr
    go_enter Try.func54, Try.ntmps54
    go_wp2
    go_ret
    exact ⟨by rw [H.out]; rfl, rfl⟩

set_option maxHeartbeats 400000 in
theorem isPile_any (a : Option Addr) (cap n : Nat) (z : Nat → Int) (m : Int) (w : World) (hs : n ≤ 140737488351232) (hc : Ints w a n z) :
    Calls Try.prog 66 #[.slice a n cap, .int .i64 m] w fun e w' => e = .returned (.bool (pileB n z m)) ∧ w = w' := by
  by_cases hnm : (n : Int) = m
  · subst hnm
    have G1 : ((n : Int) != (n : Int)) = false := by simp
    go_enter Try.func66, Try.ntmps66
    go_wp2
    go_loop [11] (fun i => ∃ k : Nat, k ≤ n ∧ i = .int .i64 k ∧ Hid (∀ x : Nat, x < k → has n z x = true)) (fun i => n - (intOf i).toNat)
    case atStart => exact ⟨0, Nat.zero_le _, rfl, fun j hj => absurd hj (Nat.not_lt_zero _)⟩
    case round =>
      obtain ⟨k, hk, rfl, hr⟩ := hrel
      by_cases hlt : k < n
      · cases hh : has n z k
        · have HH := Lib.hid hh
          have hf := Lib.hid (pileB_no (n := n) (z := z) (m := n) (fun h => by have := h.2 k hlt; rw [hh] at this; cases this))
          clear hh
          go_wp2_with (go_at_call 78; refine (contains_r false _ _ _ _ _ _ HH.out hs hc).mono ?_; rintro e w' ⟨rfl, rfl⟩)
          go_ret
          exact ⟨by rw [hf.out]; rfl, rfl⟩
        · have HH := Lib.hid hh
          have hn : Hid (∀ x : Nat, x < k + 1 → has n z x = true) := by
            intro j hj
            by_cases e : j = k
            · subst e; exact hh
            · exact hr.out j (by omega)
          clear hh
          go_wp2_with (go_at_call 78; refine (contains_r true _ _ _ _ _ _ HH.out hs hc).mono ?_; rintro e w' ⟨rfl, rfl⟩)
          go_round
          case rel => exact ⟨k + 1, by omega, by go_num, hn⟩
          case measure => simp [intOf]; omega
      · have e : k = n := by omega
        subst e
        have hf := Lib.hid (pileB_iff.2 ⟨rfl, hr.out⟩)
        go_wp2
        go_ret
        exact ⟨by rw [hf.out]; rfl, rfl⟩
  · have hf := Lib.hid (pileB_no (n := n) (z := z) (m := m) (fun h => hnm h.1))
    have G1 : ((n : Int) != m) = true := by simpa using hnm
    clear hnm
    go_enter Try.func66, Try.ntmps66
    go_wp2
    go_ret
    exact ⟨by rw [hf.out]; rfl, rfl⟩

theorem isPile_r (r : Bool) (a : Option Addr) (cap n : Nat) (z : Nat → Int) (m : Int) (w : World) (hr : pileB n z m = r) (hs : n ≤ 140737488351232) (hc : Ints w a n z) :
    Calls Try.prog 66 #[.slice a n cap, .int .i64 m] w fun e w' => e = .returned (.bool r) ∧ w = w' := by
  subst hr; exact isPile_any a cap n z m w hs hc

theorem isPileOf_any (a : Option Addr) (cap n : Nat) (z : Nat → Int) (w : World) (hs : n ≤ 140737488351232) (hc : Ints w a n z) :
    Calls Try.prog 48 #[.slice a n cap] w fun e w' => e = .returned (.bool (isP n z)) ∧ w = w' := by
  cases h1 : stripB n
  · have H : Hid (isP n z = false) := by simp [Hid, isP, h1]
    have H1 := Lib.hid h1
    clear h1
    go_enter Try.func48, Try.ntmps48
    go_wp2_with (go_at_call 54; refine (isStrip_r false _ _ H1.out).mono ?_; rintro e w' ⟨rfl, rfl⟩)
    go_ret
    exact ⟨by rw [H.out]; rfl, rfl⟩
  · have H : Hid (isP n z = pileB n z n) := by simp [Hid, isP, h1]
    have H1 := Lib.hid h1
    clear h1
    go_enter Try.func48, Try.ntmps48
    go_wp2_with (first
      | (go_at_call 54; refine (isStrip_r true _ _ H1.out).mono ?_; rintro e w' ⟨rfl, rfl⟩)
      | (go_at_call 66; refine (isPile_r _ _ _ _ _ _ _ H.out.symm hs hc).mono ?_; rintro e w' ⟨rfl, rfl⟩))
    go_ret
    exact ⟨rfl, rfl⟩

theorem isPileOf_r (r : Bool) (a : Option Addr) (cap n : Nat) (z : Nat → Int) (w : World) (hr : isP n z = r) (hs : n ≤ 140737488351232) (hc : Ints w a n z) :
    Calls Try.prog 48 #[.slice a n cap] w fun e w' => e = .returned (.bool r) ∧ w = w' := by
  subst hr; exact isPileOf_any a cap n z w hs hc

end Go.Proofs.Ytmbccdjoliegiaa
