import Derived.Test.YtgednacoeifclaaS3
namespace Go.Proofs.Ytgednacoeifclaa
open Go.RowKit

theorem pow_6 {n : Nat} (h : n ≤ 6) : 1 ≤ 2 ^ n ∧ 2 ^ n ≤ 64 :=
  ⟨Nat.one_le_two_pow, Nat.pow_le_pow_right (by decide : 0 < 2) h⟩

set_option maxHeartbeats 1000000 in
theorem all_any (a : Option Addr) (n cap : Nat) (w : World) (hn : n ≤ 6) :
    Calls Try.prog 66 #[.slice a n cap] w fun e w' => e = .returned (.int .i64 ((2 ^ n - 1 : Nat) : Int)) ∧ w = w' := by
  obtain ⟨h1, h2⟩ := pow_6 hn
  have e : (2 : Int) ^ n = ((2 ^ n : Nat) : Int) := by simp
  have u : wrap64 ((2 : Int) ^ n) = ((2 ^ n : Nat) : Int) := by rw [e]; exact IntWalk.wrap64_in _ ⟨by omega, by omega⟩
  generalize 2 ^ n = P at *
  have u2 : wrap64 ((P : Int) - 1) = ((P - 1 : Nat) : Int) := by rw [IntWalk.wrap64_in _ ⟨by omega, by omega⟩]; omega
  have HU2 : Hid ((P : Int) - 1 = ((P - 1 : Nat) : Int)) := by unfold Hid; omega
  clear e
  go_enter Try.func66, Try.ntmps66
  go_wp2
  go_ret
  exact ⟨by simp [HU2.out], rfl⟩

/-- Are these packets, with sets of their kinds? -/
def isW (n : Nat) (z : Nat → Int) : Bool := decide (1 ≤ n ∧ n ≤ 6 ∧ ∀ j, j < n → 1 ≤ z j ∧ z j ≤ 9)
def validB (n : Nat) (z : Nat → Int) (m : Nat) (S : Nat → Int) : Bool := isW n z && decide (∀ j, j < m → 0 ≤ S j ∧ S j < 2 ^ n)
theorem isW_iff {n : Nat} {z : Nat → Int} : isW n z = true ↔ 1 ≤ n ∧ n ≤ 6 ∧ ∀ j, j < n → 1 ≤ z j ∧ z j ≤ 9 := by simp [isW]
theorem validB_iff {n : Nat} {z : Nat → Int} {m : Nat} {S : Nat → Int} : validB n z m S = true ↔ (1 ≤ n ∧ n ≤ 6 ∧ ∀ j, j < n → 1 ≤ z j ∧ z j ≤ 9) ∧ ∀ j, j < m → 0 ≤ S j ∧ S j < 2 ^ n := by simp [validB, isW_iff]
theorem validB_no {n : Nat} {z : Nat → Int} {m : Nat} {S : Nat → Int} (h : ¬ ((1 ≤ n ∧ n ≤ 6 ∧ ∀ j, j < n → 1 ≤ z j ∧ z j ≤ 9) ∧ ∀ j, j < m → 0 ≤ S j ∧ S j < 2 ^ n)) : validB n z m S = false := by
  cases e : validB n z m S
  · rfl
  · exact absurd (validB_iff.1 e) h

set_option maxHeartbeats 4000000 in
set_option maxRecDepth 100000 in
theorem valid_any (a : Option Addr) (n cap : Nat) (z : Nat → Int) (s : Option Addr) (m scap : Nat) (S : Nat → Int) (w : World) (hn : n ≤ 140737488351232) (hm : m ≤ 1000) (hz : Ints w a n z) (hS : Ints w s m S) :
    Calls Try.prog 48 #[.slice a n cap, .slice s m scap] w fun e w' => e = .returned (.bool (validB n z m S)) ∧ w = w' := by
  have HZ := Lib.hid hz
  have HSS := Lib.hid hS
  clear hz hS
  by_cases h0 : n = 0
  · have HF := Lib.hid (validB_no (n := n) (z := z) (m := m) (S := S) (fun h => by omega))
    have G : ((n : Int) == 0) = true := by simp [h0]
    clear h0
    go_enter Try.func48, Try.ntmps48
    go_wp2
    go_ret
    exact ⟨by rw [HF.out]; rfl, rfl⟩
  have G0 : ((n : Int) == 0) = false := by simp; omega
  by_cases h6 : 6 < n
  · have HF := Lib.hid (validB_no (n := n) (z := z) (m := m) (S := S) (fun h => by omega))
    go_enter Try.func48, Try.ntmps48
    go_wp2
    go_ret
    exact ⟨by rw [HF.out]; rfl, rfl⟩
  have hn6 : n ≤ 6 := by omega
  obtain ⟨p1, p2⟩ := pow_6 hn6
  obtain ⟨P, hP⟩ : ∃ P, P = 2 ^ n := ⟨_, rfl⟩
  have HP := Lib.hid hP
  rw [← hP] at p1 p2
  clear hP h6
  go_enter Try.func48, Try.ntmps48
  go_wp2
  go_loop [6, 19] (fun _ i => ∃ k : Nat, k ≤ n ∧ i = .int .i64 k ∧ Hid (∀ j, j < k → 1 ≤ z j ∧ z j ≤ 9)) (fun _ i => n - (intOf i).toNat)
  case atStart => exact ⟨0, Nat.zero_le _, rfl, fun j hj => absurd hj (Nat.not_lt_zero _)⟩
  case round =>
    obtain ⟨k, hk, rfl, hr⟩ := hrel
    by_cases hlt : k < n
    · obtain ⟨b, o, rfl, hck⟩ := HZ.out k hlt
      by_cases h1 : z k < 1
      · have HF := Lib.hid (validB_no (n := n) (z := z) (m := m) (S := S) (fun h => by have := h.1.2.2 k hlt; omega))
        go_wp2
        go_ret
        exact ⟨by rw [HF.out]; rfl, rfl⟩
      by_cases h9 : 9 < z k
      · have HF := Lib.hid (validB_no (n := n) (z := z) (m := m) (S := S) (fun h => by have := h.1.2.2 k hlt; omega))
        go_wp2
        go_ret
        exact ⟨by rw [HF.out]; rfl, rfl⟩
      have hn' : Hid (∀ j, j < k + 1 → 1 ≤ z j ∧ z j ≤ 9) := by
        intro j hj
        by_cases e : j = k
        · subst e; omega
        · exact hr.out j (by omega)
      go_wp2
      go_round
      case rel => exact ⟨k + 1, by omega, by go_num, hn'⟩
      case measure => simp [intOf]; omega
    · have e : k = n := by omega
      have hall : Hid (∀ j, j < n → 1 ≤ z j ∧ z j ≤ 9) := by rw [← e]; exact hr
      have hge : (n : Int) ≤ k := by omega
      clear e hr
      go_wp2
      go_loop [8, 32] (fun _ i => ∃ q : Nat, q ≤ m ∧ i = .int .i64 q ∧ Hid (∀ j, j < q → 0 ≤ S j ∧ S j < 2 ^ n)) (fun _ i => m - (intOf i).toNat)
      case atStart => exact ⟨0, Nat.zero_le _, rfl, fun j hj => absurd hj (Nat.not_lt_zero _)⟩
      case round =>
        obtain ⟨q, hq, rfl, hr⟩ := hrel
        by_cases hlt : q < m
        · obtain ⟨b, o, rfl, hck⟩ := HSS.out q hlt
          by_cases h1 : S q < 0
          · have HF := Lib.hid (validB_no (n := n) (z := z) (m := m) (S := S) (fun h => by have := h.2 q hlt; omega))
            go_wp2
            go_ret
            exact ⟨by rw [HF.out]; rfl, rfl⟩
          by_cases h9 : (P : Int) ≤ S q
          · have HF := Lib.hid (validB_no (n := n) (z := z) (m := m) (S := S) (fun h => by
              have := h.2 q hlt
              have e : (2 : Int) ^ n = ((2 ^ n : Nat) : Int) := by simp
              rw [e, ← HP.out] at this; omega))
            have G : ((P - 1 : Nat) : Int) < S q := by omega
            go_wp2_with (go_at_call 66; refine (all_any a n cap _ hn6).mono ?_; rintro e w' ⟨rfl, rfl⟩; rw [← HP.out])
            go_ret
            exact ⟨by rw [HF.out]; rfl, rfl⟩
          have G : S q ≤ ((P - 1 : Nat) : Int) := by omega
          have hn' : Hid (∀ j, j < q + 1 → 0 ≤ S j ∧ S j < 2 ^ n) := by
            intro j hj
            by_cases e : j = q
            · subst e
              have e : (2 : Int) ^ n = ((2 ^ n : Nat) : Int) := by simp
              rw [e, ← HP.out]; omega
            · exact hr.out j (by omega)
          go_wp2_with (go_at_call 66; refine (all_any a n cap _ hn6).mono ?_; rintro e w' ⟨rfl, rfl⟩; rw [← HP.out])
          go_round
          case rel => exact ⟨q + 1, by omega, by go_num, hn'⟩
          case measure => simp [intOf]; omega
        · have e : q = m := by omega
          have HF : Hid (validB n z m S = true) := validB_iff.2 ⟨⟨by omega, hn6, hall.out⟩, by rw [← e]; exact hr.out⟩
          have hge : (m : Int) ≤ q := by omega
          clear e hr
          go_wp2
          go_ret
          exact ⟨by rw [HF.out]; rfl, rfl⟩

end Go.Proofs.Ytgednacoeifclaa
