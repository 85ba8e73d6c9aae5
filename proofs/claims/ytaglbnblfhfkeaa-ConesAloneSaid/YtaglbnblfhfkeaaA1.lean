import Derived.Test.YtaglbnblfhfkeaaProg
import Derived.Test.YtaglbnblfhfkeaaMem
import Derived.WalkSpells
import Derived.WalkLawsBesides
import Derived.BigQuiet
import Derived.Deep.QuietTactic
namespace Go.Proofs.Ytaglbnblfhfkeaa
open Go.RowKit

set_option maxHeartbeats 400000 in
theorem numbers_any (a : Option Addr) (cap n : Nat) (z : Nat → Int) (lo hi : Int) (w : World) (hs : n ≤ 140737488351232) (hc : Ints w a n z) :
    Calls Try.prog 22 #[.slice a n cap, .int .i64 lo, .int .i64 hi] w fun e w' => e = .returned (.bool (allIn z n lo hi)) ∧ w = w' := by
  go_enter Try.func22, Try.ntmps22
  go_wp2
  go_loop [11] (fun i => ∃ k : Nat, k ≤ n ∧ i = .int .i64 k ∧ Hid (∀ j, j < k → lo ≤ z j ∧ z j ≤ hi)) (fun i => n - (intOf i).toNat)
  case atStart => exact ⟨0, Nat.zero_le _, rfl, fun j hj => absurd hj (Nat.not_lt_zero _)⟩
  case round =>
    obtain ⟨k, hk, rfl, hr⟩ := hrel
    by_cases hlt : k < n
    · obtain ⟨b, o, rfl, hck⟩ := hc k hlt
      clear hc
      by_cases h1 : z k < lo
      · have hf := Lib.hid (allIn_no (lo := lo) (hi := hi) k hlt (Or.inl h1))
        go_wp2
        go_ret
        exact ⟨by rw [hf.out]; rfl, rfl⟩
      · by_cases h2 : hi < z k
        · have hf := Lib.hid (allIn_no (lo := lo) (hi := hi) k hlt (Or.inr h2))
          go_wp2
          go_ret
          exact ⟨by rw [hf.out]; rfl, rfl⟩
        · have hn : Hid (∀ j, j < k + 1 → lo ≤ z j ∧ z j ≤ hi) := by
            intro j hj
            by_cases e : j = k
            · subst e; omega
            · exact hr.out j (by omega)
          go_wp2
          go_round
          case rel => exact ⟨k + 1, by omega, by go_num, hn⟩
          case measure => simp [intOf]; omega
    · have e : k = n := by omega
      subst e
      have hf := Lib.hid (allIn_yes hr.out)
      go_wp2
      go_ret
      exact ⟨by rw [hf.out]; rfl, rfl⟩

theorem numbers_r (r : Bool) (a : Option Addr) (cap n : Nat) (z : Nat → Int) (lo hi : Int) (w : World) (hr : allIn z n lo hi = r) (hs : n ≤ 140737488351232) (hc : Ints w a n z) :
    Calls Try.prog 22 #[.slice a n cap, .int .i64 lo, .int .i64 hi] w fun e w' => e = .returned (.bool r) ∧ w = w' := by
  subst hr; exact numbers_any a cap n z lo hi w hs hc

set_option maxHeartbeats 1000000 in
theorem rmatrix_any (a : Option Addr) (cap R : Nat) (A : Nat → Option Addr) (L C : Nat → Nat) (Z : Nat → Nat → Int) (w : World) (hs : R ≤ 140737488351232) (hm : Mat w a R A L C Z) :
    Calls Try.prog 27 #[.slice a R cap] w fun e w' => e = .returned (.bool (isMat R L Z)) ∧ w = w' := by
  by_cases h1 : R < 1
  · have hf := Lib.hid (isMat_no (R := R) (L := L) (Z := Z) (fun h => by omega))
    go_enter Try.func27, Try.ntmps27
    go_wp2
    go_ret
    exact ⟨by rw [hf.out]; rfl, rfl⟩
  by_cases h2 : 2 < R
  · have hf := Lib.hid (isMat_no (R := R) (L := L) (Z := Z) (fun h => by omega))
    go_enter Try.func27, Try.ntmps27
    go_wp2
    go_ret
    exact ⟨by rw [hf.out]; rfl, rfl⟩
  obtain ⟨b, o, rfl, hc0⟩ := hm.row 0 (by omega)
  simp only [Nat.add_zero] at hc0
  go_enter Try.func27, Try.ntmps27
  go_wp2
  go_loop [15] (fun i => ∃ k : Nat, k ≤ R ∧ i = .int .i64 k ∧ Hid (∀ j, j < k → L j = L 0 ∧ 1 ≤ L j ∧ L j ≤ 4 ∧ ∀ i, i < L j → -2 ≤ Z j i ∧ Z j i ≤ 2)) (fun i => R - (intOf i).toNat)
  case atStart => exact ⟨0, Nat.zero_le _, rfl, fun j hj => absurd hj (Nat.not_lt_zero _)⟩
  case round =>
    obtain ⟨k, hk, rfl, hr⟩ := hrel
    by_cases hlt : k < R
    · obtain ⟨b', o', he, hck⟩ := hm.row k hlt
      cases he
      have hcap := hm.cap k hlt
      by_cases g1 : L k = L 0
      · have G1 : ((L k : Int) == (L 0 : Int)) = true := by simp [g1]
        have G1' : ((L k : Int) != (L 0 : Int)) = false := by simp [g1]
        have Hg1 := Lib.hid g1; clear g1
        by_cases g2 : L k < 1
        · have hf := Lib.hid (isMat_no (R := R) (L := L) (Z := Z) (fun h => by have := (h.2.2 k hlt); omega))
          go_wp2
          go_ret
          exact ⟨by rw [hf.out]; rfl, rfl⟩
        by_cases g3 : 4 < L k
        · have hf := Lib.hid (isMat_no (R := R) (L := L) (Z := Z) (fun h => by have := (h.2.2 k hlt); omega))
          go_wp2
          go_ret
          exact ⟨by rw [hf.out]; rfl, rfl⟩
        have hi := hm.ints k hlt
        cases hA : allIn (Z k) (L k) (-2) 2
        · have HA := Lib.hid hA
          have hf := Lib.hid (isMat_no (R := R) (L := L) (Z := Z) (fun h => by have := allIn_iff.2 (h.2.2 k hlt).2.2.2; rw [hA] at this; cases this))
          clear hA
          go_wp2_with (go_at_call 22; refine (numbers_r false _ _ _ _ _ _ _ HA.out (by omega) hi).mono ?_; rintro e w' ⟨rfl, rfl⟩)
          go_ret
          exact ⟨by rw [hf.out]; rfl, rfl⟩
        · have HA := Lib.hid hA
          clear hA
          have hn : Hid (∀ j, j < k + 1 → L j = L 0 ∧ 1 ≤ L j ∧ L j ≤ 4 ∧ ∀ i, i < L j → -2 ≤ Z j i ∧ Z j i ≤ 2) := by
            intro j hj
            by_cases e : j = k
            · subst e; exact ⟨Hg1.out, by omega, by omega, allIn_iff.1 HA.out⟩
            · exact hr.out j (by omega)
          go_wp2_with (go_at_call 22; refine (numbers_r true _ _ _ _ _ _ _ HA.out (by omega) hi).mono ?_; rintro e w' ⟨rfl, rfl⟩)
          go_round
          case rel => exact ⟨k + 1, by omega, by go_num, hn⟩
          case measure => simp [intOf]; omega
      · have hf := Lib.hid (isMat_no (R := R) (L := L) (Z := Z) (fun h => by have := (h.2.2 k hlt); omega))
        have G1' : ((L k : Int) != (L 0 : Int)) = true := by simp; omega
        go_wp2
        go_ret
        exact ⟨by rw [hf.out]; rfl, rfl⟩
    · have e : k = R := by omega
      subst e
      have hf := Lib.hid (isMat_iff.2 ⟨by omega, by omega, hr.out⟩)
      go_wp2
      go_ret
      exact ⟨by rw [hf.out]; rfl, rfl⟩

theorem rmatrix_r (r : Bool) (a : Option Addr) (cap R : Nat) (A : Nat → Option Addr) (L C : Nat → Nat) (Z : Nat → Nat → Int) (w : World) (hr : isMat R L Z = r) (hs : R ≤ 140737488351232) (hm : Mat w a R A L C Z) :
    Calls Try.prog 27 #[.slice a R cap] w fun e w' => e = .returned (.bool r) ∧ w = w' := by
  subst hr; exact rmatrix_any a cap R A L C Z w hs hm

/-- Is it a vector for the matrix, with numbers from one to another one? -/
def isVec (R : Nat) (L : Nat → Nat) (Z : Nat → Nat → Int) (n : Nat) (z : Nat → Int) (lo hi : Int) : Bool := isMat R L Z && (decide (n = L 0) && allIn z n lo hi)

set_option maxHeartbeats 1000000 in
theorem rvector_any (a : Option Addr) (cap R : Nat) (A : Nat → Option Addr) (L C : Nat → Nat) (Z : Nat → Nat → Int) (ax : Option Addr) (nx cx : Nat) (z : Nat → Int) (lo hi : Int) (w : World)
    (hs : R ≤ 140737488351232) (hm : Mat w a R A L C Z) (hx : nx ≤ 140737488351232) (hz : Ints w ax nx z) :
    Calls Try.prog 19 #[.slice a R cap, .slice ax nx cx, .int .i64 lo, .int .i64 hi] w fun e w' => e = .returned (.bool (isVec R L Z nx z lo hi)) ∧ w = w' := by
  cases hM : isMat R L Z
  · have HM := Lib.hid hM
    have hf : Hid (isVec R L Z nx z lo hi = false) := by simp [Hid, isVec, hM]
    clear hM
    go_enter Try.func19, Try.ntmps19
    go_wp2_with (go_at_call 27; refine (rmatrix_r false _ _ _ _ _ _ _ _ HM.out hs hm).mono ?_; rintro e w' ⟨rfl, rfl⟩)
    go_ret
    exact ⟨by rw [hf.out]; rfl, rfl⟩
  · have HM := Lib.hid hM
    have hM2 := isMat_iff.1 hM
    obtain ⟨b, o, rfl, hc0⟩ := hm.row 0 (by omega)
    simp only [Nat.add_zero] at hc0
    have hl0 := hM2.2.2 0 (by omega)
    have hl1 : L 0 ≤ 4 := hl0.2.2.1
    have hR : 0 < R := hM2.1
    have hR' : (0 : Int) < (R : Int) := by omega
    by_cases g : nx = L 0
    · have G1 : ((nx : Int) == (L 0 : Int)) = true := by simp [g]
      have hf : Hid (isVec R L Z nx z lo hi = allIn z nx lo hi) := by simp only [Hid, isVec, hM, g]; simp
      clear hM hM2 hl0 g
      go_enter Try.func19, Try.ntmps19
      go_wp2_with (first
        | (go_at_call 27; refine (rmatrix_r true _ _ _ _ _ _ _ _ HM.out hs hm).mono ?_; rintro e w' ⟨rfl, rfl⟩)
        | (go_at_call 22; refine (numbers_any _ _ _ _ _ _ _ hx hz).mono ?_; rintro e w' ⟨rfl, rfl⟩))
      go_ret
      exact ⟨by rw [hf.out]; rfl, rfl⟩
    · have G1 : ((nx : Int) == (L 0 : Int)) = false := by simp; omega
      have hf : Hid (isVec R L Z nx z lo hi = false) := by simp only [Hid, isVec, hM, g]; simp
      clear hM hM2 hl0 g
      go_enter Try.func19, Try.ntmps19
      go_wp2_with (go_at_call 27; refine (rmatrix_r true _ _ _ _ _ _ _ _ HM.out hs hm).mono ?_; rintro e w' ⟨rfl, rfl⟩)
      go_ret
      exact ⟨by rw [hf.out]; rfl, rfl⟩

theorem rvector_r (r : Bool) (a : Option Addr) (cap R : Nat) (A : Nat → Option Addr) (L C : Nat → Nat) (Z : Nat → Nat → Int) (ax : Option Addr) (nx cx : Nat) (z : Nat → Int) (lo hi : Int) (w : World)
    (hr : isVec R L Z nx z lo hi = r) (hs : R ≤ 140737488351232) (hm : Mat w a R A L C Z) (hx : nx ≤ 140737488351232) (hz : Ints w ax nx z) :
    Calls Try.prog 19 #[.slice a R cap, .slice ax nx cx, .int .i64 lo, .int .i64 hi] w fun e w' => e = .returned (.bool r) ∧ w = w' := by
  subst hr; exact rvector_any a cap R A L C Z ax nx cx z lo hi w hs hm hx hz

end Go.Proofs.Ytaglbnblfhfkeaa
