import Derived.Test.YtfommfgokpiieacDoorC1
import Derived.Test.YtfommfgokpiieacDoorA3
import Derived.Laws.CopyOwn
namespace Go.Proofs.YtfommfgokpiieacDoor
open Go.RowKit

/-- Is it near enough? -/
def nearB (x y : Int) : Bool := decide ((-100 ≤ x ∧ x ≤ 100) ∧ -100 ≤ y ∧ y ≤ 100)
theorem nearB_iff {x y : Int} : nearB x y = true ↔ (-100 ≤ x ∧ x ≤ 100) ∧ -100 ≤ y ∧ y ≤ 100 := by simp [nearB]

set_option maxHeartbeats 1000000 in
theorem isPlace_any (x y : Int) (w : World) : Calls Tryd.prog 30 #[pV x y] w fun e w' => e = .returned (.bool (nearB x y)) ∧ Below w.heap.size w w' := by
  have HB := Lib.hid (one_le w (.cells #[.int .i64 x, .int .i64 y] 31))
  by_cases h : max x y ≤ 100
  · have HO : Hid (nearB x y = decide (-100 ≤ min x y)) := by
      simp only [Hid, nearB]; apply decide_eq_decide.2; omega
    go_enter Tryd.func30, Tryd.ntmps30
    go_wp2
    go_ret
    exact ⟨by rw [HO.out]; rfl, HB.out⟩
  · have HO : Hid (nearB x y = false) := by
      simp only [Hid]; cases e : nearB x y
      · rfl
      · have := nearB_iff.1 e; omega
    go_enter Tryd.func30, Tryd.ntmps30
    go_wp2
    go_ret
    exact ⟨by rw [HO.out]; rfl, HB.out⟩

set_option maxHeartbeats 1000000 in
theorem near_r (x y : Int) (w : World) : Calls Tryd.prog 21 #[pV x y] w fun e w' => e = .returned (.bool (nearB x y)) ∧ Below w.heap.size w w' := by
  have HB := Lib.hid (one_le w (.cells #[.int .i64 x, .int .i64 y] 31))
  by_cases h1 : -100 ≤ x
  · by_cases h2 : x ≤ 100
    · by_cases h3 : -100 ≤ y
      · have HO : Hid (nearB x y = decide (y ≤ 100)) := by
          simp only [Hid, nearB]; apply decide_eq_decide.2; omega
        go_enter Tryd.func21, Tryd.ntmps21
        go_wp2
        go_ret
        exact ⟨by rw [HO.out]; rfl, HB.out⟩
      · have HO : Hid (nearB x y = false) := by
          simp only [Hid]; cases e : nearB x y
          · rfl
          · have := nearB_iff.1 e; omega
        go_enter Tryd.func21, Tryd.ntmps21
        go_wp2
        go_ret
        exact ⟨by rw [HO.out]; rfl, HB.out⟩
    · have HO : Hid (nearB x y = false) := by
        simp only [Hid]; cases e : nearB x y
        · rfl
        · have := nearB_iff.1 e; omega
      go_enter Tryd.func21, Tryd.ntmps21
      go_wp2
      go_ret
      exact ⟨by rw [HO.out]; rfl, HB.out⟩
  · have HO : Hid (nearB x y = false) := by
      simp only [Hid]; cases e : nearB x y
      · rfl
      · have := nearB_iff.1 e; omega
    go_enter Tryd.func21, Tryd.ntmps21
    go_wp2
    go_ret
    exact ⟨by rw [HO.out]; rfl, HB.out⟩

/-- The determinant. -/
def crossN (x0 y0 x1 y1 : Int) : Int := x0 * y1 - y0 * x1
theorem mul_le {a b : Int} (ha : -1000 ≤ a ∧ a ≤ 1000) (hb : -1000 ≤ b ∧ b ≤ 1000) : -1000000 ≤ a * b ∧ a * b ≤ 1000000 := by
  have h1 : (a * b).natAbs ≤ 1000 * 1000 := by rw [Int.natAbs_mul]; exact Nat.mul_le_mul (by omega) (by omega)
  omega
set_option maxHeartbeats 1000000 in
theorem cross_any (x0 y0 x1 y1 r : Int) (w : World) (hr : crossN x0 y0 x1 y1 = r) (h0 : -1000 ≤ x0 ∧ x0 ≤ 1000) (h1 : -1000 ≤ y0 ∧ y0 ≤ 1000) (h2 : -1000 ≤ x1 ∧ x1 ≤ 1000) (h3 : -1000 ≤ y1 ∧ y1 ≤ 1000) :
    Calls Tryd.prog 42 #[pV x0 y0, pV x1 y1] w fun e w' => e = .returned (.int .i64 r) ∧ Below w.heap.size w w' := by
  have HB := Lib.hid (two_le w (.cells #[.int .i64 x0, .int .i64 y0] 31) (.cells #[.int .i64 x1, .int .i64 y1] 31))
  obtain ⟨m1, m2⟩ := mul_le h0 h3
  obtain ⟨m3, m4⟩ := mul_le h1 h2
  have HR : Hid (r = x0 * y1 - y0 * x1) := hr.symm
  clear hr h0 h1 h2 h3
  go_enter Tryd.func42, Tryd.ntmps42
  go_wp2
  go_ret
  exact ⟨by rw [HR.out]; rfl, HB.out⟩

/-- Is a point one of some? -/
def hasB (n : Nat) (X Y : Nat → Int) (x y : Int) : Bool := decide (∃ i, i < n ∧ X i = x ∧ Y i = y)
theorem hasB_iff {n : Nat} {X Y : Nat → Int} {x y : Int} : hasB n X Y x y = true ↔ ∃ i, i < n ∧ X i = x ∧ Y i = y := by simp [hasB]

set_option maxHeartbeats 2000000 in
set_option maxRecDepth 100000 in
theorem in_r (a : Option Addr) (n cap : Nat) (X Y : Nat → Int) (x y : Int) (w : World) (hn : n ≤ 140737488351232) (hC : CellsAt w a 2 n (fun i => pcell (X i) (Y i))) :
    Calls Tryd.prog 12 #[.slice a n cap, .int .i64 x, .int .i64 y] w fun e w' => e = .returned (.bool (hasB n X Y x y)) ∧ Below w.heap.size w w' := by
  have HC := Lib.hid hC
  clear hC
  go_enter Tryd.func12, Tryd.ntmps12
  go_wp2
  go_loopw [11] (fun i wr => ∃ k : Nat, k ≤ n ∧ i = .int .i64 k ∧ Below w.heap.size w wr ∧ Hid (∀ j, j < k → ¬ (X j = x ∧ Y j = y))) (fun i _ => n - (intOf i).toNat)
  case atStart => exact ⟨0, Nat.zero_le _, rfl, Below.refl _ _, fun j hj => absurd hj (Nat.not_lt_zero _)⟩
  case round =>
    obtain ⟨k, hk, rfl, hb, hr⟩ := hrel
    have HB := Lib.hid hb
    have hC := HC.out.keep (Nat.le_refl _) hb
    clear hb
    by_cases hlt : k < n
    · obtain ⟨b, o, rfl, d0, d1⟩ := hC.two hlt
      have hbl := World.block_lt_of_cell? _ _ d0
      have HL := Lib.hid (HB.out.trans ((one_le wr (.cells #[.int .i64 (X k), .int .i64 (Y k)] 31)).mono HB.out.size))
      clear hC
      by_cases he : X k = x ∧ Y k = y
      · have HR : Hid (hasB n X Y x y = true) := hasB_iff.2 ⟨k, hlt, he⟩
        have hq := equalIn_pt (X k) (Y k) x y true (by simp [he.1, he.2])
        clear he
        go_wp2
        go_ret
        exact ⟨by rw [HR.out]; rfl, HL.out⟩
      · have hq := equalIn_pt (X k) (Y k) x y false (by
          cases h : (X k == x && Y k == y)
          · rfl
          · simp at h; exact absurd h he)
        have hn' : Hid (∀ j, j < k + 1 → ¬ (X j = x ∧ Y j = y)) := by
          intro j hj
          by_cases e : j = k
          · subst e; exact he
          · exact hr.out j (by omega)
        clear he
        go_wp2
        go_roundw
        case rel => exact ⟨k + 1, by omega, by go_num, HL.out, hn'⟩
        case measure => simp [intOf]; omega
    · have e : k = n := by omega
      have HR : Hid (hasB n X Y x y = false) := by
        simp only [Hid]; cases h : hasB n X Y x y
        · rfl
        · obtain ⟨i, hi, h1⟩ := hasB_iff.1 h
          exact absurd h1 (hr.out i (by omega))
      subst e
      clear hC
      go_wp2
      go_ret
      exact ⟨by rw [HR.out]; rfl, HB.out⟩
end Go.Proofs.YtfommfgokpiieacDoor
