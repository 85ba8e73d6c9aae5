import Derived.Test.YtfommfgokpiieabDoorC1
import Derived.Test.YtfommfgokpiieabDoorA3
import Derived.Laws.CopyOwn
namespace Go.Proofs.YtfommfgokpiieabDoor
open Go.RowKit

/-- Is it near enough? -/
def nearB (x y : Int) : Bool := decide ((-100 ≤ x ∧ x ≤ 100) ∧ -100 ≤ y ∧ y ≤ 100)
theorem nearB_iff {x y : Int} : nearB x y = true ↔ (-100 ≤ x ∧ x ≤ 100) ∧ -100 ≤ y ∧ y ≤ 100 := by simp [nearB]

set_option maxHeartbeats 1000000 in
theorem isPlace_any (x y : Int) (w : World) : Calls Tryd.prog 26 #[pV x y] w fun e w' => e = .returned (.bool (nearB x y)) ∧ Below w.heap.size w w' := by
  have HB := Lib.hid (one_le w (.cells #[.int .i64 x, .int .i64 y] 23))
  by_cases h : max x y ≤ 100
  · have HO : Hid (nearB x y = decide (-100 ≤ min x y)) := by
      simp only [Hid, nearB]; apply decide_eq_decide.2; omega
    go_enter Tryd.func26, Tryd.ntmps26
    go_wp2
    go_ret
    exact ⟨by rw [HO.out]; rfl, HB.out⟩
  · have HO : Hid (nearB x y = false) := by
      simp only [Hid]; cases e : nearB x y
      · rfl
      · have := nearB_iff.1 e; omega
    go_enter Tryd.func26, Tryd.ntmps26
    go_wp2
    go_ret
    exact ⟨by rw [HO.out]; rfl, HB.out⟩

set_option maxHeartbeats 1000000 in
theorem near_r (x y : Int) (w : World) : Calls Tryd.prog 10 #[pV x y] w fun e w' => e = .returned (.bool (nearB x y)) ∧ Below w.heap.size w w' := by
  have HB := Lib.hid (one_le w (.cells #[.int .i64 x, .int .i64 y] 23))
  by_cases h1 : -100 ≤ x
  · by_cases h2 : x ≤ 100
    · by_cases h3 : -100 ≤ y
      · have HO : Hid (nearB x y = decide (y ≤ 100)) := by
          simp only [Hid, nearB]; apply decide_eq_decide.2; omega
        go_enter Tryd.func10, Tryd.ntmps10
        go_wp2
        go_ret
        exact ⟨by rw [HO.out]; rfl, HB.out⟩
      · have HO : Hid (nearB x y = false) := by
          simp only [Hid]; cases e : nearB x y
          · rfl
          · have := nearB_iff.1 e; omega
        go_enter Tryd.func10, Tryd.ntmps10
        go_wp2
        go_ret
        exact ⟨by rw [HO.out]; rfl, HB.out⟩
    · have HO : Hid (nearB x y = false) := by
        simp only [Hid]; cases e : nearB x y
        · rfl
        · have := nearB_iff.1 e; omega
      go_enter Tryd.func10, Tryd.ntmps10
      go_wp2
      go_ret
      exact ⟨by rw [HO.out]; rfl, HB.out⟩
  · have HO : Hid (nearB x y = false) := by
      simp only [Hid]; cases e : nearB x y
      · rfl
      · have := nearB_iff.1 e; omega
    go_enter Tryd.func10, Tryd.ntmps10
    go_wp2
    go_ret
    exact ⟨by rw [HO.out]; rfl, HB.out⟩

/-- The determinant. -/
def crossN (x0 y0 x1 y1 : Int) : Int := x0 * y1 - y0 * x1
theorem mul_le {a b : Int} (ha : -1000 ≤ a ∧ a ≤ 1000) (hb : -1000 ≤ b ∧ b ≤ 1000) : -1000000 ≤ a * b ∧ a * b ≤ 1000000 := by
  have h1 : (a * b).natAbs ≤ 1000 * 1000 := by rw [Int.natAbs_mul]; exact Nat.mul_le_mul (by omega) (by omega)
  omega
set_option maxHeartbeats 1000000 in
theorem cross_any (x0 y0 x1 y1 r : Int) (w : World) (hr : crossN x0 y0 x1 y1 = r) (h0 : -1000 ≤ x0 ∧ x0 ≤ 1000) (h1 : -1000 ≤ y0 ∧ y0 ≤ 1000) (h2 : -1000 ≤ x1 ∧ x1 ≤ 1000) (h3 : -1000 ≤ y1 ∧ y1 ≤ 1000) :
    Calls Tryd.prog 43 #[pV x0 y0, pV x1 y1] w fun e w' => e = .returned (.int .i64 r) ∧ Below w.heap.size w w' := by
  have HB := Lib.hid (two_le w (.cells #[.int .i64 x0, .int .i64 y0] 23) (.cells #[.int .i64 x1, .int .i64 y1] 23))
  obtain ⟨m1, m2⟩ := mul_le h0 h3
  obtain ⟨m3, m4⟩ := mul_le h1 h2
  have HR : Hid (r = x0 * y1 - y0 * x1) := hr.symm
  clear hr h0 h1 h2 h3
  go_enter Tryd.func43, Tryd.ntmps43
  go_wp2
  go_ret
  exact ⟨by rw [HR.out]; rfl, HB.out⟩

end Go.Proofs.YtfommfgokpiieabDoor
