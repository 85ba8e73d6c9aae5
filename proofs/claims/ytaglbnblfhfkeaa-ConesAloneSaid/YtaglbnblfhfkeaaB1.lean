import Derived.Test.YtaglbnblfhfkeaaA4
namespace Go.Proofs.Ytaglbnblfhfkeaa
open Go.RowKit

theorem idx0 (a b c d : Int) (w : World) : (Instr.index 61 (.agg #[.int .i64 a, .int .i64 b, .int .i64 c, .int .i64 d]) (.int .i64 0)).run Try.prog w = .ok (.int .i64 a) w := by kernel_rfl
theorem idx1 (a b c d : Int) (w : World) : (Instr.index 61 (.agg #[.int .i64 a, .int .i64 b, .int .i64 c, .int .i64 d]) (.int .i64 1)).run Try.prog w = .ok (.int .i64 b) w := by kernel_rfl
theorem idx2 (a b c d : Int) (w : World) : (Instr.index 61 (.agg #[.int .i64 a, .int .i64 b, .int .i64 c, .int .i64 d]) (.int .i64 2)).run Try.prog w = .ok (.int .i64 c) w := by kernel_rfl
theorem idx3 (a b c d : Int) (w : World) : (Instr.index 61 (.agg #[.int .i64 a, .int .i64 b, .int .i64 c, .int .i64 d]) (.int .i64 3)).run Try.prog w = .ok (.int .i64 d) w := by kernel_rfl

set_option maxHeartbeats 2000000 in
set_option maxRecDepth 100000 in
theorem vdot_any (x y : Nat → Int) (w : World) (hp : ∀ j, j < 4 → -1000000000000 ≤ x j * y j ∧ x j * y j ≤ 1000000000000) :
    Calls Try.prog 59 #[.agg #[.int .i64 (x 0), .int .i64 (x 1), .int .i64 (x 2), .int .i64 (x 3)], .agg #[.int .i64 (y 0), .int .i64 (y 1), .int .i64 (y 2), .int .i64 (y 3)]] w fun e w' =>
      e = .returned (.int .i64 (dotN x y 4)) ∧ Below w.heap.size w w' := by
  have p0 := hp 0 (by omega)
  have p1 := hp 1 (by omega)
  have p2 := hp 2 (by omega)
  have p3 := hp 3 (by omega)
  clear hp
  go_enter Try.func59, Try.ntmps59
  go_wp2
  go_loop [5, 9] (fun s i => ∃ k : Nat, k ≤ 4 ∧ i = .int .i64 k ∧ s = .int .i64 (dotN x y k)) (fun _ i => 4 - (intOf i).toNat)
  case atStart => exact ⟨0, Nat.zero_le _, rfl, rfl⟩
  case round =>
    obtain ⟨k, hk, rfl, rfl⟩ := hrel
    have h5 : k = 0 ∨ k = 1 ∨ k = 2 ∨ k = 3 ∨ k = 4 := by omega
    have i0 := idx0; have i1 := idx1; have i2 := idx2; have i3 := idx3
    rcases h5 with rfl | rfl | rfl | rfl | rfl
    · simp only [dotN]
      go_wp2
      go_round
      case rel => exact ⟨1, by omega, rfl, by simp [dotN]⟩
      case measure => simp [intOf]
    · simp only [dotN]
      go_wp2
      go_round
      case rel => exact ⟨2, by omega, rfl, by simp [dotN]⟩
      case measure => simp [intOf]
    · simp only [dotN]
      go_wp2
      go_round
      case rel => exact ⟨3, by omega, rfl, by simp [dotN]⟩
      case measure => simp [intOf]
    · simp only [dotN]
      go_wp2
      go_round
      case rel => exact ⟨4, by omega, rfl, by simp [dotN]⟩
      case measure => simp [intOf]
    · go_wp2
      go_ret
      exact ⟨rfl, ((Below.refl _ _).alloc (Nat.le_refl _) _).alloc (by simp) _⟩

set_option maxHeartbeats 2000000 in
set_option maxRecDepth 100000 in
theorem vfits_any (x y : Nat → Int) (w : World) :
    Calls Try.prog 61 #[.agg #[.int .i64 (x 0), .int .i64 (x 1), .int .i64 (x 2), .int .i64 (x 3)], .agg #[.int .i64 (y 0), .int .i64 (y 1), .int .i64 (y 2), .int .i64 (y 3)]] w fun e w' =>
      e = .returned (.bool (fitsN x y 4)) ∧ Below w.heap.size w w' := by
  go_enter Try.func61, Try.ntmps61
  go_wp2
  go_loop [8] (fun i => ∃ k : Nat, k ≤ 4 ∧ i = .int .i64 k ∧ Hid (∀ j, j < k → ¬ (0 < x j ∧ y j < x j) ∧ ¬ (x j < 0 ∧ x j < y j))) (fun i => 4 - (intOf i).toNat)
  case atStart => exact ⟨0, Nat.zero_le _, rfl, fun j hj => absurd hj (Nat.not_lt_zero _)⟩
  case round =>
    obtain ⟨k, hk, rfl, hr⟩ := hrel
    have i0 := idx0; have i1 := idx1; have i2 := idx2; have i3 := idx3
    have hB : Hid (Below w.heap.size w ((w.alloc (.cells #[.int .i64 (x 0), .int .i64 (x 1), .int .i64 (x 2), .int .i64 (x 3)] 61)).alloc (.cells #[.int .i64 (y 0), .int .i64 (y 1), .int .i64 (y 2), .int .i64 (y 3)] 61))) :=
      ((Below.refl _ _).alloc (Nat.le_refl _) _).alloc (by simp) _
    by_cases hlt : k < 4
    · by_cases h1 : (0 < x k ∧ y k < x k) ∨ (x k < 0 ∧ x k < y k)
      · have hf := Lib.hid (fitsN_no (n := 4) k hlt h1)
        have h5 : k = 0 ∨ k = 1 ∨ k = 2 ∨ k = 3 := by omega
        clear hr hlt hk
        rcases h5 with rfl | rfl | rfl | rfl
        all_goals (
          rcases h1 with ⟨h1, h2⟩ | ⟨h1, h2⟩
          all_goals
            go_wp2
            go_ret
            exact ⟨by rw [hf.out]; rfl, hB.out⟩)
      · have hn : Hid (∀ j, j < k + 1 → ¬ (0 < x j ∧ y j < x j) ∧ ¬ (x j < 0 ∧ x j < y j)) := by
          intro j hj
          by_cases e : j = k
          · subst e; omega
          · exact hr.out j (by omega)
        have h3 : (0 < x k ∧ x k ≤ y k) ∨ (x k < 0 ∧ y k ≤ x k) ∨ (0 ≤ x k ∧ x k ≤ 0) := by omega
        have h5 : k = 0 ∨ k = 1 ∨ k = 2 ∨ k = 3 := by omega
        clear h1 hr hlt hk
        rcases h5 with rfl | rfl | rfl | rfl
        all_goals (
          rcases h3 with ⟨h1, h2⟩ | ⟨h1, h2⟩ | ⟨h1, h2⟩
          all_goals
            go_wp2
            go_round
            case rel => exact ⟨_, by omega, by go_num, hn⟩
            case measure => simp [intOf])
    · have e : k = 4 := by omega
      subst e
      have hf := Lib.hid (fitsN_iff.2 hr.out)
      clear hr
      go_wp2
      go_ret
      exact ⟨by rw [hf.out]; rfl, hB.out⟩
end Go.Proofs.Ytaglbnblfhfkeaa
