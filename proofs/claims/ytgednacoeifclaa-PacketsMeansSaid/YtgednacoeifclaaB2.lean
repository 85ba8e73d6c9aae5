import Derived.Test.YtgednacoeifclaaB1
namespace Go.Proofs.Ytgednacoeifclaa
open Go.RowKit

theorem pow_mono {n k m : Nat} (hn : 1 ≤ n) (h : k ≤ m) : n ^ k ≤ n ^ m := Nat.pow_le_pow_right hn h

set_option maxHeartbeats 1000000 in
theorem power_any (n k : Nat) (w : World) (hk : k ≤ 1000) (hb : ∀ j, j ≤ k → n ^ j ≤ 4611686018427387903) :
    Calls Try.prog 91 #[.int .i64 n, .int .i64 k] w fun e w' => e = .returned (.int .i64 ((n ^ k : Nat) : Int)) ∧ w = w' := by
  have HB := Lib.hid hb
  clear hb
  go_enter Try.func91, Try.ntmps91
  go_wp2
  go_loop [5, 7] (fun p i => ∃ j : Nat, j ≤ k ∧ i = .int .i64 j ∧ p = .int .i64 ((n ^ j : Nat) : Int)) (fun _ i => k - (intOf i).toNat)
  case atStart => exact ⟨0, Nat.zero_le _, rfl, by simp⟩
  case round =>
    obtain ⟨j, hj, rfl, rfl⟩ := hrel
    by_cases hlt : j < k
    · have e : n ^ (j + 1) = n ^ j * n := Nat.pow_succ ..
      have h1 := HB.out (j + 1) (by omega)
      obtain ⟨P, hP⟩ : ∃ P, P = n ^ j := ⟨_, rfl⟩
      have HP := Lib.hid hP
      rw [← hP] at e ⊢
      clear hP
      have u : wrap64 ((P : Int) * (n : Int)) = ((n ^ (j + 1) : Nat) : Int) := by rw [e, ← Int.natCast_mul]; exact IntWalk.wrap64_in _ ⟨by omega, by omega⟩
      have v := (IntWalk.i64_left _).trans u
      clear e h1
      go_wp2
      go_round
      case rel => exact ⟨j + 1, by omega, by go_num, by first | rfl | (rw [u])⟩
      case measure => simp [intOf]; omega
    · have e : j = k := by omega
      subst e
      go_wp2
      go_ret
      exact ⟨rfl, rfl⟩

end Go.Proofs.Ytgednacoeifclaa
