import Derived.Test.YtgednacoeifclaaB2
import Derived.Laws.BitsLemmas
/-
  How many bits of a number are set.
-/
namespace Go.Proofs.Ytgednacoeifclaa
open Go.RowKit

def pop (x : Nat) : Nat := ((List.range 6).filter fun i => x.testBit i).length

theorem ret_i64 {a b : Int} (h : a = b) : Ending.returned (.int .i64 a) = .returned (.int .i64 b) := by rw [h]

set_option maxHeartbeats 4000000 in
set_option maxRecDepth 100000 in
theorem ones64_any (x : Nat) (hx : x < 64) (w : World) : Calls Try.prog 97 #[.int .u64 x] w fun e w' => e = .returned (.int .i64 (pop x)) ∧ w = w' := by
  go_enter Try.func97, Try.ntmps97
  go_wp2
  go_ret
  simp
  revert x
  decide +kernel

set_option maxHeartbeats 4000000 in
theorem ones_any (x : Nat) (hx : x < 64) (w : World) : Calls Try.prog 85 #[.int .u64 x] w fun e w' => e = .returned (.int .i64 (pop x)) ∧ w = w' := by
  go_enter Try.func85, Try.ntmps85
  go_wp2_with (go_at_call 97; refine (ones64_any x hx _).mono ?_; rintro e w' ⟨rfl, rfl⟩)
  go_ret
  exact ⟨rfl, rfl⟩
end Go.Proofs.Ytgednacoeifclaa
