import Derived.Test.YtmbccdjoliegiaaC1
import Derived.Deep.RegionHeld3
import Derived.StillTailTactics
namespace Go.Proofs.Ytmbccdjoliegiaa
open Go.RowKit

def between (p q r : Int) : Bool := decide (min p q < r) && decide (r < max p q)
theorem rb {a b : Bool} (h : a = b) : Ending.returned (.bool a) = .returned (.bool b) := by rw [h]
/-- Does a leaf lie between those of a crease? -/
def around (n : Nat) (z : Nat → Int) (o t x : Int) : Bool := between (ix n z o) (ix n z t) (ix n z x)

set_option maxHeartbeats 1000000 in
set_option maxRecDepth 100000 in
theorem isAround_any (s o t x : Int) (a : Option Addr) (cap n : Nat) (z : Nat → Int) (w : World) (hs : n ≤ 140737488351232) (hc : Ints w a n z) :
    Calls Try.prog 81 #[.agg #[.int .i64 s, .int .i64 o, .int .i64 t], .int .i64 x, .slice a n cap] w fun e w' => e = .returned (.bool (around n z o t x)) ∧ Below w.heap.size w w' := by
  have hb1 := ix_bd n z o
  have hb2 := ix_bd n z t
  have hb3 := ix_bd n z x
  have hc' := hc.keep (Nat.le_refl _) ((Below.refl w.heap.size w).alloc (Nat.le_refl _) (.cells #[.int .i64 s, .int .i64 o, .int .i64 t] 84))
  have ia : ∀ (y : Int) (m : Nat), Calls Try.prog 60 #[.slice a n cap, .int .i64 y] ((w.alloc (.cells #[.int .i64 s, .int .i64 o, .int .i64 t] 84)).drewN m) fun e w' => e = .returned (.int .i64 (ix n z y)) ∧ w' = (w.alloc (.cells #[.int .i64 s, .int .i64 o, .int .i64 t] 84)).drewN m :=
    fun y m => (index_any a cap n z y ((w.alloc (.cells #[.int .i64 s, .int .i64 o, .int .i64 t] 84)).drewN m) hs hc').mono fun e w' h => ⟨h.1, h.2.symm⟩
  have Ia := Lib.hid ia
  clear hc hc' ia
  go_enter Try.func81, Try.ntmps81
  go_wp2
  go_quiet ((go_at_call 60; exact Calls.quiet_of_same (Ia.out _ _)))
  go_wp2
  all_goals go_ret
  all_goals refine ⟨rb ?_, ⟨rfl, rfl, rfl, (((Below.refl w.heap.size w).alloc (Nat.le_refl _) _)).size, (((Below.refl w.heap.size w).alloc (Nat.le_refl _) _)).block⟩⟩
  all_goals
    rw [Bool.eq_iff_iff]
    simp only [around, between, Bool.and_eq_true, decide_eq_true_eq, Bool.false_eq_true, true_iff, false_iff]
    omega

end Go.Proofs.Ytmbccdjoliegiaa
