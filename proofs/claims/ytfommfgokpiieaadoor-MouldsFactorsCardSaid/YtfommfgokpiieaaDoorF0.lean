import Derived.Test.YtfommfgokpiieaaDoorR2
namespace Go.Proofs.YtfommfgokpiieaaDoor
open Go.RowKit

/-- A turn: so many first letters put at the end. -/
def turnB (s : ByteArray) (k : Nat) : ByteArray := s.extract k s.size ++ s.extract 0 k

set_option maxHeartbeats 2000000 in
theorem turn_any (s : ByteArray) (k : Nat) (w : World) (hs : s.size ≤ 24) (hk : k ≤ s.size) :
    Calls Tryd.prog 55 #[.string s, .int .i64 k] w fun e w' => e = .returned (.string (turnB s k)) ∧ Below w.heap.size w w' := by
  have h1 : (k : Int) ≤ s.size := by omega
  have h2 : (0 : Int) ≤ k := by omega
  have h3 : ¬ 9223372036854775807 < (s.extract k s.size).size + (s.extract 0 k).size := by
    rw [extract_size s k s.size (Nat.le_refl _), extract_size s 0 k hk]; omega
  go_enter Tryd.func55, Tryd.ntmps55
  go_wp2
  go_quiet (fail)
  go_wp2
  go_ret
  exact ⟨rfl, below_drewN (Below.refl _ _) _⟩

end Go.Proofs.YtfommfgokpiieaaDoor
