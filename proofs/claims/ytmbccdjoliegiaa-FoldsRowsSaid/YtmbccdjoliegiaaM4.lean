import Derived.Test.YtmbccdjoliegiaaM3
import Derived.Test.YtmbccdjoliegiaaC5
namespace Go.Proofs.Ytmbccdjoliegiaa
open Go.RowKit

/-- Is there a map with n columns, and is this a pile of it? -/
def mapB (n : Int) (k : Nat) (z : Nat → Int) : Bool := decide (1 ≤ n) && decide (n ≤ 4) && pileB k z (2 * n)

set_option maxHeartbeats 1000000 in
set_option maxRecDepth 100000 in
theorem map_bad (n : Int) (a : Option Addr) (cap k : Nat) (z : Nat → Int) (w : World) (hs : k ≤ 140737488351232) (hb : mapB n k z = false) (hc : Ints w a k z) :
    Calls Try.prog 41 #[.int .i64 n, .slice a k cap] w fun e w' => e = .returned (.tuple #[.bool false, .int .i64 2]) ∧ w = w' := by
  have HI := Lib.hid hc
  have HB := Lib.hid hb
  clear hc hb
  by_cases h1 : n < 1
  · go_enter Try.func41, Try.ntmps41
    go_wp2
    go_ret2
    exact ⟨rfl, rfl⟩
  · by_cases h4 : 4 < n
    · go_enter Try.func41, Try.ntmps41
      go_wp2
      go_ret2
      exact ⟨rfl, rfl⟩
    · have hpb : pileB k z (2 * n) = false := by
        have := HB.out
        unfold mapB at this
        rw [show decide (1 ≤ n) = true by simp; omega, show decide (n ≤ 4) = true by simp; omega] at this
        simpa using this
      have HP := Lib.hid hpb
      clear HB hpb
      go_enter Try.func41, Try.ntmps41
      go_wp2_with (go_at_call 66; refine (isPile_r false _ _ _ _ _ _ HP.out hs HI.out).mono ?_; rintro e w' ⟨rfl, rfl⟩)
      go_ret2
      exact ⟨rfl, rfl⟩

set_option maxHeartbeats 1000000 in
set_option maxRecDepth 100000 in
theorem map_good (n : Nat) (a : Option Addr) (cap k : Nat) (z : Nat → Int) (w : World) (h1 : 1 ≤ n) (h4 : n ≤ 4) (hp : pileB k z (2 * (n : Int)) = true) (hc : Ints w a k z) :
    Calls Try.prog 41 #[.int .i64 n, .slice a k cap] w fun e w' => e = .returned (.tuple #[.bool (posB k z (mapN n)), .int .i64 0]) ∧ Below w.heap.size w w' := by
  have hk : (k : Int) = 2 * (n : Int) := (pileB_iff.1 hp).1
  have hk8 : k ≤ 8 := by omega
  have HI := Lib.hid hc
  have HP := Lib.hid hp
  have HW := Lib.hid (map_wrapper n w h1 h4)
  clear hc hp
  go_enter Try.func41, Try.ntmps41
  go_wp2_with (go_at_call 66; refine (isPile_r true _ _ _ _ _ _ HP.out (by omega) HI.out).mono ?_; rintro e w' ⟨rfl, rfl⟩)
  refine HW.out.mono ?_
  rintro e w2 ⟨ca, cc, rfl, hT, hc1, hc2, -, hb2⟩
  have hlen := mapN_len n h1
  have HQ := Lib.hid (possible_any (2 * (n : Int)) ca (3 * n - 2) cc (mapN n) a cap k z w2 (by omega) (by omega) hlen hT (HI.out.keep (Nat.le_refl _) hb2))
  have HB2 := Lib.hid hb2
  clear hT hb2 hlen hc1 hc2 HW
  go_wp2_with fail
  refine HQ.out.mono ?_
  rintro e w3 ⟨rfl, hb3⟩
  have HB3 : Hid (Below w.heap.size w w3) := HB2.out.trans (hb3.mono HB2.out.size)
  clear hb3
  go_wp2
  go_ret2
  exact ⟨rfl, HB3.out⟩
end Go.Proofs.Ytmbccdjoliegiaa
