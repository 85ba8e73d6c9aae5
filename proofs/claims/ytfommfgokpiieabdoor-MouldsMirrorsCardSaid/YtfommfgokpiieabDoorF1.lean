import Derived.Test.YtfommfgokpiieabDoorR2
import Derived.Lib.MinMaxS
namespace Go.Proofs.YtfommfgokpiieabDoor
open Go.RowKit

/-- A turn: so many first letters put at the end. -/
def turnB (s : ByteArray) (k : Nat) : ByteArray := s.extract k s.size ++ s.extract 0 k

set_option maxHeartbeats 2000000 in
theorem turn_any (s : ByteArray) (k : Nat) (w : World) (hs : s.size ≤ 24) (hk : k ≤ s.size) :
    Calls Tryd.prog 49 #[.string s, .int .i64 k] w fun e w' => e = .returned (.string (turnB s k)) ∧ Below w.heap.size w w' := by
  have h1 : (k : Int) ≤ s.size := by omega
  have h2 : (0 : Int) ≤ k := by omega
  have h3 : ¬ 9223372036854775807 < (s.extract k s.size).size + (s.extract 0 k).size := by
    rw [extract_size s k s.size (Nat.le_refl _), extract_size s 0 k hk]; omega
  go_enter Tryd.func49, Tryd.ntmps49
  go_wp2
  go_quiet (fail)
  go_wp2
  go_ret
  exact ⟨rfl, below_drewN (Below.refl _ _) _⟩

/-- The first of the first turns. -/
def firstN (s : ByteArray) : Nat → ByteArray
  | 0 => s
  | k + 1 => Lib.minS (firstN s k) (turnB s k)

set_option maxHeartbeats 2000000 in
theorem wfirst_any (s : ByteArray) (w : World) (hs : s.size ≤ 24) :
    Calls Tryd.prog 36 #[.string s] w fun e w' => e = .returned (.string (firstN s s.size)) ∧ Below w.heap.size w w' := by
  have hmn := fun (w : World) (ts : Array TypeId) (t : TypeId) (x y : ByteArray) => Lib.run_min_strs (P := Tryd.prog) w ts t x y
  go_enter Tryd.func36, Tryd.ntmps36
  go_wp2
  go_loopw [3, 8] (fun v i wr => ∃ k : Nat, i = .int .i64 k ∧ k ≤ s.size ∧ v = .string (firstN s k) ∧ Below w.heap.size w wr) (fun _ i _ => s.size - (intOf i).toNat)
  case atStart => exact ⟨0, rfl, Nat.zero_le _, rfl, Below.refl _ _⟩
  case round =>
    obtain ⟨k, rfl, hk, rfl, hb⟩ := hrel
    have HB := Lib.hid hb
    clear hb
    by_cases hlt : k < s.size
    · have HT := Lib.hid (fun W => turn_any s k W hs (by omega))
      have HN : Hid (firstN s (k + 1) = Lib.minS (firstN s k) (turnB s k)) := rfl
      generalize turnB s k = u at HT HN
      generalize firstN s k = t at HN ⊢
      go_wp2_with fail
      refine (HT.out _).mono ?_
      rintro e w2 ⟨rfl, hb⟩
      have HB2 := Lib.hid (band HB.out hb)
      clear hb
      go_wp2
      go_roundw
      case rel => exact ⟨k + 1, by go_num, by omega, by rw [HN.out], HB2.out⟩
      case measure => simp [intOf]; omega
    · have e : s.size = k := by omega
      have E : Hid (firstN s s.size = firstN s k) := by simp only [Hid]; rw [e]
      have hge : (s.size : Int) ≤ k := by omega
      clear e
      go_wp2
      go_ret
      exact ⟨by rw [E.out]; rfl, HB.out⟩

set_option maxHeartbeats 2000000 in
theorem first_r (s : ByteArray) (w : World) (hs : s.size ≤ 24) :
    Calls Tryd.prog 38 #[.string s] w fun e w' => e = .returned (.string (firstN s s.size)) ∧ Below w.heap.size w w' := by
  have hmn := fun (w : World) (ts : Array TypeId) (t : TypeId) (x y : ByteArray) => Lib.run_min_strs (P := Tryd.prog) w ts t x y
  go_enter Tryd.func38, Tryd.ntmps38
  go_wp2
  go_loopw [3, 8] (fun v i wr => ∃ k : Nat, i = .int .i64 k ∧ k ≤ s.size ∧ v = .string (firstN s k) ∧ Below w.heap.size w wr) (fun _ i _ => s.size - (intOf i).toNat)
  case atStart => exact ⟨0, rfl, Nat.zero_le _, rfl, Below.refl _ _⟩
  case round =>
    obtain ⟨k, rfl, hk, rfl, hb⟩ := hrel
    have HB := Lib.hid hb
    clear hb
    by_cases hlt : k < s.size
    · have HN : Hid (firstN s (k + 1) = Lib.minS (firstN s k) (s.extract k s.size ++ s.extract 0 k)) := rfl
      have h1 : (k : Int) ≤ s.size := by omega
      have h2 : (0 : Int) ≤ k := by omega
      have h3 : ¬ 9223372036854775807 < (s.extract k s.size).size + (s.extract 0 k).size := by
        rw [extract_size s k s.size (Nat.le_refl _), extract_size s 0 k hk]; omega
      generalize firstN s k = t at HN ⊢
      go_wp2
      go_quiet (fail)
      go_wp2
      go_roundw
      case rel => exact ⟨k + 1, by go_num, by omega, by rw [HN.out], below_drewN HB.out _⟩
      case measure => simp [intOf]; omega
    · have e : s.size = k := by omega
      have E : Hid (firstN s s.size = firstN s k) := by simp only [Hid]; rw [e]
      have hge : (s.size : Int) ≤ k := by omega
      clear e
      go_wp2
      go_ret
      exact ⟨by rw [E.out]; rfl, HB.out⟩
end Go.Proofs.YtfommfgokpiieabDoor
