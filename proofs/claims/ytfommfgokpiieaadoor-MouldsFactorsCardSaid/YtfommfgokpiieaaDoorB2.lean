import Derived.Test.YtfommfgokpiieaaDoorB1
import Derived.BigRegion
import Derived.RegionTactic
namespace Go.Proofs.YtfommfgokpiieaaDoor
open Go.RowKit

/-- k exchanges from both ends. -/
def revN (n : Nat) (z : Nat → UInt8) (k x : Nat) : UInt8 := if x < k ∨ n - 1 - k < x then z (n - 1 - x) else z x

set_option maxHeartbeats 2000000 in
set_option maxRecDepth 100000 in
theorem reverse_any (g cap n : Nat) (z : Nat → UInt8) (w : World) (hn : n ≤ 100) (hr : BytesAt w g n z) :
    Calls Tryd.prog 58 #[.slice (some ⟨g, 0, none⟩) n cap] w fun e w' => e = .returned (.tuple #[]) ∧ BytesAt w' g n (fun x => z (n - 1 - x)) ∧ Below g w w' := by
  have HR := Lib.hid hr
  clear hr
  go_enter Tryd.func58, Tryd.ntmps58
  go_wp2
  go_loopw [2, 3] (fun i j wr => ∃ k : Nat, 2 * k ≤ n ∧ i = .int .i64 k ∧ j = .int .i64 ((n : Int) - 1 - k) ∧ BytesAt wr g n (revN n z k) ∧ Below g w wr) (fun i _ _ => n - (intOf i).toNat)
  case atStart => exact ⟨0, by omega, rfl, by simp, HR.out.congr (fun j hj => by unfold revN; rw [if_neg (by omega)]), Below.refl _ _⟩
  case round =>
    obtain ⟨k, hk, rfl, rfl, hR, hb⟩ := hrel
    by_cases hlt : k < n - 1 - k
    · obtain ⟨m, hm⟩ : ∃ m : Nat, m = n - 1 - k := ⟨_, rfl⟩
      have em : (n : Int) - 1 - k = m := by omega
      have c1 := hR.cell k (show k < n by omega)
      have f1 := hR.free k (show k < n by omega)
      have c2 := hR.cell m (show m < n by omega)
      have f2 := hR.free m (show m < n by omega)
      have hkm : k < m := by omega
      have hmn : m < n := by omega
      have hkm' : (k : Int) < m := by omega
      have hmn' : (m : Int) < n := by omega
      have hkn' : (k : Int) < n := by omega
      have hne : k ≠ m := by omega
      have e1 : revN n z k k = z k := by unfold revN; rw [if_neg (by omega)]
      have e2 : revN n z k m = z m := by unfold revN; rw [if_neg (by omega)]
      rw [e1] at c1
      rw [e2] at c2
      have HRR : Hid (∀ wr', BytesAt wr' g n (revN n z k) → BytesAt ((wr'.setCell ⟨g, k, none⟩ (.int .u8 (z m).toNat)).setCell ⟨g, m, none⟩ (.int .u8 (z k).toNat)) g n (revN n z (k + 1))) := fun wr' h => by
        refine ((h.set (k := k) (by omega) (z m)).set (k := m) hmn (z k)).congr fun x hx => ?_
        unfold revN
        by_cases ea : x = m
        · rw [if_pos ea, if_pos (by omega)]; congr 1; omega
        · rw [if_neg ea]
          by_cases eb : x = k
          · rw [if_pos eb, if_pos (by omega)]; congr 1; omega
          · rw [if_neg eb]
            by_cases ec : x < k ∨ n - 1 - k < x
            · rw [if_pos ec, if_pos (by omega)]
            · rw [if_neg ec, if_neg (by omega)]
      have HRW := Lib.hid (hR.keep ((Below.refl wr.heap.size wr).drew))
      have HB := Lib.hid hb
      have Em := Lib.hid em
      have Hm := Lib.hid hm
      rw [em]
      clear e1 e2 hR hb em hm
      go_wp2
      go_region
      all_goals go_wp2
      all_goals refine ⟨⟨k + 1, by have := Hm.out; omega, by go_num, congrArg (Value.int .i64) (by have := Em.out; omega), HRR.out _ HRW.out, ((HB.out.drew.setCell (Nat.le_refl _) _).setCell (Nat.le_refl _) _)⟩, by simp [intOf]; omega⟩
    · have hle : n - 1 - k ≤ k := by omega
      have hi : ¬ ((k : Int) < (n : Int) - 1 - k) := by omega
      have HF : Hid (BytesAt wr g n (fun x => z (n - 1 - x))) := hR.congr fun x hx => by
        unfold revN
        by_cases ec : x < k ∨ n - 1 - k < x
        · rw [if_pos ec]
        · rw [if_neg ec]; congr 1; omega
      clear hR
      go_wp2
      go_end0
      exact ⟨rfl, HF.out, hb⟩
end Go.Proofs.YtfommfgokpiieaaDoor
