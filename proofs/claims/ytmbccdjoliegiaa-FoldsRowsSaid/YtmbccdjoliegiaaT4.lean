import Derived.Test.YtmbccdjoliegiaaT3
namespace Go.Proofs.Ytmbccdjoliegiaa
open Go.RowKit

set_option maxHeartbeats 4000000 in
set_option maxRecDepth 100000 in
theorem rcreases_any (a : Option Addr) (cap n : Nat) (z : Nat → Int) (w : World) (h1 : 1 ≤ n) (hn : n ≤ 20) (hg : goodP n z n) (hc : Ints w a n z) :
    Calls Try.prog 31 #[.slice a n cap] w fun e w' => e = .returned (.int .i64 (mts n z (n - 1))) ∧ Below w.heap.size w w' := by
  have hp := places_any a cap n z w hn hg hc
  have HP := Lib.hid hp
  clear hp hc hg
  go_enter Try.func31, Try.ntmps31
  go_wp2_with fail
  refine HP.out.mono ?_
  rintro e w2 ⟨b, rfl, hb, hS, hb2⟩
  have HS := Lib.hid hS
  have HB2 := Lib.hid hb2
  clear hS hb2 hb HP
  go_wp2
  go_loopw [4, 12] (fun s i wr => ∃ k : Nat, k ≤ n - 1 ∧ i = .int .i64 k ∧ s = .int .i64 (mts n z k) ∧ ∃ q, wr = w2.drewN q) (fun _ i _ => n - (intOf i).toNat)
  case atStart => exact ⟨0, Nat.zero_le _, rfl, rfl, 0, rfl⟩
  case round =>
    obtain ⟨k, hk, rfl, rfl, q0, rfl⟩ := hrel
    by_cases hlt : k + 1 < n
    · have hlt' : (k : Int) < (n : Int) - 1 := by omega
      have hlt2 : (k : Int) + 1 < (n : Int) := by omega
      have hlt3 : (k : Int) < (n : Int) := by omega
      have hk60 : k ≤ 60 := by omega
      have hM := mts_lt n z k hk60
      have S := set_bit (mts n z k) k hM hk60
      have HS0 : Hid (mtB n z k = true → mts n z (k + 1) = mts n z k ||| 2 ^ k) := fun h => by simp [mts, h]
      have HS1 : Hid (mtB n z k = false → mts n z (k + 1) = mts n z k) := fun h => by simp [mts, h]
      have HY := Lib.hid (mtB_yes (n := n) (z := z) (i := k))
      have HN := Lib.hid (mtB_no (n := n) (z := z) (i := k))
      have c1 : w2.cell? ⟨b, k, none⟩ = some (.int .i64 (ix n z k)) := (HS.out.cell (show k < n by omega)).1
      have c2 : w2.cell? ⟨b, k + 1, none⟩ = some (.int .i64 (ix n z ((k : Int) + 1))) := (HS.out.cell hlt).1
      have hw1 : IntKind.i64.wrap ((k : Int) + 1) = (k : Int) + 1 := IntWalk.i64_in _ (by omega)
      have hw2 : ((k : Int) + 1).toNat = k + 1 := by omega
      have hw3 : 0 ≤ (k : Int) + 1 := by omega
      clear hM
      have hpar : (k : Int) % 2 = 0 ∧ k % 2 = 0 ∨ (k : Int) % 2 = 1 ∧ k % 2 = 1 := by omega
      have hord : ix n z k < ix n z ((k : Int) + 1) ∨ ix n z ((k : Int) + 1) ≤ ix n z k := by omega
      rcases hpar with ⟨hp, hp'⟩ | ⟨hp, hp'⟩ <;> rcases hord with ho | ho
      · have HT : Hid (mts n z (k + 1) = mts n z k ||| 2 ^ k) := HS0.out (HY.out (Or.inl ⟨ho, hp'⟩))
        clear hp'
        go_wp2
        go_quiet (fail)
        go_wp2
        go_roundw
        case rel => exact ⟨k + 1, by omega, by go_num, by rw [HT.out], _, rfl⟩
        case measure => simp [intOf]; omega
      · have HT : Hid (mts n z (k + 1) = mts n z k) := HS1.out (HN.out (Or.inr ⟨ho, hp'⟩))
        have D : decide (ix n z k < ix n z ((k : Int) + 1)) = false := by simp; omega
        clear hp'
        go_wp2
        go_quiet (fail)
        go_wp2
        go_roundw
        case rel => exact ⟨k + 1, by omega, by go_num, by rw [HT.out], _, rfl⟩
        case measure => simp [intOf]; omega
      · have HT : Hid (mts n z (k + 1) = mts n z k) := HS1.out (HN.out (Or.inl ⟨ho, hp'⟩))
        clear hp'
        go_wp2
        go_quiet (fail)
        go_wp2
        go_roundw
        case rel => exact ⟨k + 1, by omega, by go_num, by rw [HT.out], _, rfl⟩
        case measure => simp [intOf]; omega
      · have HT : Hid (mts n z (k + 1) = mts n z k ||| 2 ^ k) := HS0.out (HY.out (Or.inr ⟨ho, hp'⟩))
        have D : decide (ix n z k < ix n z ((k : Int) + 1)) = false := by simp; omega
        clear hp'
        go_wp2
        go_quiet (fail)
        go_wp2
        go_roundw
        case rel => exact ⟨k + 1, by omega, by go_num, by rw [HT.out], _, rfl⟩
        case measure => simp [intOf]; omega
    · have e : k = n - 1 := by omega
      have E := Lib.hid e
      clear e
      have hge : (n : Int) - 1 ≤ k := by omega
      go_wp2
      go_ret
      exact ⟨by rw [← E.out]; rfl, ⟨HB2.out.os, HB2.out.tape, HB2.out.output, HB2.out.size, HB2.out.block⟩⟩

/-- How many leaves but the last one are among the first k. -/
def lessN (p k : Nat) : Nat := if k ≤ p then k else k - 1

set_option maxHeartbeats 4000000 in
set_option maxRecDepth 100000 in
theorem ropen_any (a : Option Addr) (cap n : Nat) (z : Nat → Int) (w : World) (h2 : 2 ≤ n) (hn : n ≤ 20) (hg : goodP n z n) (hc : Ints w a n z) :
    Calls Try.prog 32 #[.slice a n cap] w fun e w' => ∃ a' c', e = .returned (.slice a' (n - 1) c') ∧ Own w' w.heap.size a' (n - 1) c' (opN n z) ∧ Below w.heap.size w w' := by
  obtain ⟨p, hpn, hzp, hpos⟩ := pos_at hg (show n - 1 < n by omega)
  have hix : ix n z ((n : Int) - 1) = p := by
    have : ((n - 1 : Nat) : Int) = (n : Int) - 1 := by omega
    rw [← this]; exact hpos
  have HF : Hid (∀ j, opN n z j = if j < p then z j else z (p + 1 + (j - p))) := fun j => by unfold opN catN; rw [hix]; rfl
  have HZ : Hid (∀ j, j < n → (j ≠ p → z j < (n : Int) - 1) ∧ (j = p → z j = (n : Int) - 1)) := fun j hj => by
    refine ⟨fun hne => ?_, fun e => by rw [e, hzp]; omega⟩
    have := hg j hj
    have h3 : z j ≠ (n : Int) - 1 := fun e => by
      have e2 : pos n z (n - 1) = j := pos_of hg hj (by rw [e]; omega)
      rw [hpos] at e2; omega
    omega
  have HC := Lib.hid hc
  obtain ⟨i0, hi, hz0, hz1, hz2⟩ := info_parts Try.info3
  clear hix hpos hzp hg hc
  go_enter Try.func32, Try.ntmps32
  go_wp2
  go_loopw [3, 8] (fun v i wr => ∃ k : Nat, k ≤ n ∧ i = .int .i64 k ∧ (∃ a' cap', v = .slice a' (lessN p k) cap' ∧ Own wr w.heap.size a' (lessN p k) cap' (opN n z)) ∧ Below w.heap.size w wr) (fun _ i _ => n - (intOf i).toNat)
  case atStart => exact ⟨0, Nat.zero_le _, rfl, ⟨none, 0, by simp [lessN], by simp only [lessN, Nat.zero_le, if_true]; exact World.ownsRow_nil _ _ _ _⟩, Below.refl _ _⟩
  case round =>
    obtain ⟨k, hk, rfl, ⟨a', cap', rfl, hO⟩, hb⟩ := hrel
    have HO := Lib.hid hO
    have HB := Lib.hid hb
    have hBs := hb.size
    clear hO hb
    by_cases hlt : k < n
    · obtain ⟨b, o, rfl, hck⟩ := (HC.out.keep (Nat.le_refl _) HB.out) k hlt
      have hz := HZ.out k hlt
      by_cases hkp : k = p
      · have hzk := hz.2 hkp
        have hL : Hid (lessN p (k + 1) = lessN p k) := by rw [hkp]; simp [Hid, lessN]
        have hge : ¬ (z k < (n : Int) - 1) := by omega
        clear hz hkp hzk
        go_wp2
        go_roundw
        case rel => exact ⟨k + 1, by omega, by go_num, ⟨a', cap', by rw [hL.out], by rw [hL.out]; exact HO.out⟩, HB.out⟩
        case measure => simp [intOf]; omega
      · have hzk := hz.1 hkp
        have hL : Hid (lessN p (k + 1) = lessN p k + 1) := by unfold Hid lessN; split <;> split <;> omega
        have hE : Hid (z k = opN n z (lessN p k)) := by
          rw [Hid, HF.out]; unfold lessN
          by_cases e : k ≤ p
          · rw [if_pos e, if_pos (by omega)]
          · rw [if_neg e, if_neg (by omega)]; congr 1; omega
        have hl20 : lessN p k ≤ 20 := by unfold lessN; split <;> omega
        clear hz hkp
        generalize lessN p k = m at *
        go_wp2_with (at_builtin; refine wpList_append_own _ rfl _ _ 22 rfl w.heap.size 3 i0 (.int .i64 0) 1 8 Try.underlying22 hi hz0 hz1 hz2 rfl (by decide) _ _ _ rfl (HO.out.alloc _) ⟨wr.heap.size, 0, none⟩ 1 1 [.int .i64 (z k)] rfl rfl (one_new _ _ _) (one_ok _ rfl) (by unfold maxLen; omega) (by omega) (by simp; omega) ?_)
        intro v' w2 hown hgrow _
        have hB' : Below w.heap.size w w2 := (HB.out.alloc (by omega) _).grown hgrow (by simp; omega) (fun k hk => (World.ownsRow.lt HO.out k hk).1)
        obtain ⟨a2, cap2, rfl, hO2⟩ := Own.snoc HO.out hown hE.out
        have HO2 := Lib.hid hO2
        have HB2 := Lib.hid hB'
        clear hown hgrow hO2 hB'
        go_wp2
        go_roundw
        case rel => exact ⟨k + 1, by omega, by go_num, ⟨a2, cap2, by rw [hL.out], by rw [hL.out]; exact HO2.out⟩, HB2.out⟩
        case measure => simp [intOf]; omega
    · have e : k = n := by omega
      have hL : Hid (lessN p k = n - 1) := by rw [e]; unfold Hid lessN; rw [if_neg (by omega)]
      have hge : (n : Int) ≤ k := by omega
      clear e
      generalize lessN p k = m at *
      go_wp2
      go_ret
      exact ⟨a', cap', by rw [← hL.out]; rfl, by rw [← hL.out]; exact HO.out, HB.out⟩

end Go.Proofs.Ytmbccdjoliegiaa
