import Derived.Test.YtcedhcpjnoppmaaT1
import Derived.Test.YtcedhcpjnoppmaaV3
import Derived.Test.YtcedhcpjnoppmaaV5
import Derived.Test.YtcedhcpjnoppmaaOpen
namespace Go.Proofs.Ytcedhcpjnoppmaa
open Go.RowKit

theorem after_k (aT : Option Addr) (nT cT : Nat) (aL : Option Addr) (nL cL : Nat) (T L : Nat → Int) (k : Nat) (b : Int) (w : World)
    (hT : Ints w aT nT T) (hL : Ints w aL nL L) (h0 : 0 < k) (hi : k ≤ nT) (hi2 : k ≤ nL) (hi3 : nT ≤ 12) :
    Calls Try.prog 78 #[plV aT nT cT aL nL cL, .int .i64 (k : Int), .int .i64 b] w fun e w' => e = .returned (.int .i64 (av T L (k - 1) b)) ∧ Below w.heap.size w w' := by
  have := after_any aT nT cT aL nL cL T L (k - 1) b w hT hL (by omega) (by omega) hi3
  rw [show (((k - 1 : Nat) : Int) + 1) = (k : Int) by omega] at this
  exact this

/-- How a plan ran. -/
def RunOut (T L : Nat → Int) (x : Nat → Bool) (n : Nat) (w : World) (e : Ending) (w' : World) : Prop :=
  ∃ k : Nat, Ends T L x k ∧ k ≤ n ∧ e = .returned (.tuple #[.int .i64 (k : Int), .bool (decide (av T L (k - 1) (bc x k) = 1))]) ∧ Below w.heap.size w w'

/-- The box of a plan. -/
structure PlAt (aT : Option Addr) (nT cT : Nat) (aL : Option Addr) (nL cL : Nat) (P : TypeId) (w wr : World) : Prop where
  pl : wr.heap[w.heap.size]? = some (.cells #[.slice aT nT cT, .slice aL nL cL] P)
  bel : Below w.heap.size w wr
theorem PlAt.start {aT : Option Addr} {nT cT : Nat} {aL : Option Addr} {nL cL : Nat} {P : TypeId} (w : World) : PlAt aT nT cT aL nL cL P w (w.alloc (.cells #[.slice aT nT cT, .slice aL nL cL] P)) := ⟨heap_alloc_new _ _, below_one _ _⟩
theorem PlAt.keep {aT : Option Addr} {nT cT : Nat} {aL : Option Addr} {nL cL : Nat} {P : TypeId} {w wr : World} (h : PlAt aT nT cT aL nL cL P w wr) {wr' : World} (hb : Below wr.heap.size wr wr') : PlAt aT nT cT aL nL cL P w wr' :=
  ⟨by rw [hb.block _ (Array.getElem?_eq_some_iff.1 h.pl).1]; exact h.pl, band h.bel hb⟩
theorem PlAt.cells {aT : Option Addr} {nT cT : Nat} {aL : Option Addr} {nL cL : Nat} {P : TypeId} {w wr : World} (h : PlAt aT nT cT aL nL cL P w wr) : wr.cell? ⟨w.heap.size, 0, none⟩ = some (.slice aT nT cT) ∧ wr.cell? ⟨w.heap.size, 1, none⟩ = some (.slice aL nL cL) ∧ w.heap.size < wr.heap.size :=
  ⟨block_cell h.pl 0, block_cell h.pl 1, (Array.getElem?_eq_some_iff.1 h.pl).1⟩

set_option maxHeartbeats 4000000 in
set_option maxRecDepth 100000 in
theorem prun_any (aT : Option Addr) (n cT : Nat) (aL : Option Addr) (m cL : Nat) (T L : Nat → Int) (aX : Option Addr) (cX : Nat) (x : Nat → Bool) (w : World) (hp : isPlan n m T L = true) (hT : Ints w aT n T) (hL : Ints w aL m L) (hX : Bools w aX n x) :
    Calls Try.prog 61 #[plV aT n cT aL m cL, .slice aX n cX] w fun e w' => RunOut T L x n w e w' := by
  have hpp := isPlan_iff.1 hp
  have hn := hpp.2.1
  have hn1 := hpp.1
  have hmn : m ≤ n := by omega
  have hnm : n ≤ m := by omega
  have HLast := Lib.hid hpp.2.2.2.2
  have HT := Lib.hid hT
  have HL := Lib.hid hL
  have HX := Lib.hid hX
  clear hp hpp hT hL hX
  have HB0 := Lib.hid (PlAt.start (aT := aT) (nT := n) (cT := cT) (aL := aL) (nL := m) (cL := cL) (P := 32) w)
  go_enter Try.func61, Try.ntmps61
  go_wp2
  go_loopw [6, 7, 8] (fun s6 s7 s8 wr => ∃ (k : Nat) (v : Int), k ≤ n ∧ s6 = .int .i64 k ∧ s7 = .int .i64 (bc x k : Nat) ∧ s8 = .int .i64 v ∧ Hid ((k = 0 → v = 0) ∧ (0 < k → av T L (k - 1) (bc x k) = v) ∧ ∀ j, j + 1 < k → av T L j (bc x (j + 1)) = 0) ∧ PlAt aT n cT aL m cL 32 w wr) (fun s6 _ _ _ => n + 1 - (intOf s6).toNat)
  case atStart => exact ⟨0, 0, Nat.zero_le _, rfl, rfl, rfl, ⟨fun _ => rfl, fun h => absurd h (Nat.lt_irrefl _), fun j hj => absurd hj (Nat.not_lt_zero _)⟩, HB0.out⟩
  clear HB0
  case round =>
    obtain ⟨k, v, hk, rfl, rfl, rfl, hv, hB⟩ := hrel
    have HB := Lib.hid hB
    clear hB
    obtain ⟨q1, q2, q3⟩ := HB.out.cells
    by_cases h0 : v = 0
    · subst h0
      have hlt : k < n := by
        rcases Nat.lt_or_ge k n with h | h
        · exact h
        · have e : k = n := by omega
          subst e
          exact absurd (hv.out.2.1 (by omega)) (av_last HLast.out _)
      obtain ⟨b, o, rfl, hck⟩ := (HX.out.keep (Nat.le_refl _) HB.out.bel) k hlt
      have hbk := bc_le x k
      have hbk' : ((bc x k : Nat) : Int) ≤ 12 := by omega
      cases hx : x k
      · have hbc : Hid (bc x (k + 1) = bc x k) := by unfold Hid; simp [bc, hx]
        rw [hx] at hck
        clear hx
        go_wp2_with fail
        refine (after_any aT n cT aL m cL T L k _ _ (HT.out.keep (Nat.le_refl _) HB.out.bel) (HL.out.keep (Nat.le_refl _) HB.out.bel) hlt (by omega) hn).mono ?_
        rintro e w1 ⟨rfl, hb1⟩
        have HB1 := Lib.hid (HB.out.keep hb1)
        clear hb1 q1 q2 q3 hck
        have hnew : Hid ((k + 1 = 0 → av T L k (bc x k) = 0) ∧ (0 < k + 1 → av T L (k + 1 - 1) (bc x (k + 1)) = av T L k (bc x k)) ∧ ∀ j, j + 1 < k + 1 → av T L j (bc x (j + 1)) = 0) := by
          refine ⟨fun h => absurd h (Nat.succ_ne_zero _), fun _ => by rw [hbc.out]; rfl, fun j hj => ?_⟩
          by_cases e : j + 1 < k
          · exact hv.out.2.2 j e
          · have : k = j + 1 := by omega
            subst this
            exact hv.out.2.1 (by omega)
        go_wp2
        go_roundw
        case rel => exact ⟨k + 1, _, by omega, by go_num, by rw [hbc.out], rfl, hnew, HB1.out⟩
        case measure => simp [intOf]; omega
      · have hbc : Hid (bc x (k + 1) = bc x k + 1) := by unfold Hid; simp [bc, hx]
        rw [hx] at hck
        clear hx
        go_wp2_with fail
        refine (after_any aT n cT aL m cL T L k _ _ (HT.out.keep (Nat.le_refl _) HB.out.bel) (HL.out.keep (Nat.le_refl _) HB.out.bel) hlt (by omega) hn).mono ?_
        rintro e w1 ⟨rfl, hb1⟩
        have HB1 := Lib.hid (HB.out.keep hb1)
        clear hb1 q1 q2 q3 hck
        have hnew : Hid ((k + 1 = 0 → av T L k ((bc x k : Nat) + 1) = 0) ∧ (0 < k + 1 → av T L (k + 1 - 1) (bc x (k + 1)) = av T L k ((bc x k : Nat) + 1)) ∧ ∀ j, j + 1 < k + 1 → av T L j (bc x (j + 1)) = 0) := by
          refine ⟨fun h => absurd h (Nat.succ_ne_zero _), fun _ => by rw [hbc.out]; rfl, fun j hj => ?_⟩
          by_cases e : j + 1 < k
          · exact hv.out.2.2 j e
          · have : k = j + 1 := by omega
            subst this
            exact hv.out.2.1 (by omega)
        go_wp2
        go_roundw
        case rel => exact ⟨k + 1, _, by omega, by go_num, by rw [hbc.out]; go_num, rfl, hnew, HB1.out⟩
        case measure => simp [intOf]; omega
    · have hk0 : 0 < k := by
        rcases Nat.eq_zero_or_pos k with h | h
        · exact absurd (hv.out.1 h) h0
        · exact h
      have G : (v == 0) = false := by simp [h0]
      have Hv : Hid (av T L (k - 1) (bc x k) = v) := hv.out.2.1 hk0
      have HE : Hid (Ends T L x k) := ⟨hk0, hv.out.2.2, by rw [Hv.out]; exact h0⟩
      clear h0
      go_wp2_with fail
      refine (after_k aT n cT aL m cL T L k _ _ (HT.out.keep (Nat.le_refl _) HB.out.bel) (HL.out.keep (Nat.le_refl _) HB.out.bel) hk0 hk (by omega) hn).mono ?_
      rintro e w1 ⟨rfl, hb1⟩
      have HB1 := Lib.hid (HB.out.keep hb1)
      clear hb1 q1 q2 q3
      go_wp2
      go_ret2
      exact ⟨k, HE.out, hk, rfl, HB1.out.bel⟩

end Go.Proofs.Ytcedhcpjnoppmaa
