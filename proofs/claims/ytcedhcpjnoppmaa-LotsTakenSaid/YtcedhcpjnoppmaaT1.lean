import Derived.Test.YtcedhcpjnoppmaaV2
import Derived.Test.YtcedhcpjnoppmaaC3
namespace Go.Proofs.Ytcedhcpjnoppmaa
open Go.RowKit

theorem pvalid_r (r : Bool) (aT : Option Addr) (n cT : Nat) (aL : Option Addr) (m cL : Nat) (T L : Nat → Int) (w : World) (hr : isPlan n m T L = r) (hn : n ≤ 140737488351232) (hm : m ≤ 140737488351232) (hT : Ints w aT n T) (hL : Ints w aL m L) :
    Calls Try.prog 53 #[plV aT n cT aL m cL] w fun e w' => SomeB r w e w' := by
  subst hr; exact pvalid_any aT n cT aL m cL T L w hn hm hT hL

/-- The box of a plan, of a Chance, and the cells of the result. -/
structure TkAt (aT : Option Addr) (nT cT : Nat) (aL : Option Addr) (nL cL : Nat) (Y O : Int) (w wr : World) : Prop where
  pl : wr.heap[w.heap.size]? = some (.cells #[.slice aT nT cT, .slice aL nL cL] 32)
  ch : wr.heap[w.heap.size + 1]? = some (.cells #[.int .i64 Y, .int .i64 O] 34)
  res : wr.heap[w.heap.size + 1 + 1]? = some (.cells #[.int .i64 0, .int .i64 0] 28)
  bel : Below w.heap.size w wr

section
variable {aT : Option Addr} {nT cT : Nat} {aL : Option Addr} {nL cL : Nat} {Y O : Int} {w wr : World}
theorem TkAt.start (w : World) : TkAt aT nT cT aL nL cL Y O w (((w.alloc (.cells #[.slice aT nT cT, .slice aL nL cL] 32)).alloc (.cells #[.int .i64 Y, .int .i64 O] 34)).alloc (.cells #[.int .i64 0, .int .i64 0] 28)) :=
  ⟨by rw [Below.heap_alloc _ _ _ (by simp <;> omega)]; exact heap_two1 _ _ _, by rw [Below.heap_alloc _ _ _ (by simp)]; exact heap_two2 _ _ _, heap_three3 _ _ _ _, below_three _ _ _ _⟩
theorem TkAt.keep (h : TkAt aT nT cT aL nL cL Y O w wr) {wr' : World} (hb : Below wr.heap.size wr wr') : TkAt aT nT cT aL nL cL Y O w wr' :=
  ⟨by rw [hb.block _ (Array.getElem?_eq_some_iff.1 h.pl).1]; exact h.pl, by rw [hb.block _ (Array.getElem?_eq_some_iff.1 h.ch).1]; exact h.ch, by rw [hb.block _ (Array.getElem?_eq_some_iff.1 h.res).1]; exact h.res, band h.bel hb⟩
theorem TkAt.cells (h : TkAt aT nT cT aL nL cL Y O w wr) : wr.cell? ⟨w.heap.size, 0, none⟩ = some (.slice aT nT cT) ∧ wr.cell? ⟨w.heap.size, 1, none⟩ = some (.slice aL nL cL) ∧ wr.cell? ⟨w.heap.size + 1, 0, none⟩ = some (.int .i64 Y) ∧ wr.cell? ⟨w.heap.size + 1, 1, none⟩ = some (.int .i64 O) ∧
    wr.cell? ⟨w.heap.size + 1 + 1, 0, none⟩ = some (.int .i64 0) ∧ wr.cell? ⟨w.heap.size + 1 + 1, 1, none⟩ = some (.int .i64 0) ∧
    wr.frozen? ⟨w.heap.size + 1 + 1, 0, none⟩ = false ∧ wr.frozen? ⟨w.heap.size + 1 + 1, 1, none⟩ = false ∧ w.heap.size + 1 + 1 < wr.heap.size :=
  ⟨block_cell h.pl 0, block_cell h.pl 1, block_cell h.ch 0, block_cell h.ch 1, block_cell h.res 0, block_cell h.res 1, block_free h.res 0, block_free h.res 1, (Array.getElem?_eq_some_iff.1 h.res).1⟩
end

theorem fraction_i (a b : Int) (w : World) (ha0 : 0 ≤ a) (ha : a ≤ 4611686018427387904) (hb : b ≤ 4611686018427387904) (h1 : 1 ≤ b) :
    Calls Try.prog 56 #[.int .i64 a, .int .i64 b] w fun e w' => e = .returned (frV a.toNat b.toNat) ∧ Below w.heap.size w w' := by
  have := fraction_any a.toNat b.toNat w (by omega) (by omega) (by omega)
  rw [show ((a.toNat : Nat) : Int) = a by omega, show ((b.toNat : Nat) : Int) = b by omega] at this
  exact this

/-- A fraction, and that all is well; or an error. -/
def FracOut (a b : Int) (w : World) (e : Ending) (w' : World) : Prop := e = .returned (.tuple #[frV a.toNat b.toNat, .int .i64 0]) ∧ Below w.heap.size w w'
def FracNo (w : World) (e : Ending) (w' : World) : Prop := e = .returned (.tuple #[.agg #[.int .i64 0, .int .i64 0], .int .i64 2]) ∧ Below w.heap.size w w'

theorem taken_bd {Y O : Int} {T L : Nat → Int} (hc : isCh Y O = true) {n : Nat} (hn : n ≤ 12) :
    (0 ≤ tk Y O T L n ∧ tk Y O T L n ≤ 107000000000000) ∧ (0 ≤ lk Y O T L n ∧ lk Y O T L n ≤ 107000000000000) ∧ 1 ≤ O ^ n ∧ O ^ n ≤ 107000000000000 := by
  obtain ⟨h1, h12, hY, hO⟩ := isCh_iff.1 hc
  have hp := pow_max h1 h12 hn
  have ht := tk_le (T := T) (L := L) hY hO n
  have hl := lk_le (T := T) (L := L) hY hO n
  have hs := sumN_nonneg (f := op Y O T L n) (n + 1) (fun j _ => op_nonneg hY hO n j)
  have e : (n : Int) * O ^ n ≤ 12 * O ^ n := Int.mul_le_mul_of_nonneg_right (by omega) (by omega)
  omega

set_option maxHeartbeats 4000000 in
set_option maxRecDepth 100000 in
theorem taken_yes (aT : Option Addr) (n cT : Nat) (aL : Option Addr) (m cL : Nat) (T L : Nat → Int) (Y O : Int) (w : World) (hp : isPlan n m T L = true) (hc : isCh Y O = true) (hT : Ints w aT n T) (hL : Ints w aL m L) :
    Calls Try.prog 19 #[plV aT n cT aL m cL, chV Y O] w fun e w' => FracOut (tk Y O T L n) (O ^ n) w e w' := by
  have HP := Lib.hid hp
  have HC := Lib.hid hc
  have hpp := isPlan_iff.1 hp
  have hn := hpp.2.1
  have hmn : m ≤ n := by omega
  have hnm : n ≤ m := by omega
  obtain ⟨bd1, bd2, bd3, bd4⟩ := taken_bd (T := T) (L := L) hc hn
  have HT := Lib.hid hT
  have HL := Lib.hid hL
  clear hp hc hpp hT hL
  have HB0 := Lib.hid (TkAt.start (aT := aT) (nT := n) (cT := cT) (aL := aL) (nL := m) (cL := cL) (Y := Y) (O := O) w)
  go_enter Try.func19, Try.ntmps19
  go_wp2_with fail
  refine (pvalid_r true aT n cT aL m cL T L _ HP.out (by omega) (by omega) (HT.out.keep (Nat.le_refl _) HB0.out.bel) (HL.out.keep (Nat.le_refl _) HB0.out.bel)).mono ?_
  rintro e w1 ⟨rfl, hb1⟩
  have HB1 := Lib.hid (HB0.out.keep hb1)
  obtain ⟨q1, q2, q3, q4, q5, q6, q7, q8, q9⟩ := HB1.out.cells
  clear hb1 HB0
  go_wp2_with fail
  refine (cvalid_one true _ _ _ Y O (heap_alloc_new _ _) HC.out).mono ?_
  rintro e w2 ⟨rfl, hb2⟩
  have HB2 := Lib.hid (HB1.out.keep (band (below_one _ _) hb2))
  clear q1 q2 q3 q4 q5 q6 q7 q8 q9
  obtain ⟨q1, q2, q3, q4, q5, q6, q7, q8, q9⟩ := HB2.out.cells
  clear hb2 HB1
  go_wp2_with fail
  refine (count_any aT n cT aL m cL T L Y O _ hn hnm (HT.out.keep (Nat.le_refl _) HB2.out.bel) (HL.out.keep (Nat.le_refl _) HB2.out.bel) HC.out).mono ?_
  rintro e w3 ⟨rfl, hb3⟩
  have HB3 := Lib.hid (HB2.out.keep hb3)
  clear q1 q2 q3 q4 q5 q6 q7 q8 q9
  obtain ⟨q1, q2, q3, q4, q5, q6, q7, q8, q9⟩ := HB3.out.cells
  clear hb3 HB2
  go_wp2_with fail
  refine (fraction_i _ _ _ bd1.1 (by omega) (by omega) bd3).mono ?_
  rintro e w4 ⟨rfl, hb4⟩
  have HB4 := Lib.hid (HB3.out.keep (band (below_one _ _) hb4))
  clear q1 q2 q3 q4 q5 q6 q7 q8 q9
  obtain ⟨q1, q2, q3, q4, q5, q6, q7, q8, q9⟩ := HB4.out.cells
  have HBel := Lib.hid HB4.out.bel
  clear hb4 HB3
  go_wp2
  exact bodyPost_ret (v := .tuple #[frV (tk Y O T L n).toNat (O ^ n).toNat, .int .i64 0]) (by simp [results, Try.results19, go_sem, q5, q6]) rfl ⟨rfl, (HBel.out.setCell (by simp; omega) _).setCell (by simp; omega) _⟩

set_option maxHeartbeats 4000000 in
set_option maxRecDepth 100000 in
theorem taken_no (aT : Option Addr) (n cT : Nat) (aL : Option Addr) (m cL : Nat) (T L : Nat → Int) (Y O : Int) (w : World) (hpc : isPlan n m T L = false ∨ isCh Y O = false) (hn : n ≤ 140737488351232) (hm : m ≤ 140737488351232) (hT : Ints w aT n T) (hL : Ints w aL m L) :
    Calls Try.prog 19 #[plV aT n cT aL m cL, chV Y O] w fun e w' => FracNo w e w' := by
  have HT := Lib.hid hT
  have HL := Lib.hid hL
  have HB0 := Lib.hid (TkAt.start (aT := aT) (nT := n) (cT := cT) (aL := aL) (nL := m) (cL := cL) (Y := Y) (O := O) w)
  clear hT hL
  cases hp : isPlan n m T L
  · have HP := Lib.hid hp
    clear hp hpc
    go_enter Try.func19, Try.ntmps19
    go_wp2_with fail
    refine (pvalid_r false aT n cT aL m cL T L _ HP.out hn hm (HT.out.keep (Nat.le_refl _) HB0.out.bel) (HL.out.keep (Nat.le_refl _) HB0.out.bel)).mono ?_
    rintro e w1 ⟨rfl, hb1⟩
    have HB1 := Lib.hid (HB0.out.keep hb1)
    obtain ⟨q1, q2, q3, q4, q5, q6, q7, q8, q9⟩ := HB1.out.cells
    have HBel := Lib.hid HB1.out.bel
    clear hb1 HB0
    go_wp2
    exact bodyPost_ret (v := .tuple #[.agg #[.int .i64 0, .int .i64 0], .int .i64 2]) (by simp [results, Try.results19, go_sem, q5, q6]) rfl ⟨rfl, (HBel.out.setCell (by simp; omega) _).setCell (by simp; omega) _⟩
  · have HP := Lib.hid hp
    have HC := Lib.hid (show isCh Y O = false by rw [hp] at hpc; simpa using hpc)
    clear hp hpc
    go_enter Try.func19, Try.ntmps19
    go_wp2_with fail
    refine (pvalid_r true aT n cT aL m cL T L _ HP.out hn hm (HT.out.keep (Nat.le_refl _) HB0.out.bel) (HL.out.keep (Nat.le_refl _) HB0.out.bel)).mono ?_
    rintro e w1 ⟨rfl, hb1⟩
    have HB1 := Lib.hid (HB0.out.keep hb1)
    obtain ⟨q1, q2, q3, q4, q5, q6, q7, q8, q9⟩ := HB1.out.cells
    clear hb1 HB0
    go_wp2_with fail
    refine (cvalid_one false _ _ _ Y O (heap_alloc_new _ _) HC.out).mono ?_
    rintro e w2 ⟨rfl, hb2⟩
    have HB2 := Lib.hid (HB1.out.keep (band (below_one _ _) hb2))
    clear q1 q2 q3 q4 q5 q6 q7 q8 q9
    obtain ⟨q1, q2, q3, q4, q5, q6, q7, q8, q9⟩ := HB2.out.cells
    have HBel := Lib.hid HB2.out.bel
    clear hb2 HB1
    go_wp2
    exact bodyPost_ret (v := .tuple #[.agg #[.int .i64 0, .int .i64 0], .int .i64 2]) (by simp [results, Try.results19, go_sem, q5, q6]) rfl ⟨rfl, (HBel.out.setCell (by simp; omega) _).setCell (by simp; omega) _⟩

end Go.Proofs.Ytcedhcpjnoppmaa
