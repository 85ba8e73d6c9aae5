import Derived.Test.YtcedhcpjnoppmaaT1
namespace Go.Proofs.Ytcedhcpjnoppmaa
open Go.RowKit

set_option maxHeartbeats 4000000 in
set_option maxRecDepth 100000 in
theorem looks_yes (aT : Option Addr) (n cT : Nat) (aL : Option Addr) (m cL : Nat) (T L : Nat → Int) (Y O : Int) (w : World) (hp : isPlan n m T L = true) (hc : isCh Y O = true) (hT : Ints w aT n T) (hL : Ints w aL m L) :
    Calls Try.prog 22 #[plV aT n cT aL m cL, chV Y O] w fun e w' => FracOut (lk Y O T L n) (O ^ n) w e w' := by
  have HP := Lib.hid hp
  have HC := Lib.hid hc
  have hpp := isPlan_iff.1 hp
  have hn := hpp.2.1
  have hmn : m ≤ n := by omega
  have hnm : n ≤ m := by omega
  obtain ⟨bd1, bd2, bd3, bd4⟩ := taken_bd (T := T) (L := L) hc hn
  have HT := Lib.hid hT
  have HL := Lib.hid hL
  clear hp hc hpp hT hL
  have HB0 := Lib.hid (TkAt.start (aT := aT) (nT := n) (cT := cT) (aL := aL) (nL := m) (cL := cL) (Y := Y) (O := O) w)
  go_enter Try.func22, Try.ntmps22
  go_wp2_with fail
  refine (pvalid_r true aT n cT aL m cL T L _ HP.out (by omega) (by omega) (HT.out.keep (Nat.le_refl _) HB0.out.bel) (HL.out.keep (Nat.le_refl _) HB0.out.bel)).mono ?_
  rintro e w1 ⟨rfl, hb1⟩
  have HB1 := Lib.hid (HB0.out.keep hb1)
  obtain ⟨q1, q2, q3, q4, q5, q6, q7, q8, q9⟩ := HB1.out.cells
  clear hb1 HB0
  go_wp2_with fail
  refine (cvalid_one true _ _ _ Y O (heap_alloc_new _ _) HC.out).mono ?_
  rintro e w2 ⟨rfl, hb2⟩
  have HB2 := Lib.hid (HB1.out.keep (band (below_one _ _) hb2))
  clear q1 q2 q3 q4 q5 q6 q7 q8 q9
  obtain ⟨q1, q2, q3, q4, q5, q6, q7, q8, q9⟩ := HB2.out.cells
  clear hb2 HB1
  go_wp2_with fail
  refine (count_any aT n cT aL m cL T L Y O _ hn hnm (HT.out.keep (Nat.le_refl _) HB2.out.bel) (HL.out.keep (Nat.le_refl _) HB2.out.bel) HC.out).mono ?_
  rintro e w3 ⟨rfl, hb3⟩
  have HB3 := Lib.hid (HB2.out.keep hb3)
  clear q1 q2 q3 q4 q5 q6 q7 q8 q9
  obtain ⟨q1, q2, q3, q4, q5, q6, q7, q8, q9⟩ := HB3.out.cells
  clear hb3 HB2
  go_wp2_with fail
  refine (fraction_i _ _ _ bd2.1 (by omega) (by omega) bd3).mono ?_
  rintro e w4 ⟨rfl, hb4⟩
  have HB4 := Lib.hid (HB3.out.keep (band (below_one _ _) hb4))
  clear q1 q2 q3 q4 q5 q6 q7 q8 q9
  obtain ⟨q1, q2, q3, q4, q5, q6, q7, q8, q9⟩ := HB4.out.cells
  have HBel := Lib.hid HB4.out.bel
  clear hb4 HB3
  go_wp2
  exact bodyPost_ret (v := .tuple #[frV (lk Y O T L n).toNat (O ^ n).toNat, .int .i64 0]) (by simp [results, Try.results22, go_sem, q5, q6]) rfl ⟨rfl, (HBel.out.setCell (by simp; omega) _).setCell (by simp; omega) _⟩

set_option maxHeartbeats 4000000 in
set_option maxRecDepth 100000 in
theorem looks_no (aT : Option Addr) (n cT : Nat) (aL : Option Addr) (m cL : Nat) (T L : Nat → Int) (Y O : Int) (w : World) (hpc : isPlan n m T L = false ∨ isCh Y O = false) (hn : n ≤ 140737488351232) (hm : m ≤ 140737488351232) (hT : Ints w aT n T) (hL : Ints w aL m L) :
    Calls Try.prog 22 #[plV aT n cT aL m cL, chV Y O] w fun e w' => FracNo w e w' := by
  have HT := Lib.hid hT
  have HL := Lib.hid hL
  have HB0 := Lib.hid (TkAt.start (aT := aT) (nT := n) (cT := cT) (aL := aL) (nL := m) (cL := cL) (Y := Y) (O := O) w)
  clear hT hL
  cases hp : isPlan n m T L
  · have HP := Lib.hid hp
    clear hp hpc
    go_enter Try.func22, Try.ntmps22
    go_wp2_with fail
    refine (pvalid_r false aT n cT aL m cL T L _ HP.out hn hm (HT.out.keep (Nat.le_refl _) HB0.out.bel) (HL.out.keep (Nat.le_refl _) HB0.out.bel)).mono ?_
    rintro e w1 ⟨rfl, hb1⟩
    have HB1 := Lib.hid (HB0.out.keep hb1)
    obtain ⟨q1, q2, q3, q4, q5, q6, q7, q8, q9⟩ := HB1.out.cells
    have HBel := Lib.hid HB1.out.bel
    clear hb1 HB0
    go_wp2
    exact bodyPost_ret (v := .tuple #[.agg #[.int .i64 0, .int .i64 0], .int .i64 2]) (by simp [results, Try.results22, go_sem, q5, q6]) rfl ⟨rfl, (HBel.out.setCell (by simp; omega) _).setCell (by simp; omega) _⟩
  · have HP := Lib.hid hp
    have HC := Lib.hid (show isCh Y O = false by rw [hp] at hpc; simpa using hpc)
    clear hp hpc
    go_enter Try.func22, Try.ntmps22
    go_wp2_with fail
    refine (pvalid_r true aT n cT aL m cL T L _ HP.out hn hm (HT.out.keep (Nat.le_refl _) HB0.out.bel) (HL.out.keep (Nat.le_refl _) HB0.out.bel)).mono ?_
    rintro e w1 ⟨rfl, hb1⟩
    have HB1 := Lib.hid (HB0.out.keep hb1)
    obtain ⟨q1, q2, q3, q4, q5, q6, q7, q8, q9⟩ := HB1.out.cells
    clear hb1 HB0
    go_wp2_with fail
    refine (cvalid_one false _ _ _ Y O (heap_alloc_new _ _) HC.out).mono ?_
    rintro e w2 ⟨rfl, hb2⟩
    have HB2 := Lib.hid (HB1.out.keep (band (below_one _ _) hb2))
    clear q1 q2 q3 q4 q5 q6 q7 q8 q9
    obtain ⟨q1, q2, q3, q4, q5, q6, q7, q8, q9⟩ := HB2.out.cells
    have HBel := Lib.hid HB2.out.bel
    clear hb2 HB1
    go_wp2
    exact bodyPost_ret (v := .tuple #[.agg #[.int .i64 0, .int .i64 0], .int .i64 2]) (by simp [results, Try.results22, go_sem, q5, q6]) rfl ⟨rfl, (HBel.out.setCell (by simp; omega) _).setCell (by simp; omega) _⟩

end Go.Proofs.Ytcedhcpjnoppmaa
