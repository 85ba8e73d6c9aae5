import Derived.Test.YtcedhcpjnoppmaaN3
import Derived.Test.YtcedhcpjnoppmaaT1
import Derived.Test.YtcedhcpjnoppmaaFi2
namespace Go.Proofs.Ytcedhcpjnoppmaa
open Go.RowKit

/-- The box of a plan, of a Chance, and the cells of the result. -/
structure TrAt (aT : Option Addr) (nT cT : Nat) (aL : Option Addr) (nL cL : Nat) (Y O : Int) (w wr : World) : Prop where
  pl : wr.heap[w.heap.size]? = some (.cells #[.slice aT nT cT, .slice aL nL cL] 24)
  ch : wr.heap[w.heap.size + 1]? = some (.cells #[.int .i64 Y, .int .i64 O] 26)
  res : wr.heap[w.heap.size + 1 + 1]? = some (.cells #[.int .i64 0, .int .i64 0] 28)
  bel : Below w.heap.size w wr

section
variable {aT : Option Addr} {nT cT : Nat} {aL : Option Addr} {nL cL : Nat} {Y O : Int} {w wr : World}
theorem TrAt.start (w : World) : TrAt aT nT cT aL nL cL Y O w (((w.alloc (.cells #[.slice aT nT cT, .slice aL nL cL] 24)).alloc (.cells #[.int .i64 Y, .int .i64 O] 26)).alloc (.cells #[.int .i64 0, .int .i64 0] 28)) :=
  ⟨by rw [Below.heap_alloc _ _ _ (by simp <;> omega)]; exact heap_two1 _ _ _, by rw [Below.heap_alloc _ _ _ (by simp)]; exact heap_two2 _ _ _, heap_three3 _ _ _ _, below_three _ _ _ _⟩
theorem TrAt.keep (h : TrAt aT nT cT aL nL cL Y O w wr) {wr' : World} (hb : Below wr.heap.size wr wr') : TrAt aT nT cT aL nL cL Y O w wr' :=
  ⟨by rw [hb.block _ (Array.getElem?_eq_some_iff.1 h.pl).1]; exact h.pl, by rw [hb.block _ (Array.getElem?_eq_some_iff.1 h.ch).1]; exact h.ch, by rw [hb.block _ (Array.getElem?_eq_some_iff.1 h.res).1]; exact h.res, band h.bel hb⟩
theorem TrAt.cells (h : TrAt aT nT cT aL nL cL Y O w wr) : wr.cell? ⟨w.heap.size, 0, none⟩ = some (.slice aT nT cT) ∧ wr.cell? ⟨w.heap.size, 1, none⟩ = some (.slice aL nL cL) ∧ wr.cell? ⟨w.heap.size + 1, 0, none⟩ = some (.int .i64 Y) ∧ wr.cell? ⟨w.heap.size + 1, 1, none⟩ = some (.int .i64 O) ∧
    wr.cell? ⟨w.heap.size + 1 + 1, 0, none⟩ = some (.int .i64 0) ∧ wr.cell? ⟨w.heap.size + 1 + 1, 1, none⟩ = some (.int .i64 0) ∧
    wr.frozen? ⟨w.heap.size + 1 + 1, 0, none⟩ = false ∧ wr.frozen? ⟨w.heap.size + 1 + 1, 1, none⟩ = false ∧ w.heap.size + 1 + 1 < wr.heap.size :=
  ⟨block_cell h.pl 0, block_cell h.pl 1, block_cell h.ch 0, block_cell h.ch 1, block_cell h.res 0, block_cell h.res 1, block_free h.res 0, block_free h.res 1, (Array.getElem?_eq_some_iff.1 h.res).1⟩
end

theorem rfrac_i (a b : Int) (w : World) (ha0 : 0 ≤ a) (ha : a ≤ 4611686018427387904) (hb : b ≤ 4611686018427387904) (h1 : 1 ≤ b) :
    Calls Try.prog 59 #[.int .i64 a, .int .i64 b] w fun e w' => e = .returned (frV a.toNat b.toNat) ∧ Below w.heap.size w w' := by
  have := rfrac_any a.toNat b.toNat w (by omega) (by omega) (by omega)
  rw [show ((a.toNat : Nat) : Int) = a by omega, show ((b.toNat : Nat) : Int) = b by omega] at this
  exact this

set_option maxHeartbeats 4000000 in
set_option maxRecDepth 100000 in
theorem rtaken_any (aT : Option Addr) (n cT : Nat) (aL : Option Addr) (m cL : Nat) (T L : Nat → Int) (Y O : Int) (w : World) (hp : isPlan n m T L = true) (hc : isCh Y O = true) (hT : Ints w aT n T) (hL : Ints w aL m L) :
    Calls Try.prog 27 #[plV aT n cT aL m cL, chV Y O] w fun e w' => e = .returned (frV (tk Y O T L n).toNat (O ^ n).toNat) ∧ Below w.heap.size w w' := by
  have HP := Lib.hid hp
  have HC := Lib.hid hc
  have hpp := isPlan_iff.1 hp
  have hcc := isCh_iff.1 hc
  have hn := hpp.2.1
  obtain ⟨bd1, bd2, bd3, bd4⟩ := taken_bd (T := T) (L := L) hc hn
  have HT := Lib.hid hT
  have HL := Lib.hid hL
  clear hp hc hpp hT hL
  have HB0 := Lib.hid (TrAt.start (aT := aT) (nT := n) (cT := cT) (aL := aL) (nL := m) (cL := cL) (Y := Y) (O := O) w)
  go_enter Try.func27, Try.ntmps27
  go_wp2_with fail
  refine (nums_any aT n cT aL m cL T L Y O _ HP.out HC.out (HT.out.keep (Nat.le_refl _) HB0.out.bel) (HL.out.keep (Nat.le_refl _) HB0.out.bel)).mono ?_
  rintro e w1 ⟨rfl, hb1⟩
  have HB1 := Lib.hid (HB0.out.keep hb1)
  obtain ⟨q1, q2, q3, q4, q5, q6, q7, q8, q9⟩ := HB1.out.cells
  clear hb1 HB0
  go_wp2_with fail
  refine (power_any O n _ hcc.1 hcc.2.1 hn).mono ?_
  rintro e w' ⟨rfl, rfl⟩
  go_wp2_with fail
  refine (rfrac_i _ _ _ bd1.1 (by omega) (by omega) bd3).mono ?_
  rintro e w4 ⟨rfl, hb4⟩
  have HB4 := Lib.hid (HB1.out.keep hb4)
  clear q1 q2 q3 q4 q5 q6 q7 q8 q9
  obtain ⟨q1, q2, q3, q4, q5, q6, q7, q8, q9⟩ := HB4.out.cells
  have HBel := Lib.hid HB4.out.bel
  clear hb4 HB1
  go_wp2
  exact bodyPost_ret (v := frV (tk Y O T L n).toNat (O ^ n).toNat) (by simp [results, Try.results27, go_sem, q5, q6]) rfl ⟨rfl, (HBel.out.setCell (by simp; omega) _).setCell (by simp; omega) _⟩

set_option maxHeartbeats 4000000 in
set_option maxRecDepth 100000 in
theorem rlooks_any (aT : Option Addr) (n cT : Nat) (aL : Option Addr) (m cL : Nat) (T L : Nat → Int) (Y O : Int) (w : World) (hp : isPlan n m T L = true) (hc : isCh Y O = true) (hT : Ints w aT n T) (hL : Ints w aL m L) :
    Calls Try.prog 28 #[plV aT n cT aL m cL, chV Y O] w fun e w' => e = .returned (frV (lk Y O T L n).toNat (O ^ n).toNat) ∧ Below w.heap.size w w' := by
  have HP := Lib.hid hp
  have HC := Lib.hid hc
  have hpp := isPlan_iff.1 hp
  have hcc := isCh_iff.1 hc
  have hn := hpp.2.1
  obtain ⟨bd1, bd2, bd3, bd4⟩ := taken_bd (T := T) (L := L) hc hn
  have HT := Lib.hid hT
  have HL := Lib.hid hL
  clear hp hc hpp hT hL
  have HB0 := Lib.hid (TrAt.start (aT := aT) (nT := n) (cT := cT) (aL := aL) (nL := m) (cL := cL) (Y := Y) (O := O) w)
  go_enter Try.func28, Try.ntmps28
  go_wp2_with fail
  refine (nums_any aT n cT aL m cL T L Y O _ HP.out HC.out (HT.out.keep (Nat.le_refl _) HB0.out.bel) (HL.out.keep (Nat.le_refl _) HB0.out.bel)).mono ?_
  rintro e w1 ⟨rfl, hb1⟩
  have HB1 := Lib.hid (HB0.out.keep hb1)
  obtain ⟨q1, q2, q3, q4, q5, q6, q7, q8, q9⟩ := HB1.out.cells
  clear hb1 HB0
  go_wp2_with fail
  refine (power_any O n _ hcc.1 hcc.2.1 hn).mono ?_
  rintro e w' ⟨rfl, rfl⟩
  go_wp2_with fail
  refine (rfrac_i _ _ _ bd2.1 (by omega) (by omega) bd3).mono ?_
  rintro e w4 ⟨rfl, hb4⟩
  have HB4 := Lib.hid (HB1.out.keep hb4)
  clear q1 q2 q3 q4 q5 q6 q7 q8 q9
  obtain ⟨q1, q2, q3, q4, q5, q6, q7, q8, q9⟩ := HB4.out.cells
  have HBel := Lib.hid HB4.out.bel
  clear hb4 HB1
  go_wp2
  exact bodyPost_ret (v := frV (lk Y O T L n).toNat (O ^ n).toNat) (by simp [results, Try.results28, go_sem, q5, q6]) rfl ⟨rfl, (HBel.out.setCell (by simp; omega) _).setCell (by simp; omega) _⟩

end Go.Proofs.Ytcedhcpjnoppmaa
