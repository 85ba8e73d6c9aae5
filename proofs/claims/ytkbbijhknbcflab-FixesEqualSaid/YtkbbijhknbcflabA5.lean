import Derived.Test.YtkbbijhknbcflabA4
import Derived.Deep.DeepCutAuto
import Derived.Deep.RegionWith
import Derived.Deep.RegionHeld3
namespace Go.Proofs.Ytkbbijhknbcflab
open Go.RowKit

/-- The box of a plan, and the cells of the result. -/
structure OfAt (aT : Option Addr) (nT cT : Nat) (aL : Option Addr) (nL cL : Nat) (w wr : World) : Prop where
  pl : wr.heap[w.heap.size]? = some (.cells #[.slice aT nT cT, .slice aL nL cL] 24)
  res : wr.heap[w.heap.size + 1]? = some (.cells #[.slice none 0 0, .slice none 0 0] 33)
  bel : Below w.heap.size w wr

section
variable {aT : Option Addr} {nT cT : Nat} {aL : Option Addr} {nL cL : Nat} {w wr : World}
theorem OfAt.start (w : World) : OfAt aT nT cT aL nL cL w ((w.alloc (.cells #[.slice aT nT cT, .slice aL nL cL] 24)).alloc (.cells #[.slice none 0 0, .slice none 0 0] 33)) :=
  ⟨heap_two1 _ _ _, heap_two2 _ _ _, below_two _ _ _⟩
theorem OfAt.drew (h : OfAt aT nT cT aL nL cL w wr) : OfAt aT nT cT aL nL cL w wr.drew := ⟨h.pl, h.res, h.bel.drew⟩
theorem OfAt.keep (h : OfAt aT nT cT aL nL cL w wr) {wr' : World} (hb : Below wr.heap.size wr wr') : OfAt aT nT cT aL nL cL w wr' :=
  ⟨by rw [hb.block _ (Array.getElem?_eq_some_iff.1 h.pl).1]; exact h.pl, by rw [hb.block _ (Array.getElem?_eq_some_iff.1 h.res).1]; exact h.res, band h.bel hb⟩
theorem OfAt.cells (h : OfAt aT nT cT aL nL cL w wr) : wr.cell? ⟨w.heap.size, 0, none⟩ = some (.slice aT nT cT) ∧ wr.cell? ⟨w.heap.size, 1, none⟩ = some (.slice aL nL cL) ∧ wr.cell? ⟨w.heap.size + 1, 0, none⟩ = some (.slice none 0 0) ∧ wr.cell? ⟨w.heap.size + 1, 1, none⟩ = some (.slice none 0 0) ∧
    wr.frozen? ⟨w.heap.size + 1, 0, none⟩ = false ∧ wr.frozen? ⟨w.heap.size + 1, 1, none⟩ = false ∧ w.heap.size + 1 < wr.heap.size :=
  ⟨block_cell h.pl 0, block_cell h.pl 1, block_cell h.res 0, block_cell h.res 1, block_free h.res 0, block_free h.res 1, (Array.getElem?_eq_some_iff.1 h.res).1⟩
end

theorem ints_set {w : World} {a : Option Addr} {n : Nat} {z : Nat → Int} (h : Ints w a n z) {b : Nat} {cs : Array Value} {T : TypeId} (hb : w.heap[b]? = some (.cells cs T)) (hno : ∀ (j : Nat) (x : Int), cs[j]? ≠ some (.int .i64 x)) (o : Nat) (v : Value) : Ints (w.setCell ⟨b, o, none⟩ v) a n z := by
  intro j hj
  obtain ⟨b', o', rfl, hc⟩ := h j hj
  refine ⟨b', o', rfl, ?_⟩
  have : b' ≠ b := by
    intro e
    subst e
    rw [block_cell hb] at hc
    exact hno _ _ hc
  rw [World.cell?_of_block (Below.heap_setCell w ⟨b, o, none⟩ v b' this)]
  exact hc

theorem ints_set2 {w : World} {a : Option Addr} {n : Nat} {z : Nat → Int} (h : Ints w a n z) {b : Nat} {a1 a2 a3 a4 : Option Addr} {n1 c1 n2 c2 n3 c3 n4 c4 : Nat} {T : TypeId} (hb : w.heap[b]? = some (.cells #[.slice a1 n1 c1, .slice a2 n2 c2] T)) :
    Ints ((w.setCell ⟨b, 0, none⟩ (.slice a3 n3 c3)).setCell ⟨b, 1, none⟩ (.slice a4 n4 c4)) a n z := by
  have no2 : ∀ (x1 x2 : Option Addr) (m1 k1 m2 k2 : Nat) (j : Nat) (x : Int), (#[Value.slice x1 m1 k1, .slice x2 m2 k2] : Array Value)[j]? ≠ some (.int .i64 x) := by
    intro x1 x2 m1 k1 m2 k2 j x he
    match j, he with
    | 0, he => simp at he
    | 1, he => simp at he
    | j + 2, he => simp at he
  refine ints_set (ints_set h hb (no2 _ _ _ _ _ _) _ _) (heap_setCell_same _ _ 0 _ _ _ hb) ?_ _ _
  intro j x
  have := no2 a3 a2 n3 c3 n2 c2 j x
  simpa using this

/-- A plan that was handed over, cut. -/
def OfOut (n m : Nat) (T L : Nat → Int) (w : World) (e : Ending) (w' : World) : Prop :=
  ∃ a1 c1 a2 c2, e = .returned (wkV a1 (min n 9) c1 a2 (min m 9) c2) ∧ Ints w' a1 (min n 9) T ∧ Ints w' a2 (min m 9) L ∧ Below w.heap.size w w'

set_option maxHeartbeats 4000000 in
set_option maxRecDepth 100000 in
theorem of_any (aT : Option Addr) (n cT : Nat) (aL : Option Addr) (m cL : Nat) (T L : Nat → Int) (w : World) (hn : n ≤ cT) (hn8 : n * 8 ≤ 140737488355328) (hm : m ≤ cL) (hm8 : m * 8 ≤ 140737488355328) (hT : Ints w aT n T) (hL : Ints w aL m L) :
    Calls Try.prog 11 #[wkV aT n cT aL m cL] w fun e w' => OfOut n m T L w e w' := by
  have HT := Lib.hid hT
  have HL := Lib.hid hL
  have Hn := Lib.hid hn
  have Hn8 := Lib.hid hn8
  have Hm := Lib.hid hm
  have Hm8 := Lib.hid hm8
  clear hT hL hn hn8 hm hm8
  have HB0 := Lib.hid (OfAt.start (aT := aT) (nT := n) (cT := cT) (aL := aL) (nL := m) (cL := cL) w)
  go_enter Try.func11, Try.ntmps11
  go_wp2
  go_region_held3 (fun w' => w'.cell? ⟨w.heap.size, 0, none⟩ = some (.slice aT n cT) ∧ w'.cell? ⟨w.heap.size, 1, none⟩ = some (.slice aL m cL))
    (first
      | go_keep
      | (go_split_ands; exact ⟨HB1.out.cells.1, HB1.out.cells.2.1⟩)
      | (go_split_ands; exact ⟨HB2.out.cells.1, HB2.out.cells.2.1⟩))
    ((first
      | ((with_reducible refine (list_any aT cT n T _ Hn.out Hn8.out (HT.out.keep (Nat.le_refl _) HB0.out.drew.bel)).mono ?_); rintro e w1 ⟨a1, c1, rfl, hO1, hb1⟩; have HI1 := Lib.hid hO1.ints; have HB1 := Lib.hid (HB0.out.drew.keep hb1); clear hO1 hb1)
      | ((with_reducible refine (list_any aL cL m L _ Hm.out Hm8.out (HL.out.keep (Nat.le_refl _) HB1.out.bel)).mono ?_); rintro e w2 ⟨a2, c2, rfl, hO2, hb2⟩; have HI2 := Lib.hid hO2.ints; have HI1' := Lib.hid (HI1.out.keep (Nat.le_refl _) hb2); have HB2 := Lib.hid (HB1.out.keep hb2); obtain ⟨_, _, q3, q4, q5, q6, q7⟩ := HB2.out.cells; clear hO2 hb2)))
  all_goals
    have J1 := Lib.hid (ints_set2 (a3 := a1) (n3 := min n 9) (c3 := c1) (a4 := a2) (n4 := min m 9) (c4 := c2) HI1'.out HB2.out.res)
    have J2 := Lib.hid (ints_set2 (a3 := a1) (n3 := min n 9) (c3 := c1) (a4 := a2) (n4 := min m 9) (c4 := c2) HI2.out HB2.out.res)
    have J3 := Lib.hid ((HB2.out.bel.setCell (p := ⟨w.heap.size + 1, 0, none⟩) (Nat.le_succ _) (.slice a1 (min n 9) c1)).setCell (p := ⟨w.heap.size + 1, 1, none⟩) (Nat.le_succ _) (.slice a2 (min m 9) c2))
    go_wp2
    exact bodyPost_ret (v := wkV a1 (min n 9) c1 a2 (min m 9) c2) (by simp [results, Try.results11, go_sem, q3, q4]) rfl ⟨a1, c1, a2, c2, rfl, J1.out, J2.out, J3.out⟩

end Go.Proofs.Ytkbbijhknbcflab
