import Derived.Test.YtkbbijhknbcflabH1
import Derived.Test.YtkbbijhknbcflabA5
import Derived.Test.YtkbbijhknbcflabR1
/-
  What the laws share: the box of their works, the cut text.
-/
namespace Go.Proofs.Ytkbbijhknbcflab
open Go.RowKit Go.Shelf

/-- The box of the law's works, and nothing that was there has turned. -/
structure RInv (aN : Option Addr) (n cN : Nat) (aM : Option Addr) (m cM : Nat) (w wr : World) : Prop where
  box : wr.heap[w.heap.size]? = some (.cells #[.slice aN n cN, .slice aM m cM] 24)
  bel : Below w.heap.size w wr
theorem RInv.start (aN : Option Addr) (n cN : Nat) (aM : Option Addr) (m cM : Nat) (w : World) : RInv aN n cN aM m cM w (w.alloc (.cells #[.slice aN n cN, .slice aM m cM] 24)) := ⟨heap_alloc_new w _, below_one _ _⟩
theorem RInv.keep {aN : Option Addr} {n cN : Nat} {aM : Option Addr} {m cM : Nat} {w wr wr' : World} (h : RInv aN n cN aM m cM w wr) (hb : Below wr.heap.size wr wr') : RInv aN n cN aM m cM w wr' :=
  ⟨by rw [hb.block _ (Array.getElem?_eq_some_iff.1 h.box).1]; exact h.box, band h.bel hb⟩
theorem RInv.cells {aN : Option Addr} {n cN : Nat} {aM : Option Addr} {m cM : Nat} {w wr : World} (h : RInv aN n cN aM m cM w wr) : wr.cell? ⟨w.heap.size, 0, none⟩ = some (.slice aN n cN) ∧ wr.cell? ⟨w.heap.size, 1, none⟩ = some (.slice aM m cM) := ⟨block_cell h.box 0, block_cell h.box 1⟩

theorem rvalid_r (r : Bool) (aN : Option Addr) (n cN : Nat) (aM : Option Addr) (m cM : Nat) (T L : Nat → Int) (w : World) (hr : isWk n m T L = r) (hn : n * 8 ≤ 140737488355328) (hm : m * 8 ≤ 140737488355328) (hT : Ints w aN n T) (hL : Ints w aM m L) :
    Calls Try.prog 12 #[wkV aN n cN aM m cM] w fun e w' => SomeB r w e w' := by
  subst hr; exact rvalid_any aN n cN aM m cM T L w hn hm hT hL

theorem isB_cut (l : List UInt8) : isB (l.take 50) ↔ isB l := by
  by_cases h : l.length ≤ 50
  · rw [List.take_of_length_le h]
  · constructor
    · intro h2
      have := h2.1
      rw [List.length_take] at this; omega
    · intro h2
      have := h2.1; omega
theorem st_take (l : List UInt8) (k : Nat) (_h : k ≤ l.length) : (st l).extract 0 k = st (l.take k) := by
  rw [st_of ((st l).extract 0 k), extract_data, st_data]
  simp

set_option maxHeartbeats 4000000 in
set_option maxRecDepth 100000 in
theorem text_any (l : List UInt8) (w : World) (hl : l.length ≤ 9223372036854775807) : Calls Try.prog 7 #[.string (st l)] w fun e w' => e = .returned (.string (st (l.take 50))) ∧ w' = w := by
  have hs : (st l).size = l.length := st_size l
  have hsz : (st l).size ≤ 9223372036854775807 := by omega
  by_cases h : l.length ≤ 50
  · have HT : Hid (st l = st (l.take 50)) := by rw [Hid, List.take_of_length_le h]
    have h1 : (st l).size ≤ 50 := by omega
    generalize st l = L at *
    have h2 : min (L.size : Int) 50 = (L.size : Int) := by omega
    clear hs hl h
    go_enter Try.func7, Try.ntmps7
    go_wp2
    go_ret
    exact ⟨by rw [← HT.out]; rfl, rfl⟩
  · have HT : Hid ((st l).extract 0 50 = st (l.take 50)) := st_take l 50 (by omega)
    have h1 : 50 < (st l).size := by omega
    generalize st l = L at *
    have h2 : min (L.size : Int) 50 = 50 := by omega
    clear hs hl h
    go_enter Try.func7, Try.ntmps7
    go_wp2
    go_ret
    exact ⟨by rw [← HT.out]; rfl, rfl⟩
end Go.Proofs.Ytkbbijhknbcflab
