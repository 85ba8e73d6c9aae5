import Derived.Test.YtcedhcpjnoppmaaF1
namespace Go.Proofs.Ytcedhcpjnoppmaa
open Go.RowKit Go.Maps

abbrev tlV (t l a : Int) : Value := .agg #[.int .i64 t, .int .i64 l, .int .i64 a]
abbrev tlC (t l a : Int) : Array Value := #[.int .i64 t, .int .i64 l, .int .i64 a]

theorem tl_cells {w : World} {b : Nat} {t l a : Int} {T : TypeId} (h : w.heap[b]? = some (.cells (tlC t l a) T)) :
    w.cell? ⟨b, 0, none⟩ = some (.int .i64 t) ∧ w.cell? ⟨b, 1, none⟩ = some (.int .i64 l) ∧ w.cell? ⟨b, 2, none⟩ = some (.int .i64 a) ∧ w.frozen? ⟨b, 0, none⟩ = false ∧ w.frozen? ⟨b, 1, none⟩ = false ∧ w.frozen? ⟨b, 2, none⟩ = false :=
  ⟨block_cell h 0, block_cell h 1, block_cell h 2, block_free h 0, block_free h 1, block_free h 2⟩

set_option maxHeartbeats 1000000 in
theorem tltimes_any (t l a n : Int) (w : World) (h1 : 0 ≤ t * n) (h2 : t * n ≤ 4611686018427387904) (h3 : 0 ≤ l * n) (h4 : l * n ≤ 4611686018427387904) (h5 : 0 ≤ a * n) (h6 : a * n ≤ 4611686018427387904) :
    Calls Try.prog 76 #[tlV t l a, .int .i64 n] w fun e w' => e = .returned (tlV (t * n) (l * n) (a * n)) ∧ Below w.heap.size w w' := by
  go_enter Try.func76, Try.ntmps76
  go_wp2
  exact bodyPost_ret (v := tlV (t * n) (l * n) (a * n)) (by simp [results, Try.results76, go_sem]) rfl ⟨rfl, below_two _ _ _⟩

/-- The plan, the Chance, the result's cell and the tally of a call of 'count'. -/
structure CnBase (aT : Option Addr) (nT cT : Nat) (aL : Option Addr) (nL cL : Nat) (Y O : Int) (w wr : World) (t l a : Int) : Prop where
  pl : wr.heap[w.heap.size]? = some (.cells #[.slice aT nT cT, .slice aL nL cL] 32)
  ch : wr.heap[w.heap.size + 1]? = some (.cells #[.int .i64 Y, .int .i64 O] 34)
  res : wr.heap[w.heap.size + 1 + 1]? = some (.cells (tlC 0 0 0) 81)
  tal : wr.heap[w.heap.size + 1 + 1 + 1]? = some (.cells (tlC t l a) 81)
  bel : Below w.heap.size w wr
  size : w.heap.size + 4 ≤ wr.heap.size

section
variable {aT : Option Addr} {nT cT : Nat} {aL : Option Addr} {nL cL : Nat} {Y O : Int} {w wr : World} {t l a : Int}

theorem CnBase.keep (h : CnBase aT nT cT aL nL cL Y O w wr t l a) {wr' : World} {B : Nat} (hB : w.heap.size + 4 ≤ B) (hb : Below B wr wr') : CnBase aT nT cT aL nL cL Y O w wr' t l a where
  pl := by rw [hb.block _ (by omega)]; exact h.pl
  ch := by rw [hb.block _ (by omega)]; exact h.ch
  res := by rw [hb.block _ (by omega)]; exact h.res
  tal := by rw [hb.block _ (by omega)]; exact h.tal
  bel := h.bel.trans (hb.mono (by omega))
  size := Nat.le_trans h.size hb.size

theorem CnBase.grown (h : CnBase aT nT cT aL nL cL Y O w wr t l a) {wr' : World} {row : Option Nat} (hg : wr.grownBy wr' row) (hr : ∀ k, row = some k → w.heap.size + 4 ≤ k) : CnBase aT nT cT aL nL cL Y O w wr' t l a :=
  h.keep (Nat.le_refl _) ((Below.refl _ _).grown hg h.size hr)

theorem CnBase.set0 (h : CnBase aT nT cT aL nL cL Y O w wr t l a) (x : Int) : CnBase aT nT cT aL nL cL Y O w (wr.setCell ⟨w.heap.size + 1 + 1 + 1, 0, none⟩ (.int .i64 x)) x l a where
  pl := by rw [heap_setCell_other _ _ _ _ (by simp <;> omega)]; exact h.pl
  ch := by rw [heap_setCell_other _ _ _ _ (by simp <;> omega)]; exact h.ch
  res := by rw [heap_setCell_other _ _ _ _ (by simp)]; exact h.res
  tal := by rw [heap_setCell_same _ _ 0 _ _ _ h.tal]; simp
  bel := h.bel.setCell (by simp; omega) _
  size := by have := h.size; simp [World.setCell]; exact this
theorem CnBase.set1 (h : CnBase aT nT cT aL nL cL Y O w wr t l a) (x : Int) : CnBase aT nT cT aL nL cL Y O w (wr.setCell ⟨w.heap.size + 1 + 1 + 1, 1, none⟩ (.int .i64 x)) t x a where
  pl := by rw [heap_setCell_other _ _ _ _ (by simp <;> omega)]; exact h.pl
  ch := by rw [heap_setCell_other _ _ _ _ (by simp <;> omega)]; exact h.ch
  res := by rw [heap_setCell_other _ _ _ _ (by simp)]; exact h.res
  tal := by rw [heap_setCell_same _ _ 1 _ _ _ h.tal]; simp
  bel := h.bel.setCell (by simp; omega) _
  size := by have := h.size; simp [World.setCell]; exact this
theorem CnBase.set2 (h : CnBase aT nT cT aL nL cL Y O w wr t l a) (x : Int) : CnBase aT nT cT aL nL cL Y O w (wr.setCell ⟨w.heap.size + 1 + 1 + 1, 2, none⟩ (.int .i64 x)) t l x where
  pl := by rw [heap_setCell_other _ _ _ _ (by simp <;> omega)]; exact h.pl
  ch := by rw [heap_setCell_other _ _ _ _ (by simp <;> omega)]; exact h.ch
  res := by rw [heap_setCell_other _ _ _ _ (by simp)]; exact h.res
  tal := by rw [heap_setCell_same _ _ 2 _ _ _ h.tal]; simp
  bel := h.bel.setCell (by simp; omega) _
  size := by have := h.size; simp [World.setCell]; exact this

/-- All its cells, for the walk. -/
theorem CnBase.cells (h : CnBase aT nT cT aL nL cL Y O w wr t l a) :
    wr.cell? ⟨w.heap.size, 0, none⟩ = some (.slice aT nT cT) ∧ wr.cell? ⟨w.heap.size, 1, none⟩ = some (.slice aL nL cL) ∧ wr.cell? ⟨w.heap.size + 1, 0, none⟩ = some (.int .i64 Y) ∧ wr.cell? ⟨w.heap.size + 1, 1, none⟩ = some (.int .i64 O) :=
  ⟨block_cell h.pl 0, block_cell h.pl 1, block_cell h.ch 0, block_cell h.ch 1⟩
end

end Go.Proofs.Ytcedhcpjnoppmaa
