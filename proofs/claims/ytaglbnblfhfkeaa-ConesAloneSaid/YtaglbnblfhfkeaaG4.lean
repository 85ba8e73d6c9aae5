import Derived.Test.YtaglbnblfhfkeaaG3
import Derived.Test.YtaglbnblfhfkeaaF3
import Derived.Test.YtaglbnblfhfkeaaMath4
namespace Go.Proofs.Ytaglbnblfhfkeaa
open Go.RowKit

/-- What Split gives CheckSplit accepts. -/
theorem vecN_id {v : Vec} {n : Nat} (h1 : 1 ≤ n) (hc : inCols n v) : vecN v.at' n = v := by
  simp only [inCols] at hc
  have h : ∀ j, j < 4 → padN v.at' n j = v.at' j := fun j hj => by
    unfold padN
    by_cases h : j < n
    · simp [h]
    · have e : j = 1 ∨ j = 2 ∨ j = 3 := by omega
      simp only [h, if_false]
      rcases e with rfl | rfl | rfl
      · exact (hc.1 (by omega)).symm
      · exact (hc.2.1 (by omega)).symm
      · exact (hc.2.2 (by omega)).symm
  exact Vec.ext_iff'.2 ⟨h 0 (by omega), h 1 (by omega), h 2 (by omega), h 3 (by omega)⟩

theorem allIn_near {v : Vec} {n : Nat} {B : Int} (hn : n ≤ 4) (h : near B v) : allIn v.at' n (-B) B = true := allIn_iff.2 fun j hj => at_near h j (by omega)

theorem near_29 {v : Vec} (h : Vec.norm v ≤ 29) : near 100 v := by simp only [Vec.norm, near] at *; omega

theorem runTo_split {m : Mx} (hm : m.ok) {F l : List Vec} {x : Vec} {L : Nat → Nat} {Z : Nat → Nat → Int} (hA : AllBasic m F) (hs : SplitOf F x l) (hL : ∀ j, j < l.length → L j = m.n) (hZ : ∀ j, j < l.length → Z j = (l.getD j Vec.zero).at') :
    ∀ k, k ≤ l.length → runTo F m.n L Z x k = some (sumV (l.drop k)) := by
  intro k
  induction k with
  | zero => intro _; rw [List.drop_zero, hs.sum]; rfl
  | succ k ih =>
    intro hk
    have hlt : k < l.length := by omega
    have hy : l[k]? = some (l.getD k Vec.zero) := by rw [List.getD_eq_getElem?_getD, List.getElem?_eq_getElem hlt]; rfl
    have hmem := getD_mem (F := l) hlt
    have hin := (hs.mem _ hmem).1
    have hB := (hA.mem _).1 hin
    have hv : vecN (Z k) m.n = l.getD k Vec.zero := by rw [hZ k hlt]; exact vecN_id hm.n1 hB.cols
    have hd := drop_cons hy
    have hf : Vec.fits (l.getD k Vec.zero) (sumV (l.drop k)) := by
      rw [hd]; exact fits_add (hs.mem _ hmem).2 (side_sum _ fun z hz => (hs.mem z (List.mem_of_mem_drop hz)).2)
    have := runTo_step (ih (by omega)) (okRow_iff.2 ⟨hL k hlt, by rw [hZ k hlt]; exact allIn_near hm.n4 (near_29 (basic_norm hm hB))⟩) (by rw [hv]; exact hin) (by rw [hv]; exact hf)
    rw [this, hv, hd]
    show some (Vec.sub (add _ (sumV (l.drop (k + 1)))) _) = _
    rw [sub_add]

theorem chk_split {m : Mx} (hm : m.ok) {F l : List Vec} {x : Vec} {L : Nat → Nat} {Z : Nat → Nat → Int} (hA : AllBasic m F) (hs : SplitOf F x l) (hL : ∀ j, j < l.length → L j = m.n) (hZ : ∀ j, j < l.length → Z j = (l.getD j Vec.zero).at') :
    chkB F m.n L Z x l.length = true := by
  simp only [chkB, decide_eq_true_eq]
  rw [runTo_split hm hA hs hL hZ l.length (Nat.le_refl _), List.drop_length]; rfl

/-- The numbers of a made row. -/
def SumAt (w : World) (B n : Nat) (s : Nat → Int) : Prop := ∃ cs, w.heap[B]? = some (.cells cs 3) ∧ cs.size = n ∧ ∀ j, j < n → cs[j]? = some (.int .i64 (s j))
theorem SumAt.keep {w w' : World} {B n : Nat} {s : Nat → Int} (h : SumAt w B n s) {b : Nat} (hB : B < b) (hb : Below b w w') : SumAt w' B n s := by
  obtain ⟨cs, h1, h2⟩ := h
  exact ⟨cs, (hb.block _ hB).trans h1, h2⟩
theorem SumAt.lt {w : World} {B n : Nat} {s : Nat → Int} (h : SumAt w B n s) : B < w.heap.size := by
  obtain ⟨cs, h1, _⟩ := h
  exact (Array.getElem?_eq_some_iff.1 h1).1
theorem SumAt.congr {w : World} {B n : Nat} {s t : Nat → Int} (h : SumAt w B n s) (e : ∀ j, j < n → s j = t j) : SumAt w B n t := by
  obtain ⟨cs, h1, h2, h3⟩ := h
  exact ⟨cs, h1, h2, fun j hj => by rw [h3 j hj, e j hj]⟩
theorem SumAt.ints {w : World} {B n : Nat} {s : Nat → Int} (h : SumAt w B n s) : Ints w (some ⟨B, 0, none⟩) n s := by
  obtain ⟨cs, h1, h2, h3⟩ := h
  exact fun j hj => ⟨B, 0, rfl, by rw [Nat.zero_add, block_cell h1]; exact h3 j hj⟩
theorem SumAt.cell {w : World} {B n j : Nat} {s : Nat → Int} (h : SumAt w B n s) (hj : j < n) : w.cell? ⟨B, j, none⟩ = some (.int .i64 (s j)) ∧ w.frozen? ⟨B, j, none⟩ = false := by
  obtain ⟨cs, h1, h2, h3⟩ := h
  exact ⟨by rw [block_cell h1]; exact h3 j hj, block_free h1 _⟩
theorem SumAt.set {w : World} {B n j : Nat} {s : Nat → Int} {v : Int} (h : SumAt w B n s) (hj : j < n) : SumAt (w.setCell ⟨B, j, none⟩ (.int .i64 v)) B n (fun i => if i = j then v else s i) := by
  obtain ⟨cs, h1, h2, h3⟩ := h
  refine ⟨cs.setIfInBounds j (.int .i64 v), heap_setCell_same _ _ j _ _ _ h1, by simpa using h2, fun i hi => ?_⟩
  by_cases e : i = j
  · subst e; simp [h2, hj]
  · simp only [e, if_false]
    rw [Array.getElem?_setIfInBounds, if_neg (fun h => e h.symm)]
    exact h3 i hi

theorem dot_vecN {f z : Nat → Int} {n : Nat} (hn : n ≤ 4) : Vec.dot (vecOf (padN f n)) (vecN z n) = dotN f z n := by
  rw [← dotN_pad hn]; simp [Vec.dot, vecOf, vecN, dotN]

/-- The products are 0 just if it is a move. -/
theorem prods_move {R : Nat} {L : Nat → Nat} {Z : Nat → Nat → Int} {x : Nat → Int} {n : Nat} (hV : isMat R L Z = true) (hn : n = L 0) : someP R (fun j => dotN (Z j) x n != 0) = !isMoveB (mxOf R L Z) (vecN x n) := by
  have h1 := isMat_iff.1 hV
  have h0 := h1.2.2 0 (by omega)
  have hrow : ∀ j, j < R → Vec.dot (vecOf (rowN R L Z j)) (vecN x n) = dotN (Z j) x n := fun j hj => by
    have := h1.2.2 j hj
    unfold rowN
    simp only [hj, if_true]
    rw [show L j = n by omega]
    exact dot_vecN (by omega)
  have hz : ∀ v : Vec, Vec.dot (vecOf fun _ => 0) v = 0 := fun v => by simp [Vec.dot, vecOf]
  have hmv : isMoveB (mxOf R L Z) (vecN x n) = true ↔ ∀ j, j < R → dotN (Z j) x n = 0 := by
    rw [isMoveB_iff]
    have e : R = 1 ∨ R = 2 := by omega
    rcases e with rfl | rfl
    · constructor
      · rintro ⟨g0, _⟩ j hj
        have : j = 0 := by omega
        subst this
        rw [← hrow 0 (by omega)]; exact g0
      · intro h
        refine ⟨(hrow 0 (by omega)).trans (h 0 (by omega)), ?_⟩
        show Vec.dot (vecOf (rowN 1 L Z 1)) _ = 0
        rw [show rowN 1 L Z 1 = fun _ => 0 by simp [rowN]]
        exact hz _
    · constructor
      · rintro ⟨g0, g1⟩ j hj
        have : j = 0 ∨ j = 1 := by omega
        rcases this with rfl | rfl
        · rw [← hrow 0 (by omega)]; exact g0
        · rw [← hrow 1 (by omega)]; exact g1
      · intro h
        exact ⟨(hrow 0 (by omega)).trans (h 0 (by omega)), (hrow 1 (by omega)).trans (h 1 (by omega))⟩
  cases hb : isMoveB (mxOf R L Z) (vecN x n)
  · have hno : ¬ ∀ j, j < R → dotN (Z j) x n = 0 := fun h => by rw [hmv.2 h] at hb; cases hb
    refine someP_iff.2 (Classical.byContradiction fun h => hno fun j hj => Classical.byContradiction fun h2 => h ⟨j, hj, by simpa using h2⟩)
  · exact someP_no fun j hj => by simp [hmv.1 hb j hj]
end Go.Proofs.Ytaglbnblfhfkeaa
