import Derived.Test.YtmbccdjoliegiaaC3
import Derived.Deep.DeepCutAuto
namespace Go.Proofs.Ytmbccdjoliegiaa
open Go.RowKit

/-- The first pair for which X holds. -/
def IsX (m : Nat) (X : Nat → Nat → Bool) (p q : Nat) : Prop := p < q ∧ q < m ∧ X p q = true ∧ (∀ j, p < j → j < q → X p j = false) ∧ ∀ i j, i < p → i < j → j < m → X i j = false
def NoX (m : Nat) (X : Nat → Nat → Bool) : Prop := ∀ i j, i < j → j < m → X i j = false
theorem IsX.unique {m : Nat} {X : Nat → Nat → Bool} {p q p' q' : Nat} (h : IsX m X p q) (h' : IsX m X p' q') : p = p' ∧ q = q' := by
  obtain ⟨a1, a2, a3, a4, a5⟩ := h
  obtain ⟨b1, b2, b3, b4, b5⟩ := h'
  have hp : p = p' := by
    rcases Nat.lt_trichotomy p p' with hh | hh | hh
    · rw [b5 p q hh a1 a2] at a3; cases a3
    · exact hh
    · rw [a5 p' q' hh b1 b2] at b3; cases b3
  subst hp
  refine ⟨rfl, ?_⟩
  rcases Nat.lt_trichotomy q q' with hh | hh | hh
  · rw [b4 q a1 hh] at a3; cases a3
  · exact hh
  · rw [a4 q' b1 hh] at b3; cases b3
theorem IsX.not {m : Nat} {X : Nat → Nat → Bool} {p q : Nat} (h : IsX m X p q) : ¬ NoX m X := fun h' => by have := h' p q h.1 h.2.1; rw [h.2.2.1] at this; cases this

/-- What a search for the first pair tells. -/
def FindX (m : Nat) (X : Nat → Nat → Bool) (p q : Int) (r : Bool) : Prop := (r = true ∧ ∃ i j : Nat, p = i ∧ q = j ∧ IsX m X i j) ∨ (r = false ∧ p = 0 ∧ q = 0 ∧ NoX m X)
theorem FindX.unique {m : Nat} {X : Nat → Nat → Bool} {p q p' q' : Int} {r r' : Bool} (h : FindX m X p q r) (h' : FindX m X p' q' r') : p = p' ∧ q = q' ∧ r = r' := by
  rcases h with ⟨rfl, i, j, rfl, rfl, h⟩ | ⟨rfl, rfl, rfl, h⟩ <;> rcases h' with ⟨rfl, i', j', rfl, rfl, h'⟩ | ⟨rfl, rfl, rfl, h'⟩
  · obtain ⟨rfl, rfl⟩ := h.unique h'; exact ⟨rfl, rfl, rfl⟩
  · exact absurd h' h.not
  · exact absurd h h'.not
  · exact ⟨rfl, rfl, rfl⟩

def triAt (l : List Tri) (i : Nat) : Tri := l.getD i ⟨0, 0, 0⟩
theorem triAt_get {l : List Tri} {i : Nat} (h : i < l.length) : l[i]? = some (triAt l i) := by simp [triAt, h]
/-- Which creases of a list cross. -/
def crossAt (n : Nat) (z : Nat → Int) (l : List Tri) (i j : Nat) : Bool := crossB n z (triAt l i) (triAt l j)

/-- The boxes of 'crossing'. -/
structure XsAt (w wr : World) (nn : Int) (ca : Option Addr) (m cc : Nat) : Prop where
  bel : Below w.heap.size w wr
  b0 : wr.heap[w.heap.size]? = some (.cells #[.int .i64 nn, .slice ca m cc] 62)
  b1 : wr.heap[w.heap.size + 1]? = some (.cells #[.int .i64 0, .int .i64 0] 27)
theorem XsAt.keep {w wr w' : World} {nn : Int} {ca : Option Addr} {m cc : Nat} (h : XsAt w wr nn ca m cc) (hb : Below wr.heap.size wr w') : XsAt w w' nn ca m cc :=
  ⟨h.bel.trans (hb.mono h.bel.size), (hb.block _ (Array.getElem?_eq_some_iff.1 h.b0).1).trans h.b0, (hb.block _ (Array.getElem?_eq_some_iff.1 h.b1).1).trans h.b1⟩
theorem XsAt.drew {w wr : World} {nn : Int} {ca : Option Addr} {m cc : Nat} (h : XsAt w wr nn ca m cc) : XsAt w wr.drew nn ca m cc := ⟨h.bel.drew, h.b0, h.b1⟩
theorem XsAt.start (w : World) (nn : Int) (ca : Option Addr) (m cc : Nat) : XsAt w ((w.alloc (.cells #[.int .i64 nn, .slice ca m cc] 62)).alloc (.cells #[.int .i64 0, .int .i64 0] 27)) nn ca m cc :=
  ⟨((Below.refl _ w).alloc (Nat.le_refl _) _).alloc (by simp) _, heap_two1 _ _ _, heap_two2 _ _ _⟩
theorem XsAt.cells {w wr : World} {nn : Int} {ca : Option Addr} {m cc : Nat} (h : XsAt w wr nn ca m cc) :
    wr.cell? ⟨w.heap.size, 1, none⟩ = some (.slice ca m cc) ∧ wr.cell? ⟨w.heap.size + 1, 0, none⟩ = some (.int .i64 0) ∧ wr.cell? ⟨w.heap.size + 1, 1, none⟩ = some (.int .i64 0) ∧ wr.frozen? ⟨w.heap.size + 1, 0, none⟩ = false ∧ wr.frozen? ⟨w.heap.size + 1, 1, none⟩ = false :=
  ⟨block_cell h.b0 1, block_cell h.b1 0, block_cell h.b1 1, block_free h.b1 0, block_free h.b1 1⟩
theorem XsAt.size {w wr : World} {nn : Int} {ca : Option Addr} {m cc : Nat} (h : XsAt w wr nn ca m cc) : w.heap.size + 1 < wr.heap.size := (Array.getElem?_eq_some_iff.1 h.b1).1

/-- The box of the crease at hand. -/
def CBox (wr : World) (b : Nat) (c : Tri) : Prop := wr.heap[b]? = some (.cells #[.int .i64 c.p, .int .i64 c.q, .int .i64 c.r] 84)
theorem CBox.keep {wr w' : World} {b : Nat} {c : Tri} (h : CBox wr b c) (hb : Below wr.heap.size wr w') : CBox w' b c := (hb.block _ (Array.getElem?_eq_some_iff.1 h).1).trans h
theorem CBox.cells {wr : World} {b : Nat} {c : Tri} (h : CBox wr b c) : wr.cell? ⟨b, 0, none⟩ = some (.int .i64 c.p) ∧ wr.cell? ⟨b, 1, none⟩ = some (.int .i64 c.q) ∧ wr.cell? ⟨b, 2, none⟩ = some (.int .i64 c.r) :=
  ⟨block_cell h 0, block_cell h 1, block_cell h 2⟩

set_option maxHeartbeats 4000000 in
set_option maxRecDepth 100000 in
theorem crossing_any (nn : Int) (ca : Option Addr) (m cc : Nat) (l : List Tri) (a : Option Addr) (cap n : Nat) (z : Nat → Int) (w : World) (hs : n ≤ 140737488351232) (hm : m ≤ 1000) (hl : l.length = m) (ht : TriAt w ca l) (hc : Ints w a n z) :
    Calls Try.prog 51 #[.agg #[.int .i64 nn, .slice ca m cc], .slice a n cap] w fun e w' => ∃ p q r, e = .returned (.tuple #[.agg #[.int .i64 p, .int .i64 q], .bool r]) ∧ FindX m (crossAt n z l) p q r ∧ Below w.heap.size w w' := by
  have HC := Lib.hid hc
  have HT := Lib.hid ht
  have HL := Lib.hid hl
  have HX : Hid (∀ W', Below w.heap.size w W' → ∀ c d : Tri, Calls Try.prog 70 #[.agg #[.int .i64 c.p, .int .i64 c.q, .int .i64 c.r], .agg #[.int .i64 d.p, .int .i64 d.q, .int .i64 d.r], .slice a n cap] W' fun e w' => e = .returned (.bool (crossB n z c d)) ∧ Below W'.heap.size W' w') :=
    fun W' hW c d => crosses_any c d a cap n z W' hs (HC.out.keep (Nat.le_refl _) hW)
  clear hc ht hl
  go_enter Try.func51, Try.ntmps51
  have HH0 := Lib.hid (XsAt.start w nn ca m cc)
  go_wp2
  go_loopw [12] (fun i wr => ∃ k : Nat, k ≤ m ∧ i = .int .i64 k ∧ XsAt w wr nn ca m cc ∧ Hid (∀ i j, i < k → i < j → j < m → crossAt n z l i j = false)) (fun i _ => m - (intOf i).toNat)
  case atStart => exact ⟨0, Nat.zero_le _, rfl, HH0.out, fun i j hi => absurd hi (Nat.not_lt_zero _)⟩
  case round =>
    obtain ⟨k, hk, rfl, hX, hr⟩ := hrel
    obtain ⟨wo, hwo⟩ : ∃ wo : World, wo = wr := ⟨_, rfl⟩
    subst hwo
    obtain ⟨q1, q2, q3, q4, q5⟩ := hX.cells
    have HX1 := Lib.hid hX
    clear hX HH0
    by_cases hlt : k < m
    · obtain ⟨b, rfl, t0, t1, t2⟩ := (HT.out.keep (Nat.le_refl _) HX1.out.bel) k (triAt l k) (triAt_get (by rw [HL.out]; exact hlt))
      have hX2 : XsAt w (wo.alloc (.cells #[.int .i64 (triAt l k).p, .int .i64 (triAt l k).q, .int .i64 (triAt l k).r] 84)) nn (some ⟨b, 0, none⟩) m cc := HX1.out.keep ((Below.refl _ _).alloc (Nat.le_refl _) _)
      have hC2 : CBox (wo.alloc (.cells #[.int .i64 (triAt l k).p, .int .i64 (triAt l k).q, .int .i64 (triAt l k).r] 84)) wo.heap.size (triAt l k) := heap_alloc_new _ _
      have HX2 := Lib.hid hX2
      have HC2 := Lib.hid hC2
      clear hX2 hC2
      go_wp2
      clear q1 q2 q3 q4 q5 t0 t1 t2
      go_loopw [8] (fun j wx => ∃ k2 : Nat, k < k2 ∧ k2 ≤ m ∧ j = .int .i64 k2 ∧ XsAt w wx nn (some ⟨b, 0, none⟩) m cc ∧ CBox wx wo.heap.size (triAt l k) ∧ Hid (∀ j, k < j → j < k2 → crossAt n z l k j = false)) (fun j _ => m - (intOf j).toNat)
      case atStart => exact ⟨k + 1, by omega, by omega, by go_num, HX2.out, HC2.out, fun j h1 h2 => absurd h1 (by omega)⟩
      case round =>
        obtain ⟨k2, hk1, hk2, rfl, hX, hC, hr2⟩ := hrel
        have HX3 := Lib.hid hX
        have HC3 := Lib.hid hC
        clear HX2 HC2
        obtain ⟨q1, q2, q3, q4, q5⟩ := hX.cells
        obtain ⟨d0, d1, d2⟩ := hC.cells
        clear hX hC
        by_cases hlt2 : k2 < m
        · obtain ⟨b', he, t0, t1, t2⟩ := (HT.out.keep (Nat.le_refl _) HX3.out.bel) k2 (triAt l k2) (triAt_get (by rw [HL.out]; exact hlt2))
          cases he
          have HXX : Hid (∀ W', XsAt w W' nn (some ⟨b, 0, none⟩) m cc → CBox W' wo.heap.size (triAt l k) → Calls Try.prog 70 #[.agg #[.int .i64 (triAt l k).p, .int .i64 (triAt l k).q, .int .i64 (triAt l k).r], .agg #[.int .i64 (triAt l k2).p, .int .i64 (triAt l k2).q, .int .i64 (triAt l k2).r], .slice a n cap] W' fun e w' => e = .returned (.bool (crossAt n z l k k2)) ∧ XsAt w w' nn (some ⟨b, 0, none⟩) m cc ∧ CBox w' wo.heap.size (triAt l k)) :=
            fun W' h1 h2 => (HX.out W' h1.bel _ _).mono fun e w' h => ⟨h.1, h1.keep h.2, h2.keep h.2⟩
          have HXd : Hid (XsAt w wr.drew nn (some ⟨b, 0, none⟩) m cc) := HX3.out.drew
          have HTE : Hid (∀ W', XsAt w W' nn (some ⟨b, 0, none⟩) m cc → W'.cell? ⟨b, k2 * 3, none⟩ = some (.int .i64 (triAt l k2).p) ∧ W'.cell? ⟨b, k2 * 3 + 1, none⟩ = some (.int .i64 (triAt l k2).q) ∧ W'.cell? ⟨b, k2 * 3 + 2, none⟩ = some (.int .i64 (triAt l k2).r)) := fun W' h1 => by
            obtain ⟨b', he, t0, t1, t2⟩ := (HT.out.keep (Nat.le_refl _) h1.bel) k2 (triAt l k2) (triAt_get (by rw [HL.out]; exact hlt2))
            cases he
            exact ⟨t0, t1, t2⟩
          have HCd : Hid (CBox wr.drew wo.heap.size (triAt l k)) := HC3.out
          have hk2m : (k2 : Int) < m := by omega
          go_wp2
          go_region_held3 (fun w' => w'.cell? ⟨wo.heap.size, 0, none⟩ = some (.int .i64 (triAt l k).p) ∧ w'.cell? ⟨wo.heap.size, 1, none⟩ = some (.int .i64 (triAt l k).q) ∧ w'.cell? ⟨wo.heap.size, 2, none⟩ = some (.int .i64 (triAt l k).r) ∧
              w'.cell? ⟨w.heap.size, 1, none⟩ = some (.slice (some ⟨b, 0, none⟩) m cc) ∧
              w'.cell? ⟨b, k2 * 3, none⟩ = some (.int .i64 (triAt l k2).p) ∧ w'.cell? ⟨b, k2 * 3 + 1, none⟩ = some (.int .i64 (triAt l k2).q) ∧ w'.cell? ⟨b, k2 * 3 + 2, none⟩ = some (.int .i64 (triAt l k2).r))
            (first
              | (go_split_ands; exact ⟨HC4.out.cells.1, HC4.out.cells.2.1, HC4.out.cells.2.2, HX4.out.cells.1, HTE.out _ HX4.out⟩)
              | (go_split_ands; exact ⟨HC3.out.cells.1, HC3.out.cells.2.1, HC3.out.cells.2.2, HXd.out.cells.1, HTE.out _ HXd.out⟩)
              | (go_split_ands; exact ⟨HC3.out.cells.1, HC3.out.cells.2.1, HC3.out.cells.2.2, HX3.out.cells.1, HTE.out _ HX3.out⟩)
              | go_keep)
            ((first
              | ((with_reducible refine (HXX.out _ HXd.out HCd.out).mono ?_); rintro e w4 ⟨rfl, h4, h5⟩; have HX4 := Lib.hid h4; have HC4 := Lib.hid h5; clear h4 h5)))
          all_goals
            clear q1 q2 q3 q4 q5
            obtain ⟨q1, q2, q3, q4, q5⟩ := HX4.out.cells
            cases hx : crossAt n z l k k2
            · have hr3 : Hid (∀ j, k < j → j < k2 + 1 → crossAt n z l k j = false) := by
                intro j h1 h2
                by_cases e : j = k2
                · rw [e]; exact hx
                · exact hr2.out j h1 (by omega)
              go_wp2
              go_roundw
              case rel => exact ⟨k2 + 1, by omega, by omega, by go_num, HX4.out, HC4.out, hr3.out⟩
              case measure => simp [intOf]; omega
            · have hN : Hid (FindX m (crossAt n z l) k k2 true) := Or.inl ⟨rfl, k, k2, rfl, rfl, hk1, hlt2, hx, hr2.out, hr.out⟩
              have HF : Hid (Below w.heap.size w ((w4.setCell ⟨w.heap.size + 1, 0, none⟩ (.int .i64 k)).setCell ⟨w.heap.size + 1, 1, none⟩ (.int .i64 k2))) := (HX4.out.bel.setCell (Nat.le_succ _) _).setCell (Nat.le_succ _) _
              go_wp2
              exact bodyPost_ret (v := .tuple #[.agg #[.int .i64 k, .int .i64 k2], .bool true]) (by simp [results, Try.results51, go_sem, q2, q3]) rfl ⟨k, k2, true, rfl, hN.out, HF.out⟩
        · have e : k2 = m := by omega
          have E := Lib.hid e
          clear e
          have hge : (m : Int) ≤ k2 := by omega
          have hr3 : Hid (∀ i j, i < k + 1 → i < j → j < m → crossAt n z l i j = false) := by
            intro i j h1 h2 h3
            by_cases e : i = k
            · rw [e] at h2 ⊢; exact hr2.out j h2 (by have := E.out; omega)
            · exact hr.out i j (by omega) h2 h3
          go_wp2
          go_roundw
          case rel => exact ⟨k + 1, by omega, by go_num, HX3.out, hr3.out⟩
          case measure => simp [intOf]; omega
    · have e : k = m := by omega
      have E := Lib.hid e
      clear e
      have hge : (m : Int) ≤ k := by omega
      have hN : Hid (FindX m (crossAt n z l) 0 0 false) := Or.inr ⟨rfl, rfl, rfl, fun i j h1 h2 => hr.out i j (by have := E.out; omega) h1 h2⟩
      have hs1 := HX1.out.size
      have HF : Hid (Below w.heap.size w ((wo.setCell ⟨w.heap.size + 1, 0, none⟩ (.int .i64 0)).setCell ⟨w.heap.size + 1, 1, none⟩ (.int .i64 0))) := (HX1.out.bel.setCell (Nat.le_succ _) _).setCell (Nat.le_succ _) _
      go_wp2
      exact bodyPost_ret (v := .tuple #[.agg #[.int .i64 0, .int .i64 0], .bool false]) (by simp [results, Try.results51, go_sem, q2, q3]) rfl ⟨0, 0, false, rfl, hN.out, HF.out⟩

end Go.Proofs.Ytmbccdjoliegiaa
