import Derived.Test.YtaglbnblfhfkeaaE1
import Derived.Test.YtaglbnblfhfkeaaE2
import Derived.Test.YtaglbnblfhfkeaaLay
import Derived.Test.YtaglbnblfhfkeaaE0
namespace Go.Proofs.Ytaglbnblfhfkeaa
open Go.RowKit

theorem cmpLaysV (blk off size : Nat) (w : World) : CmpLays Try.prog 95 #[] vcell 4 cmpV blk off size w :=
  fun _ _ _ _ x y => vcompare_any x y _

def SortedTo (w : World) (base : Nat) (val : Value) (l : List Vec) (e : Ending) (w' : World) : Prop :=
  ∃ l', l'.Perm l ∧ l'.Pairwise ltV ∧ OwnV w' base val l' ∧ e = .returned (.tuple #[]) ∧ ∃ row, w.grownBy w' row ∧ ∀ k, row = some k → base ≤ k

set_option maxHeartbeats 1000000 in
theorem sortV_any (val : Value) (l : List Vec) (base : Nat) (w : World) (h : OwnV w base val l) (hn : l.Nodup) (hl : l.length ≤ 20000000) :
    Calls Try.prog 94 #[val, .func (.func 95) #[] #[]] w fun e w' => SortedTo w base val l e w' := by
  rcases h.2 with ⟨rfl, h0⟩ | ⟨g, cap, cur, rfl, hb, hg, h1, h2, h3, h4⟩
  · have e : l = [] := List.length_eq_zero_iff.1 h0
    subst e
    have hc := sortV_none none 0 (.func (.func 95) #[] #[]) w
    exact hc.mono fun e w' ⟨he, hw⟩ => ⟨[], List.Perm.refl _, List.Pairwise.nil, by rw [← hw]; exact h, he, none, by rw [← hw]; exact ⟨rfl, rfl, rfl, Nat.le_refl _, fun _ _ _ => rfl⟩, fun _ h => by cases h⟩
  · have hlt : g < w.heap.size := (Array.getElem?_eq_some_iff.1 hg).1
    have eg : ∀ args w, (callFunc 95 args).run Try.prog w = .ok (.enter 95 args) w := enters_of Try.func95 (by kernel_rfl) rfl
    have hc := AnyQ.slices_SortFunc layV 4 Try.isAgg61 Try.sizeOf61 vcell vcell_len (fun x => four_ok x) cmpV swo_cmpV 95 #[] g 0 cap l.toArray w eg (cmpLaysV g 0 l.toArray.size w) h.holds hlt (by simp; omega)
    change Calls Try.prog 94 #[.slice (some ⟨g, 0, none⟩) l.length cap, .func (.func 95) #[] #[]] _ _ at hc
    refine hc.mono fun e w' ⟨he, d', n, os, hp, hs, hw⟩ => ?_
    obtain ⟨k1, k2⟩ := sorted_list hp hs (by simpa using hn)
    have hsz : d'.size = l.length := by simpa using hp.1
    obtain ⟨k3, k4⟩ := OwnV.sorted h d' hsz n os
    have hlen : d'.toList.length = l.length := by simpa using hsz
    refine ⟨d'.toList, by simpa using k1, k2, ?_, he, some g, by rw [hw]; exact k4, fun k hk => by cases hk; exact hb⟩
    rw [hw]; exact k3

/-! ### The search -/

def apart (v v' : Value) : Prop := v.ownBlock = none ∨ v.ownBlock ≠ v'.ownBlock
theorem apart.symm {v v' : Value} (h : apart v v') : apart v' v := by
  unfold apart at *
  rcases h with h | h
  · by_cases h' : v'.ownBlock = none
    · exact Or.inl h'
    · right; rw [h]; exact h'
  · exact Or.inr (Ne.symm h)
theorem apart_new {w w' : World} {base base' : Nat} {v v' : Value} {l l' : List Vec} (h : OwnV w base v l) (h' : OwnV w' base' v' l') (hb : w.heap.size ≤ base') : apart v v' := by
  unfold apart
  cases e : v.ownBlock with
  | none => exact Or.inl rfl
  | some k =>
    right
    intro e'
    have g1 := (World.ownsRow.lt h k e).2
    have g2 := (World.ownsRow.lt h' k e'.symm).1
    omega

/-- Three rows of vectors and the matrix. -/
structure Row3 (w wr : World) (m : Mx) (vE vF vO : Value) (E F O : List Vec) : Prop where
  mm : wr.heap[w.heap.size]? = some (.cells #[.int .i64 (m).r0.a, .int .i64 (m).r0.b, .int .i64 (m).r0.c, .int .i64 (m).r0.d, .int .i64 (m).r1.a, .int .i64 (m).r1.b, .int .i64 (m).r1.c, .int .i64 (m).r1.d, .int .i64 ((m).n : Int)] 64)
  e : OwnV wr (w.heap.size + 1) vE E
  f : OwnV wr (w.heap.size + 1) vF F
  o : OwnV wr (w.heap.size + 1) vO O
  ef : apart vE vF
  eo : apart vE vO
  fo : apart vF vO
  below : Below w.heap.size w wr

theorem Row3.lt {w wr : World} {m : Mx} {vE vF vO : Value} {E F O : List Vec} (h : Row3 w wr m vE vF vO E F O) : w.heap.size < wr.heap.size := (Array.getElem?_eq_some_iff.1 h.mm).1
theorem Row3.keep {w wr w' : World} {m : Mx} {vE vF vO : Value} {E F O : List Vec} (h : Row3 w wr m vE vF vO E F O) (hb : Below wr.heap.size wr w') : Row3 w w' m vE vF vO E F O :=
  ⟨(hb.block _ h.lt).trans h.mm, h.e.keep hb, h.f.keep hb, h.o.keep hb, h.ef, h.eo, h.fo, h.below.trans (hb.mono h.below.size)⟩
theorem Row3.swap {w wr : World} {m : Mx} {vE vF vO : Value} {E F O : List Vec} (h : Row3 w wr m vE vF vO E F O) : Row3 w wr m vE vO vF E O F :=
  ⟨h.mm, h.e, h.o, h.f, h.eo, h.ef, h.fo.symm, h.below⟩

theorem kept_apart {w w' : World} {base : Nat} {v u : Value} {l : List Vec} (h : OwnV w base v l) (hg : w.grownBy w' u.ownBlock) (ha : apart v u) : OwnV w' base v l := World.ownsRow.kept h hg ha
theorem apart_where {w : World} {base : Nat} {v u u' : Value} {l : List Vec} (h : OwnV w base v l) (ha : apart v u) {s : Nat} (hs : w.heap.size ≤ s) (hw : u'.ownBlock = u.ownBlock ∨ ∃ k, u'.ownBlock = some k ∧ s ≤ k) : apart v u' := by
  unfold apart at *
  rcases hw with e | ⟨k, e, hk⟩
  · rw [e]; exact ha
  · cases e' : v.ownBlock with
    | none => exact Or.inl rfl
    | some q =>
      right
      intro e2
      rw [e] at e2
      cases e2
      have := (World.ownsRow.lt h k e').2
      omega

theorem Row3.addF {w wr w' : World} {m : Mx} {vE vF vF' vO : Value} {E F O : List Vec} {x : Vec} (h : Row3 w wr m vE vF vO E F O) (ob : Obj) (hown : OwnV w' (w.heap.size + 1) vF' (F ++ [x])) (hg : (wr.alloc ob).grownBy w' vF.ownBlock)
    (hw : vF'.ownBlock = vF.ownBlock ∨ ∃ k, vF'.ownBlock = some k ∧ wr.heap.size + 1 ≤ k) : Row3 w w' m vE vF' vO E (F ++ [x]) O := by
  have ha := h.keep ((Below.refl _ wr).alloc (Nat.le_refl _) ob)
  have hlt : ∀ k, vF.ownBlock = some k → w.heap.size + 1 ≤ k := fun k hk => (World.ownsRow.lt h.f k hk).1
  have hsz := h.lt
  refine ⟨?_, kept_apart ha.e hg ha.ef, hown, kept_apart ha.o hg ha.fo.symm, apart_where ha.e ha.ef (by simp) hw, h.eo, (apart_where ha.o ha.fo.symm (by simp) hw).symm, ?_⟩
  · rw [hg.block _ (by simp; omega) (fun e => by have := hlt _ e.symm; omega)]; exact ha.mm
  · exact ha.below.grown hg (by simp; omega) (fun k hk => by have := hlt k hk; omega)
theorem Row3.addO {w wr w' : World} {m : Mx} {vE vF vO vO' : Value} {E F O : List Vec} {x : Vec} (h : Row3 w wr m vE vF vO E F O) (ob : Obj) (hown : OwnV w' (w.heap.size + 1) vO' (O ++ [x])) (hg : (wr.alloc ob).grownBy w' vO.ownBlock)
    (hw : vO'.ownBlock = vO.ownBlock ∨ ∃ k, vO'.ownBlock = some k ∧ wr.heap.size + 1 ≤ k) : Row3 w w' m vE vF vO' E F (O ++ [x]) :=
  (h.swap.addF ob hown hg hw).swap
end Go.Proofs.Ytaglbnblfhfkeaa
