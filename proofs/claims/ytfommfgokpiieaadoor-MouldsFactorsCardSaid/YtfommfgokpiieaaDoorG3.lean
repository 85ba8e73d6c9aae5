import Derived.Test.YtfommfgokpiieaaDoorG2
import Derived.Test.YtfommfgokpiieaaDoorI2
namespace Go.Proofs.YtfommfgokpiieaaDoor
open Go.RowKit Go.Shelf

attribute [local go_sem] Oper.semAt_some

theorem ownFrom_obj {β : Type} {B b : Nat} {T : TypeId} (f : β → Array Value) : OwnFrom B (fun s W => W.heap[b]? = some (.cells (f s) T)) := by
  intro s W W' row hs hg hr
  refine (hg.block b (Array.getElem?_eq_some_iff.1 hs).1 (fun e => ?_)).trans hs
  obtain ⟨_, o, ho, hn⟩ := hr b e.symm
  rw [hs] at ho
  cases ho
  cases hn
theorem obj_put {W : World} {b D : Nat} {o : Obj} {o' o2 : Obj} (h : W.heap[b]? = some o) (_hD : W.heap[D]? = some o2) (hn : b ≠ D) : (W.putObj D o').heap[b]? = some o := (World.putObj_heap_other hn).trans h

theorem factorings_any (s : ByteArray) (w : World) :
    Calls Tryd.prog 43 #[.string s] w fun e w' => e = .returned (.func (.func 59) #[] #[.pointer (some ⟨w.heap.size, 0, none⟩)]) ∧ w' = w.alloc (.cells #[.string s] 46) := by
  go_enter Tryd.func43, Tryd.ntmps43
  go_wp2
  go_ret
  exact ⟨rfl, rfl⟩

theorem store4 {W : World} {b : Nat} {T : TypeId} {u0 u1 u2 u3 : Value} (h : W.heap[b]? = some (.cells #[u0, u1, u2, u3] T)) (v0 v1 v2 v3 : Value) :
    ((((W.setCell ⟨b, 0, none⟩ v0).setCell ⟨b, 1, none⟩ v1).setCell ⟨b, 2, none⟩ v2).setCell ⟨b, 3, none⟩ v3).heap[b]? = some (.cells #[v0, v1, v2, v3] T) := by
  have h1 := heap_setCell_same W b 0 _ _ v0 h
  have h2 := heap_setCell_same _ b 1 _ _ v1 h1
  have h3 := heap_setCell_same _ b 2 _ _ v2 h2
  have h4 := heap_setCell_same _ b 3 _ _ v3 h3
  exact h4
theorem store1 {W : World} {b : Nat} {T : TypeId} {u0 : Value} (h : W.heap[b]? = some (.cells #[u0] T)) (v0 : Value) :
    (W.setCell ⟨b, 0, none⟩ v0).heap[b]? = some (.cells #[v0] T) := heap_setCell_same W b 0 _ _ v0 h
theorem far4 {W : World} {b b' : Nat} {o : Obj} (h : W.heap[b']? = some o) (hn : b' ≠ b) (v0 v1 v2 v3 : Value) :
    ((((W.setCell ⟨b, 0, none⟩ v0).setCell ⟨b, 1, none⟩ v1).setCell ⟨b, 2, none⟩ v2).setCell ⟨b, 3, none⟩ v3).heap[b']? = some o := by
  rw [Below.heap_setCell _ _ _ _ hn, Below.heap_setCell _ _ _ _ hn, Below.heap_setCell _ _ _ _ hn, Below.heap_setCell _ _ _ _ hn]; exact h
theorem far1 {W : World} {b b' : Nat} {o : Obj} (h : W.heap[b']? = some o) (hn : b' ≠ b) (v0 : Value) : (W.setCell ⟨b, 0, none⟩ v0).heap[b']? = some o := by
  rw [Below.heap_setCell _ _ _ _ hn]; exact h

theorem below_put {D : Nat} {w V : World} {o : Obj} (hb : Below w.heap.size w V) (hD : w.heap.size ≤ D) : Below w.heap.size w (V.putObj D o) :=
  ⟨hb.os, hb.tape, hb.output, by simpa using hb.size, fun k hk => (World.putObj_heap_other (by omega)).trans (hb.block k hk)⟩

def cA4 (x : Fa) (h : Nat) : Array Value := #[.int .i64 x.k, .int .i64 x.a, .int .i64 x.b, .int .i64 ((h : Int) - x.a - x.b)]
def zA4 : Array Value := #[.int .i64 0, .int .i64 0, .int .i64 0, .int .i64 0]
/-- What Factor hands back for an outline. -/
def FacOut (s : ByteArray) (e : Ending) : Prop := (facL s = [] ∧ e = .returned (.tuple #[.agg zA4, .int .i64 4])) ∨ ∃ x r, facL s = x :: r ∧ e = .returned (.tuple #[.agg (cA4 x (s.size / 2)), .int .i64 0])
def FacPost (s : ByteArray) (w : World) (e : Ending) (w' : World) : Prop := FacOut s e ∧ Below w.heap.size w w'

set_option maxRecDepth 100000 in
set_option maxHeartbeats 4000000 in
theorem factor_good (s : ByteArray) (l : List UInt8) (w : World) (hl : s.data.toList = l) (ho : outB l = true) (hS : StepsAt w) :
    Calls Tryd.prog 24 #[.string s] w fun e w' => FacPost s w e w' := by
  have hw0 := (outB_iff.1 ho).1
  have hs : s.size ≤ 24 := by have := (wordB_iff.1 hw0).1; rw [← hl] at this; exact this
  obtain ⟨w2, hw2e⟩ : ∃ w2, w2 = (w.alloc (.cells zA4 39)).alloc (.cells #[.int .i64 0] 25) := ⟨_, rfl⟩
  have hb2 : Below w.heap.size w w2 := by rw [hw2e]; exact two_le _ _ _
  have B0 : w2.heap[w.heap.size]? = some (.cells zA4 39) := by rw [hw2e]; exact heap_two1 _ _ _
  have B1 : w2.heap[w.heap.size + 1]? = some (.cells #[.int .i64 0] 25) := by rw [hw2e]; exact heap_two2 _ _ _
  have HI := Lib.hid (is_any s l true w2 hl (by omega) ho (hS.keep hb2))
  have HWd : Hid (wordB s.data.toList = true) := by simp only [Hid]; rw [hl]; exact hw0
  have Hb2 := Lib.hid hb2
  have HB0 := Lib.hid B0
  have HB1 := Lib.hid B1
  have Hw := Lib.hid hw2e
  have hw1 : ∀ f, Fence.wide.fn f := fun _ => trivial
  have hw2 : Fence.wide.depth = none := rfl
  clear hl ho hS hw0 hw2e hb2 B0 B1
  refine callsIn_wide (n := 0).1 ?_
  refine callsIn_of_wp_marks Tryd.func24 rfl trivial ?_ rfl
  simp only [Tryd.ntmps24, List.size_toArray, List.length_cons, List.length_nil, Nat.reduceAdd, Nat.reduceSub, Array.replicate_succ, Array.replicate_zero, List.push_toArray, List.append_toArray, List.nil_append, List.cons_append]
  gi_wp2_with fail
  have Hw' := Hw.out
  unfold zA4 at Hw'
  rw [← Hw']
  clear Hw'
  refine (callsIn_wide.2 HI.out).mono ?_
  rintro e w3 ⟨rfl, hb3⟩
  have Hb3 := Lib.hid hb3
  have hsz2 := Hb2.out.size
  have HB03 : Hid (w3.heap[w.heap.size]? = some (.cells zA4 39)) := (hb3.block _ (Array.getElem?_eq_some_iff.1 HB0.out).1).trans HB0.out
  have HB13 : Hid (w3.heap[w.heap.size + 1]? = some (.cells #[.int .i64 0] 25)) := (hb3.block _ (Array.getElem?_eq_some_iff.1 HB1.out).1).trans HB1.out
  clear hb3
  gi_wp2_with fail
  refine (callsIn_wide.2 (factorings_any s w3)).mono ?_
  rintro e w4 ⟨rfl, hw4⟩
  have hit : Iter Tryd.prog 59 #[.pointer (some ⟨w3.heap.size, 0, none⟩)] (EF (s.size / 2)) (fun k => k = w3.heap.size) (facL s) w4 :=
    fact_iter s w3.heap.size w4 HWd.out (by rw [hw4]; exact block_cell (heap_alloc_new w3 _) 0)
  have hb4 : Below w3.heap.size w3 w4 := by rw [hw4]; exact one_le _ _
  have hs4 : w4.heap.size = w3.heap.size + 1 := by rw [hw4]; simp
  have HIt := Lib.hid hit
  have Hb4 := Lib.hid (band (band Hb2.out Hb3.out) hb4)
  have h1lt := (Array.getElem?_eq_some_iff.1 HB13.out).1
  have HB04 : Hid (w4.heap[w.heap.size]? = some (.cells zA4 39)) := (hb4.block _ (Array.getElem?_eq_some_iff.1 HB03.out).1).trans HB03.out
  have HB14 : Hid (w4.heap[w.heap.size + 1]? = some (.cells #[.int .i64 0] 25)) := (hb4.block _ h1lt).trans HB13.out
  clear hit hw4 hb4
  gi_wp2_with fail
  refine wp_range_box (gf := 59) (lb := #[.pointer (some ⟨w3.heap.size, 0, none⟩)]) rfl (enters_of Tryd.func59 (by kernel_rfl) rfl) HIt.out (Below.refl _ _)
    (fun k => k = w.heap.size ∨ k = w.heap.size + 1) (fun k h => ⟨fun e => by omega, by omega⟩) (fun k h => by omega)
    (fun x v => ef_own _ _ x v)
    (fun pre W' => pre = [] ∧ (W'.heap[w.heap.size]? = some (.cells zA4 39) ∧ W'.heap[w.heap.size + 1]? = some (.cells #[.int .i64 0] 25)))
    (fun pre W' => ∃ x, pre = [x] ∧ W'.heap[w.heap.size]? = some (.cells (cA4 x (s.size / 2)) 39) ∧ W'.heap[w.heap.size + 1]? = some (.cells #[.int .i64 0] 25))
    (OwnFrom.and (ownFrom_pure _ _) (OwnFrom.and (ownFrom_obj (fun _ => zA4)) (ownFrom_obj (fun _ => #[.int .i64 0]))))
    (fun q X Y row hs hg hr => by
      obtain ⟨x, h0, hb0, hb1⟩ := hs
      exact ⟨x, h0, ownFrom_obj (fun _ : Unit => cA4 x (s.size / 2)) () X Y row hb0 hg hr, ownFrom_obj (fun _ : Unit => #[.int .i64 0]) () X Y row hb1 hg hr⟩)
    ⟨rfl, HB04.out, HB14.out⟩
    (fun v a1 W' => ∃ x B, v = .agg (cA4 x (s.size / 2)) ∧ w4.heap.size ≤ B ∧ a1 = { tmps := #[.string s, undef, .pointer (some ⟨w.heap.size, 0, none⟩), .pointer (some ⟨w.heap.size + 1, 0, none⟩), .pointer (some ⟨B, 0, none⟩), .string s, .bool true, .bool false, undef, .string s, .func (.func 59) #[] #[.pointer (some ⟨w3.heap.size, 0, none⟩)], v, undef, undef], defers := [] } ∧ W'.heap[B]? = some (.cells (cA4 x (s.size / 2)) 39))
    (fun v a1 q X Y row hs hg hr => by
      obtain ⟨x, B, h0, h1, h2, h3⟩ := hs
      exact ⟨x, B, h0, h1, h2, ownFrom_obj (fun _ : Unit => cA4 x (s.size / 2)) () X Y row h3 hg hr⟩)
    ?assign ?body ?done ?stop
  case assign =>
    rintro l1 v W' K ⟨x, hx⟩ hsz hK
    have hv : v = .agg (cA4 x (s.size / 2)) := hx
    have HKd : Hid (K { tmps := #[.string s, undef, .pointer (some ⟨w.heap.size, 0, none⟩), .pointer (some ⟨w.heap.size + 1, 0, none⟩), .pointer (some ⟨W'.heap.size, 0, none⟩), .string s, .bool true, .bool false, undef, .string s, .func (.func 59) #[] #[.pointer (some ⟨w3.heap.size, 0, none⟩)], .agg (cA4 x (s.size / 2)), undef, undef], defers := [] } (W'.alloc (.cells (cA4 x (s.size / 2)) 39))) :=
      hK _ _ (one_le _ _) ⟨x, W'.heap.size, hv, hsz, by rw [hv], heap_alloc_new _ _⟩
    subst hv
    clear hK hx
    unfold cA4 at HKd ⊢
    gi_wp2
    exact HKd.out
  case body =>
    rintro l2 pre x v a1 W1 hpre hsz ⟨rfl, b0, b1⟩ hE hAv ⟨x', B, hv', hB, rfl, hb⟩
    have hv : v = .agg (cA4 x (s.size / 2)) := hE
    have hcc : cA4 x' (s.size / 2) = cA4 x (s.size / 2) := by rw [hv] at hv'; injection hv' with h; exact h.symm
    rw [hcc] at hb
    subst hv
    clear hpre hE hAv hv' hcc
    have h0lt := (Array.getElem?_eq_some_iff.1 b0).1
    have h1lt2 := (Array.getElem?_eq_some_iff.1 b1).1
    have hBlt := (Array.getElem?_eq_some_iff.1 hb).1
    unfold zA4 at b0
    have HFin : Hid (roundEnd (fun k => k = w.heap.size ∨ k = w.heap.size + 1) (fun pre W' => pre = [] ∧ (W'.heap[w.heap.size]? = some (.cells zA4 39) ∧ W'.heap[w.heap.size + 1]? = some (.cells #[.int .i64 0] 25)))
        (fun pre W' => ∃ x, pre = [x] ∧ W'.heap[w.heap.size]? = some (.cells (cA4 x (s.size / 2)) 39) ∧ W'.heap[w.heap.size + 1]? = some (.cells #[.int .i64 0] 25)) ([] ++ [x]) W1 .ret { tmps := #[], defers := [] }
        (((((W1.setCell ⟨w.heap.size, 0, none⟩ (.int .i64 x.k)).setCell ⟨w.heap.size, 1, none⟩ (.int .i64 x.a)).setCell ⟨w.heap.size, 2, none⟩ (.int .i64 x.b)).setCell ⟨w.heap.size, 3, none⟩ (.int .i64 (((s.size / 2 : Nat) : Int) - x.a - x.b))).setCell ⟨w.heap.size + 1, 0, none⟩ (.int .i64 0))) := by
      refine ⟨?_, x, rfl, far1 (store4 b0 _ _ _ _) (by omega) _, store1 (far4 b1 (by omega) _ _ _ _) _⟩
      exact Keep.setCell (p := ⟨w.heap.size + 1, 0, none⟩) (Keep.setCell (p := ⟨w.heap.size, 3, none⟩) (Keep.setCell (p := ⟨w.heap.size, 2, none⟩) (Keep.setCell (p := ⟨w.heap.size, 1, none⟩) (Keep.setCell (p := ⟨w.heap.size, 0, none⟩) (Keep.refl _ _) (Or.inl rfl) _) (Or.inl rfl) _) (Or.inl rfl) _) (Or.inl rfl) _) (Or.inr rfl) _
    unfold cA4 at hb
    have z0 := block_cell b0 0
    have z1 := block_cell b0 1
    have z2 := block_cell b0 2
    have z3 := block_cell b0 3
    have y0 := block_free b0 0
    have y1 := block_free b0 1
    have y2 := block_free b0 2
    have y3 := block_free b0 3
    have e0 := block_cell b1 0
    have e1 := block_free b1 0
    have q0 := block_cell hb 0
    have q1 := block_cell hb 1
    have q2 := block_cell hb 2
    have q3 := block_cell hb 3
    clear b0 b1 hb
    unfold cA4
    gi_wp2
    exact HFin.out
  case done =>
    rintro D W3 hD hk ⟨h0, b0, b1⟩ hK
    have h0lt := (Array.getElem?_eq_some_iff.1 b0).1
    have h1lt2 := (Array.getElem?_eq_some_iff.1 b1).1
    unfold zA4 at b0
    have f0 := store4 b0 (.int .i64 0) (.int .i64 0) (.int .i64 0) (.int .i64 0)
    have f1 := far4 b1 (b := w.heap.size) (by omega) (.int .i64 0) (.int .i64 0) (.int .i64 0) (.int .i64 0)
    have g0 := far1 f0 (b := w.heap.size + 1) (by omega) (.int .i64 4)
    have g1 := store1 f1 (.int .i64 4)
    have k0 := far1 (far4 hK (b := w.heap.size) (by omega) (.int .i64 0) (.int .i64 0) (.int .i64 0) (.int .i64 0)) (b := w.heap.size + 1) (by omega) (.int .i64 4)
    have r0 := obj_put (o' := .deferred none) g0 k0 (by omega)
    have r1 := obj_put (o' := .deferred none) g1 k0 (by omega)
    have HBl : Hid (Below w.heap.size w ((((((W3.setCell ⟨w.heap.size, 0, none⟩ (.int .i64 0)).setCell ⟨w.heap.size, 1, none⟩ (.int .i64 0)).setCell ⟨w.heap.size, 2, none⟩ (.int .i64 0)).setCell ⟨w.heap.size, 3, none⟩ (.int .i64 0)).setCell ⟨w.heap.size + 1, 0, none⟩ (.int .i64 4)).putObj D (.deferred none))) := by
      have hb := Hb4.out.trans (hk.below (fun k hk e => by omega) (by have := Hb4.out.size; omega))
      have b1 := hb.setCell (p := ⟨w.heap.size, 0, none⟩) (Nat.le_refl _) (.int .i64 0)
      have b2 := b1.setCell (p := ⟨w.heap.size, 1, none⟩) (Nat.le_refl _) (.int .i64 0)
      have b3 := b2.setCell (p := ⟨w.heap.size, 2, none⟩) (Nat.le_refl _) (.int .i64 0)
      have b4 := b3.setCell (p := ⟨w.heap.size, 3, none⟩) (Nat.le_refl _) (.int .i64 0)
      have b5 := b4.setCell (p := ⟨w.heap.size + 1, 0, none⟩) (Nat.le_succ _) (.int .i64 4)
      exact below_put b5 (by have := Hb4.out.size; omega)
    have HR0 := Lib.hid r0
    have HR1 := Lib.hid r1
    have HK0 := Lib.hid k0
    have H0 := Lib.hid h0
    have z0 := block_cell b0 0
    have z1 := block_cell b0 1
    have z2 := block_cell b0 2
    have z3 := block_cell b0 3
    have y0 := block_free b0 0
    have y1 := block_free b0 1
    have y2 := block_free b0 2
    have y3 := block_free b0 3
    have e0 := block_cell b1 0
    have e1 := block_free b1 0
    clear b0 b1 f0 f1 g0 g1 k0 r0 r1 hk h0 hK
    gi_wp2
    refine ⟨by simp, .inl ⟨_, _, rfl, run_takeDeferred HK0.out, ?_⟩⟩
    have z0 := block_cell HR0.out 0
    have z1 := block_cell HR0.out 1
    have z2 := block_cell HR0.out 2
    have z3 := block_cell HR0.out 3
    have e0 := block_cell HR1.out 0
    exact ⟨.tuple #[.agg zA4, .int .i64 4], by simp [results, Tryd.results24, go_sem, z0, z1, z2, z3, e0, zA4], Or.inl ⟨H0.out, rfl⟩, HBl.out⟩
  case stop =>
    rintro D pre W3 hD hk hpre ⟨x, rfl, b0, b1⟩ hK
    have h0lt := (Array.getElem?_eq_some_iff.1 b0).1
    have h1lt2 := (Array.getElem?_eq_some_iff.1 b1).1
    obtain ⟨r, hr⟩ : ∃ r, facL s = x :: r := by
      obtain ⟨r, hr⟩ := hpre
      exact ⟨r, by rw [← hr]; rfl⟩
    have r0 := obj_put (o' := .deferred none) b0 hK (by omega)
    have r1 := obj_put (o' := .deferred none) b1 hK (by omega)
    have HBl : Hid (Below w.heap.size w (W3.putObj D (.deferred none))) :=
      (Hb4.out.trans (hk.below (fun k hk e => by omega) (by have := Hb4.out.size; omega))).trans ⟨rfl, rfl, rfl, by simp, fun k hk => World.putObj_heap_other (by have := Hb4.out.size; omega)⟩
    have HR := Lib.hid hr
    have HK0 := Lib.hid hK
    have HR0 := Lib.hid r0
    have HR1 := Lib.hid r1
    clear b0 b1 r0 r1 hk hpre hr hK
    gi_wp2
    refine ⟨by simp, .inl ⟨_, _, rfl, run_takeDeferred HK0.out, ?_⟩⟩
    have z0 := block_cell HR0.out 0
    have z1 := block_cell HR0.out 1
    have z2 := block_cell HR0.out 2
    have z3 := block_cell HR0.out 3
    have e0 := block_cell HR1.out 0
    exact ⟨.tuple #[.agg (cA4 x (s.size / 2)), .int .i64 0], by simp [results, Tryd.results24, go_sem, z0, z1, z2, z3, e0, cA4], Or.inr ⟨x, r, HR.out, rfl⟩, HBl.out⟩
end Go.Proofs.YtfommfgokpiieaaDoor
