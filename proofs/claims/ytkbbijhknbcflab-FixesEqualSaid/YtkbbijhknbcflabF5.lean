import Derived.Test.YtkbbijhknbcflabF4
/-
  Every function value that the reader makes means what its formula means.
-/
namespace Go.Proofs.Ytkbbijhknbcflab
open Go.RowKit Go.Shelf

/-- Three cells. -/
structure C3 (p1 p2 p3 : Addr) (u1 u2 u3 : Value) (w : World) : Prop where
  c1 : w.cell? p1 = some u1
  c2 : w.cell? p2 = some u2
  c3 : w.cell? p3 = some u3
theorem C3.keep {p1 p2 p3 : Addr} {u1 u2 u3 : Value} {w w' : World} (h : C3 p1 p2 p3 u1 u2 u3 w) (hb : Below w.heap.size w w') : C3 p1 p2 p3 u1 u2 u3 w' :=
  ⟨(hb.cell (World.block_lt_of_cell? _ _ h.c1)).trans h.c1, (hb.cell (World.block_lt_of_cell? _ _ h.c2)).trans h.c2, (hb.cell (World.block_lt_of_cell? _ _ h.c3)).trans h.c3⟩

set_option maxHeartbeats 4000000 in
set_option maxRecDepth 100000 in
theorem ev_fix (g : Bool) (c : Nat) (l : Fm) (ih : Ev l) : Ev (.fix g c l) := by
  intro m aN n cN aM cM nx mk b e f ca W hM hw hk hS hE
  obtain ⟨p1, p2, p3, v1, he, hc1, hc2, hc3, hM1⟩ := hM
  injection he with hf _ hc'
  injection hf with hf
  subst hf hc'
  obtain ⟨f1, k1, rfl, en1⟩ := hM1.fn
  obtain ⟨k, hkn, hF⟩ := (den_step (nx := nx) (mk := mk) l c hE).first g
  have HO : Hid (iter (fun X => den n nx mk l (upd e c X)) (beg g n) k = den n nx mk (.fix g c l) e) := (hF.stay hkn).symm
  have hb0 := below_one W (.cells #[.slice aN n cN, .slice aM n cM] 33)
  have hV0 := VInv.start aN n cN aM n cM W
  have hC0 := (C3.mk hc1 hc2 hc3).keep hb0
  have HX := Lib.hid (wfixed_any g c l ih m aN n cN aM cM nx mk b e f1 k1 k _ hw.1.1 (hM1.keep hb0) hw.2 hw.1.2 (hk.keep (Nat.le_refl _) hb0) (hS.keep hb0) hE hkn hF en1)
  have HB0 := Lib.hid hb0
  obtain ⟨q1, q2, q3⟩ := hC0
  obtain ⟨q4, q5⟩ := hV0.cells
  generalize hY : ((120 + c : Nat) : Int) = Y at *
  generalize hG : (if g = true then (103 : Int) else 109) = G at *
  generalize iter (fun X => den n nx mk l (upd e c X)) (beg g n) k = Z at *
  clear hM1 hw hk hS hE hF hb0 hV0 hc1 hc2 hc3 hY hG
  show Calls Try.prog 58 #[wkV aN n cN aM n cM, .map (some b), .pointer (some ⟨p1, 0, none⟩), .pointer (some ⟨p2, 0, none⟩), .pointer (some ⟨p3, 0, none⟩)] W _
  go_enter Try.func58, Try.ntmps58
  go_wp2_with fail
  refine HX.out.mono ?_
  rintro r w1 ⟨rfl, kp, hrest⟩
  have HR := Lib.hid hrest
  have HKp := Lib.hid (Kp.trans (Kp.of HB0.out) kp)
  clear hrest kp q1 q2 q3 q4 q5
  go_wp2
  go_ret
  exact ⟨by rw [← HO.out]; rfl, HKp.out, HR.out⟩

theorem ev_all : ∀ F : Fm, Ev F := by
  intro F
  induction F with
  | mark k => exact ev_mark k
  | unm k => exact ev_unm k
  | tt => exact ev_tt
  | ff => exact ev_ff
  | two a l r ih1 ih2 => exact ev_two a l r ih1 ih2
  | ahead d l ih => exact ev_ahead d l ih
  | var c => exact ev_var c
  | fix g c l ih => exact ev_fix g c l ih
end Go.Proofs.Ytkbbijhknbcflab
