import Derived.Test.YtkbbijhknbcflabF2
/-
  What a function value that the reader makes means: two formulas, a step ahead.
-/
namespace Go.Proofs.Ytkbbijhknbcflab
open Go.RowKit Go.Shelf

theorem wk_box {aN : Option Addr} {n cN : Nat} {aM : Option Addr} {cM : Nat} {W w w' : World} {b : Nat} {e : Nat → Nat} (h : VInv aN n cN aM n cM W w) (hs : SetsAt w b e) (hb : Kp b w w') : w'.heap[W.heap.size]? = some (.cells #[.slice aN n cN, .slice aM n cM] 33) :=
  (hb.block _ (Array.getElem?_eq_some_iff.1 h.box).1 (hs.noCell h.cells.1)).trans h.box

set_option maxHeartbeats 4000000 in
set_option maxRecDepth 100000 in
theorem ev_two (a : Bool) (l r : Fm) (ih1 : Ev l) (ih2 : Ev r) : Ev (.two a l r) := by
  intro m aN n cN aM cM nx mk b e f c W hM hw hk hS hE
  obtain ⟨p1, p2, p3, v1, v2, he, hc1, hc2, hc3, hM1, hM2⟩ := hM
  injection he with hf _ hc'
  injection hf with hf
  subst hf hc'
  obtain ⟨f1, k1, rfl, en1⟩ := hM1.fn
  obtain ⟨f2, k2, rfl, en2⟩ := hM2.fn
  have hb0 := below_one W (.cells #[.slice aN n cN, .slice aM n cM] 33)
  have hV0 := VInv.start aN n cN aM n cM W
  have g1 := alloc_cell hc1 (.cells #[.slice aN n cN, .slice aM n cM] 33)
  have g2 := alloc_cell hc2 (.cells #[.slice aN n cN, .slice aM n cM] 33)
  have g3 := alloc_cell hc3 (.cells #[.slice aN n cN, .slice aM n cM] 33)
  have hM1' := hM1.keep hb0
  have hM2' := hM2.keep hb0
  have hk' := hk.keep (Nat.le_refl _) hb0
  have hS' := hS.keep hb0
  have H1 := Lib.hid (ih1 m aN n cN aM cM nx mk b e f1 k1 _ hM1' hw.1 hk' hS' hE)
  have HG := Lib.hid (And.intro g1 (And.intro g2 g3))
  have HM2 := Lib.hid hM2'
  have HK := Lib.hid hk'
  have HS := Lib.hid hS'
  have HV := Lib.hid hV0
  have Hw := Lib.hid hw
  have h6 := hk.n6
  have HD : Hid (∀ e1 : Nat → Nat, (∀ i, i < 3 → m i = true → e1 i = e i) → den n nx mk r e1 = den n nx mk r e) := fun e1 h => den_congr r hw.2 h
  have HB0 := Lib.hid hb0
  have hx : den n nx mk l e < 64 := lt64 (den_lt l hE) h6
  have hy : den n nx mk r e < 64 := lt64 (den_lt r hE) h6
  have HO : Hid (den n nx mk (.two a l r) e = if a then den n nx mk l e &&& den n nx mk r e else den n nx mk l e ||| den n nx mk r e) := rfl
  clear hM1 hM2 hM1' hM2' hk hk' hS hS' hE hb0 hV0 hc1 hc2 hc3 hw
  obtain ⟨q0, q1⟩ := HV.out.cells
  show Calls Try.prog 53 #[wkV aN n cN aM n cM, .map (some b), .pointer (some ⟨p1, 0, none⟩), .pointer (some ⟨p2, 0, none⟩), .pointer (some ⟨p3, 0, none⟩)] W _
  go_enter Try.func53, Try.ntmps53
  go_wp2_with (go_at_fn f1; refine H1.out.mono ?_)
  rintro z w1 ⟨rfl, kp1, e1, hs1, he1, ha1⟩
  have H2 := Lib.hid (ih2 m aN n cN aM cM nx mk b e1 f2 k2 w1 (HM2.out.kp HS.out kp1) Hw.out.2 (HK.out.kp HS.out kp1) hs1 he1)
  rw [HD.out e1 ha1] at H2
  have HS1 := Lib.hid hs1
  have HA1 := Lib.hid ha1
  have HKp1 := Lib.hid (Kp.trans (Kp.of HB0.out) kp1)
  have hv1 := wk_box HV.out HS.out kp1
  have g4 := kp1.cell HG.out.2.1 (HS.out.noCell HG.out.2.1)
  have g5 := kp1.cell HG.out.2.2 (HS.out.noCell HG.out.2.2)
  have q2 := block_cell hv1 0
  have q3 := block_cell hv1 1
  simp only [List.getElem?_toArray, List.getElem?_cons_zero, List.getElem?_cons_succ] at q2 q3
  have HG5 := Lib.hid g5
  clear kp1 hs1 he1 ha1 hv1 g1 g2 g3 q0 q1 g5
  go_wp2_with (go_at_fn f2; refine H2.out.mono ?_)
  rintro z w2 ⟨rfl, kp2, e2, hs2, he2, ha2⟩
  have g6 := kp2.cell HG5.out (HS1.out.noCell HG5.out)
  have HEnd : Hid (Kp b W w2 ∧ ∃ e', SetsAt w2 b e' ∧ EnvOk n e' ∧ ∀ i, i < 3 → m i = true → e' i = e i) :=
    ⟨HKp1.out.trans kp2, e2, hs2, he2, fun i h3 hm => (ha2 i h3 hm).trans (HA1.out i h3 hm)⟩
  clear kp2 hs2 he2 ha2 g4 q2 q3
  generalize den n nx mk l e = X at *
  generalize den n nx mk r e = Y at *
  have hand := Lib.hid (band_nat X Y (Nat.lt_of_lt_of_le hx (by decide)) (Nat.lt_of_lt_of_le hy (by decide)))
  have hor := Lib.hid (bor_nat X Y (Nat.lt_of_lt_of_le hx (by decide)) (Nat.lt_of_lt_of_le hy (by decide)))
  cases a
  · simp only [Bool.false_eq_true, if_false] at g6
    go_wp2
    go_ret
    exact ⟨by rw [HO.out]; simp only [Bool.false_eq_true, if_false]; rw [← hor.out]; rfl, HEnd.out⟩
  · simp only [if_true] at g6
    go_wp2
    go_ret
    exact ⟨by rw [HO.out]; simp only [if_true]; rw [← hand.out]; rfl, HEnd.out⟩

set_option maxHeartbeats 4000000 in
set_option maxRecDepth 100000 in
theorem ev_ahead (d : Bool) (l : Fm) (ih1 : Ev l) : Ev (.ahead d l) := by
  intro m aN n cN aM cM nx mk b e f c W hM hw hk hS hE
  obtain ⟨p1, p2, v1, he, hc1, hc2, hM1⟩ := hM
  injection he with hf _ hc'
  injection hf with hf
  subst hf hc'
  obtain ⟨f1, k1, rfl, en1⟩ := hM1.fn
  have hb0 := below_one W (.cells #[.slice aN n cN, .slice aM n cM] 33)
  have hV0 := VInv.start aN n cN aM n cM W
  have g1 := alloc_cell hc1 (.cells #[.slice aN n cN, .slice aM n cM] 33)
  have g2 := alloc_cell hc2 (.cells #[.slice aN n cN, .slice aM n cM] 33)
  have hk' := hk.keep (Nat.le_refl _) hb0
  have hS' := hS.keep hb0
  have H1 := Lib.hid (ih1 m aN n cN aM cM nx mk b e f1 k1 _ (hM1.keep hb0) hw hk' hS' hE)
  have HG := Lib.hid g2
  have HK := Lib.hid hk'
  have HS := Lib.hid hS'
  have HV := Lib.hid hV0
  have h6 := hk.n6
  have HB0 := Lib.hid hb0
  have hxn := den_lt (nx := nx) (mk := mk) l hE
  have HO : Hid (den n nx mk (.ahead d l) e = if d then bef nx (den n nx mk l e) n else sdf (2 ^ n - 1) (bef nx (sdf (2 ^ n - 1) (den n nx mk l e)) n)) := rfl
  clear hM1 hk hk' hS hS' hE hb0 hV0 hc1 hc2 hw
  show Calls Try.prog 54 #[wkV aN n cN aM n cM, .map (some b), .pointer (some ⟨p1, 0, none⟩), .pointer (some ⟨p2, 0, none⟩)] W _
  go_enter Try.func54, Try.ntmps54
  go_wp2_with (go_at_fn f1; refine H1.out.mono ?_)
  rintro z w1 ⟨rfl, kp1, e1, hs1, he1, ha1⟩
  have HKp1 := Lib.hid (Kp.trans (Kp.of HB0.out) kp1)
  have HK1 := Lib.hid (HK.out.kp HS.out kp1)
  have HS1 := Lib.hid hs1
  have HE1 := Lib.hid he1
  have HA1 := Lib.hid ha1
  have hv1 : w1.heap[W.heap.size]? = some (.cells #[.slice aN n cN, .slice aM n cM] 33) := wk_box HV.out HS.out kp1
  have g4 := kp1.cell HG.out (HS.out.noCell HG.out)
  have q2 := block_cell hv1 0
  have q3 := block_cell hv1 1
  simp only [List.getElem?_toArray, List.getElem?_cons_zero, List.getElem?_cons_succ] at q2 q3
  have HCells := Lib.hid (And.intro q2 q3)
  clear kp1 hs1 he1 ha1 hv1 g1 g2
  generalize den n nx mk l e = X at *
  have HEnd : Hid (∀ w2, Below w1.heap.size w1 w2 → Kp b W w2 ∧ ∃ e', SetsAt w2 b e' ∧ EnvOk n e' ∧ ∀ i, i < 3 → m i = true → e' i = e i) :=
    fun w2 hb => ⟨HKp1.out.trans (Kp.of hb), e1, HS1.out.keep hb, HE1.out, HA1.out⟩
  cases d
  · simp only [Bool.false_eq_true, if_false] at g4
    have HA := Lib.hid (fun W' => all_any aN n cN aM n cM W' (show n ≤ 9 by omega))
    have ha1 : Hid (bits .andNot .i64 ((2 ^ n - 1 : Nat) : Int) (X : Int) = ((sdf (2 ^ n - 1) X : Nat) : Int)) := andNot_nat (lt64 (all_lt n) h6) (lt64 hxn h6)
    have ha2 : Hid (bits .andNot .i64 ((2 ^ n - 1 : Nat) : Int) ((bef nx (sdf (2 ^ n - 1) X) n : Nat) : Int) = ((sdf (2 ^ n - 1) (bef nx (sdf (2 ^ n - 1) X) n) : Nat) : Int)) := andNot_nat (lt64 (all_lt n) h6) (lt64 (bef_lt nx _ n) h6)
    have HBf : Hid (∀ W', Below w1.heap.size w1 W' → Calls Try.prog 55 #[wkV aN n cN aM n cM, .int .i64 (bits .andNot .i64 ((2 ^ n - 1 : Nat) : Int) (X : Int))] W' fun e w' => e = .returned (.int .i64 ((bef nx (sdf (2 ^ n - 1) X) n : Nat) : Int)) ∧ Below W'.heap.size W' w') := by
      intro W' hb
      rw [ha1.out]
      exact (HK1.out.keep (Nat.le_refl _) hb).before cN cM _ (sdf_lt X (all_lt n))
    go_wp2
    go_region_held3 (fun w' => w'.cell? ⟨W.heap.size, 0, none⟩ = some (.slice aN n cN) ∧ w'.cell? ⟨W.heap.size, 1, none⟩ = some (.slice aM n cM))
      (first
        | go_keep
        | (go_split_ands; exact ⟨(hbx.cell (World.block_lt_of_cell? _ _ HCells.out.1)).trans HCells.out.1, (hbx.cell (World.block_lt_of_cell? _ _ HCells.out.2)).trans HCells.out.2⟩)
        | (go_split_ands; exact ⟨(hby.cell (World.block_lt_of_cell? _ _ HCells.out.1)).trans HCells.out.1, (hby.cell (World.block_lt_of_cell? _ _ HCells.out.2)).trans HCells.out.2⟩)
        | (go_split_ands; exact ⟨(hbz.cell (World.block_lt_of_cell? _ _ HCells.out.1)).trans HCells.out.1, (hbz.cell (World.block_lt_of_cell? _ _ HCells.out.2)).trans HCells.out.2⟩))
      ((first
        | ((with_reducible refine (HA.out w1.drew).mono ?_); rintro r x1 ⟨rfl, hb1⟩; have hbx : Below w1.heap.size w1 x1 := below_drew1 hb1; clear hb1)
        | ((with_reducible refine (HA.out x1).mono ?_); rintro r x2 ⟨rfl, hb1⟩; have hby : Below w1.heap.size w1 x2 := band hbx hb1; clear hb1)
        | ((with_reducible refine (HBf.out _ hby).mono ?_); rintro r x3 ⟨rfl, hb1⟩; have hbz : Below w1.heap.size w1 x3 := band hby hb1; clear hb1)))
    all_goals
      have HZ := Lib.hid (HEnd.out _ hbz)
      clear hbx hby hbz
      go_wp2
      go_ret
      exact ⟨by rw [HO.out]; simp only [Bool.false_eq_true, if_false]; rw [← ha2.out]; rfl, HZ.out⟩
  · simp only [if_true] at g4
    have HBf := Lib.hid (HK1.out.before cN cM X hxn)
    go_wp2_with fail
    refine HBf.out.mono ?_
    rintro r x1 ⟨rfl, hb1⟩
    have HZ := Lib.hid (HEnd.out _ hb1)
    clear hb1
    go_wp2
    go_ret
    exact ⟨by rw [HO.out]; simp only [if_true]; rfl, HZ.out⟩
end Go.Proofs.Ytkbbijhknbcflab
