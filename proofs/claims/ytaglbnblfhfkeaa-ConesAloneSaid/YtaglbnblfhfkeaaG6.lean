import Derived.Test.YtaglbnblfhfkeaaG5
namespace Go.Proofs.Ytaglbnblfhfkeaa
open Go.RowKit

theorem made_sum (w : World) (n : Nat) : SumAt (w.alloc (.cells (madeCells #[.int .i64 0] n) 3)) w.heap.size n Vec.zero.at' := by
  refine ⟨_, heap_alloc_new w _, size_madeCells _ _, fun j hj => ?_⟩
  rw [zero_at]
  simp [madeCells, hj, Nat.mod_one]

/-- What holds in the loop over the moves. -/
structure Summing (wb wr : World) (n : Nat) (s : Nat → Int) : Prop where
  sum : SumAt wr wb.heap.size n s
  below : Below wb.heap.size wb wr
theorem Summing.keep {wb wr w' : World} {n : Nat} {s : Nat → Int} (h : Summing wb wr n s) (hb : Below wr.heap.size wr w') : Summing wb w' n s :=
  ⟨h.sum.keep h.sum.lt hb, h.below.trans (hb.mono (by have := h.sum.lt; omega))⟩

theorem made_int (n : Nat) (hn : n ≤ 4) (W : World) : (Instr.makeSlice 23 (.int .i64 (n : Int)) (.int .i64 (n : Int))).run Try.prog W = .ok (.slice (some ⟨W.heap.size, 0, none⟩) n n) (W.alloc (.cells (madeCells #[.int .i64 0] n) 3)) := by
  obtain ⟨i0, hi, hz0, hz1, hz2⟩ := info_parts Try.info3
  have := run_make (P := Try.prog) W 23 3 i0 (.int .i64 0) Try.underlying23 hi hz0 .i64 .i64 (n : Int) (n : Int) (by omega) (Int.le_refl _) (by rw [hz2]; omega) (by omega)
  rw [hz1] at this
  simp only [Int.toNat_natCast, Nat.mul_one] at this
  exact this

theorem fits_vecN {y : Vec} {x : Nat → Int} {n : Nat} (hn : n ≤ 4) (h : Vec.fits y (vecN x n)) : fitsN y.at' x n = true := by
  have h4 := fitsN_iff.1 ((fitsN_fits _ _).2 h)
  refine fitsN_iff.2 fun j hj => ?_
  have := h4 j (by omega)
  rw [vecN_at hn j hj] at this
  exact this

theorem someP_in {F : List Vec} {y : Vec} {n : Nat} (h : y ∈ F) : someP F.length (fun j => eqN n n y.at' (F.getD j Vec.zero).at') = true := by
  obtain ⟨j, hj, he⟩ := List.getElem_of_mem h
  refine someP_iff.2 ⟨j, hj, eqN_iff.2 ⟨rfl, fun i _ => ?_⟩⟩
  rw [List.getD_eq_getElem?_getD (l := F), List.getElem?_eq_getElem hj, he]; rfl

set_option maxHeartbeats 16000000 in
set_option maxRecDepth 100000 in
theorem sums_yes (a : Option Addr) (cap R : Nat) (A : Nat → Option Addr) (L C : Nat → Nat) (Z : Nat → Nat → Int) (ax : Option Addr) (cx : Nat) (x : Nat → Int) (W : World) (m : Mx) (hmx : mxOf R L Z = m)
    (hR : R ≤ 140737488351232) (hM : Mat W a R A L C Z) (hnc : m.n ≤ cx) (hX : Ints W ax m.n x) (hS : isVec R L Z m.n x (-100) 100 = true) (hmv : isMoveB m (vecN x m.n) = true) :
    Calls Try.prog 10 #[.slice a R cap, .slice ax m.n cx] W fun e w' => Fine W e w' := by
  have hv := isVec_iff.1 hS
  have hmi := isMat_iff.1 hv.1
  have hm : m.ok := by rw [← hmx]; exact mxOf_ok hv.1
  have hn4 := hm.n4
  have hn1 := hm.n1
  have HE1 : Hid (min R 250 = R) := by simp only [Hid]; omega
  have HE2 : Hid (min m.n 6 = m.n) := by simp only [Hid]; omega
  have HP : Hid (someP R (fun j => dotN (Z j) x m.n != 0) = false) := by
    have := prods_move (x := x) hv.1 hv.2.1
    rw [hmx, hmv] at this; exact this
  obtain ⟨X, hXe⟩ : ∃ X, X = vecN x m.n := ⟨_, rfl⟩
  have HXe := Lib.hid hXe
  have HXn : Hid (near 100 X) := by rw [Hid, hXe]; exact vecN_near (by omega) hv.2.2
  have HXc : Hid (inCols m.n X) := by rw [Hid, hXe]; exact vecN_cols
  have HMV : Hid (isMove m X) := by rw [Hid, hXe]; exact isMoveB_iff.1 hmv
  have HMX := Lib.hid hm
  have HV := Lib.hid hv.1
  have Hmx := Lib.hid hmx
  have HM := Lib.hid hM
  have HR := Lib.hid hR
  have HX := Lib.hid hX
  have Hnc := Lib.hid hnc
  have HS := Lib.hid hS
  have EG : Hid (∀ args w, (callFunc 52 args).run Try.prog w = .ok (.enter 52 args) w) := enters_of Try.func52 (by kernel_rfl) rfl
  have EG2 : Hid (∀ args w, (callFunc 53 args).run Try.prog w = .ok (.enter 53 args) w) := enters_of Try.func53 (by kernel_rfl) rfl
  clear hM hR hX hnc hS hv hmi hmv hm hmx hXe
  go_enter Try.func10, Try.ntmps10
  go_wp2_with fail
  refine (table_out _ _ _ _ _ _ _ _ HR.out HM.out).mono ?_
  rintro e w1 ⟨a1, c1, A1, C1, rfl, hM1, hb1⟩
  have HM1 := Lib.hid hM1
  have HB1 := Lib.hid hb1
  clear hM1 hb1
  go_wp2_with fail
  refine (list_out _ _ _ _ _ Hnc.out (by omega) (HX.out.keep (Nat.le_refl _) HB1.out)).mono ?_
  rintro e w2 ⟨a2, c2, rfl, hX2, hb2⟩
  have HX2 := Lib.hid hX2
  have HM2 := Lib.hid (HM1.out.keep (Nat.le_refl _) hb2)
  have HB2 : Hid (Below W.heap.size W w2) := HB1.out.trans (hb2.mono HB1.out.size)
  clear hX2 hb2
  have HRB := Lib.hid (readBoth_good _ c1 _ _ _ _ _ _ _ c2 _ _ _ _ HM2.out HX2.out HS.out)
  rw [Hmx.out, ← HXe.out] at HRB
  go_wp2_with fail
  refine (fSplit_core m X _ _ _ HMX.out HXc.out HMV.out (norm_near HXn.out) HRB.out).mono ?_
  rintro e w3 ⟨asl, csl, l, F, rfl, hVLs, hA, hSp, hb3⟩
  have HB3 : Hid (Below W.heap.size W w3) := HB2.out.trans (hb3.mono HB2.out.size)
  have HA := Lib.hid hA
  have HSP := Lib.hid hSp
  have HVs3 := Lib.hid hVLs
  have hll : l.length ≤ 400 := Nat.le_trans hSp.len (norm_near HXn.out)
  clear hb3 hA hSp hVLs HRB
  go_wp2_with fail
  refine (table_out _ _ _ _ _ _ _ _ HR.out (HM.out.keep (Nat.le_refl _) HB3.out)).mono ?_
  rintro e w4 ⟨a4, c4, A4, C4, rfl, hM4, hb4⟩
  have HM4 := Lib.hid hM4
  have HVs4 := Lib.hid (HVs3.out.keep (Nat.le_refl _) hb4)
  have HB4 : Hid (Below W.heap.size W w4) := HB3.out.trans (hb4.mono HB3.out.size)
  clear hM4 hb4
  go_wp2_with fail
  refine (list_out _ _ _ _ _ Hnc.out (by omega) (HX.out.keep (Nat.le_refl _) HB4.out)).mono ?_
  rintro e w5 ⟨a5, c5, rfl, hX5, hb5⟩
  have HX5 := Lib.hid hX5
  have HM5 := Lib.hid (HM4.out.keep (Nat.le_refl _) hb5)
  have HVs5 := Lib.hid (HVs4.out.keep (Nat.le_refl _) hb5)
  have HB5 : Hid (Below W.heap.size W w5) := HB4.out.trans (hb5.mono HB4.out.size)
  clear hX5 hb5
  go_wp2_with fail
  refine (times_yes _ _ _ _ _ _ _ _ _ _ _ _ HM5.out HX5.out (by rw [isVec_cut]; exact isVec_wide HS.out)).mono ?_
  rintro e w6 ⟨ap, cp, rfl, hO6, hb6⟩
  have HP6 := Lib.hid hO6.ints
  have HVs6 := Lib.hid (HVs5.out.keep (Nat.le_refl _) hb6)
  have HB6 : Hid (Below W.heap.size W w6) := HB5.out.trans (hb6.mono HB5.out.size)
  clear hb6 hO6
  go_wp2_with fail
  refine (rvector_r true _ _ _ _ _ _ _ _ _ _ _ _ _ _ HS.out HR.out (HM.out.keep (Nat.le_refl _) HB6.out) (by omega) (HX.out.keep (Nat.le_refl _) HB6.out)).mono ?_
  rintro e w7 ⟨rfl, rfl⟩
  go_wp2_with fail
  refine (containsI_r false 52 #[] (fun j => dotN (Z j) x (min m.n 6) != 0) _ _ _ _ _ (by rw [HE1.out, HE2.out]; exact HP.out) (by omega) HP6.out EG.out (fun j _ q => sumsClo1 _ _ q)).mono ?_
  rintro e w8 ⟨rfl, q8, h8⟩
  have HB8 : Hid (Below W.heap.size W w8) := below_drawn HB6.out h8
  have HVs8 := Lib.hid (HVs6.out.keep (Nat.le_refl _) (below_drawn (Below.refl _ _) h8))
  clear h8
  go_wp2_with fail
  refine (table_out _ _ _ _ _ _ _ _ HR.out (HM.out.keep (Nat.le_refl _) HB8.out)).mono ?_
  rintro e w9 ⟨a9, c9, A9, C9, rfl, hM9, hb9⟩
  have HM9 := Lib.hid hM9
  have HVs9 := Lib.hid (HVs8.out.keep (Nat.le_refl _) hb9)
  have HB9 : Hid (Below W.heap.size W w9) := HB8.out.trans (hb9.mono HB8.out.size)
  clear hM9 hb9
  go_wp2_with fail
  refine (fBasic_tab _ _ _ _ _ _ _ _ HM9.out HV.out).mono ?_
  rw [Hmx.out]
  rintro e wb ⟨ab, cb, F2, rfl, hVLb, hA2, hb10⟩
  have hFF := HA.out.unique hA2
  subst hFF
  have hFl : F.length ≤ 12117361 := HA.out.few HMX.out
  have HBb : Hid (Below W.heap.size W wb) := HB9.out.trans (hb10.mono HB9.out.size)
  obtain ⟨As, Cs, hMs⟩ := HVs9.out.keep (Nat.le_refl _) hb10
  obtain ⟨Ab, Cb, hMb⟩ := hVLb
  have HMs := Lib.hid hMs
  have HMb := Lib.hid hMb
  have hmk := made_int m.n hn4
  have HS0 : Hid (Summing wb (wb.alloc (.cells (madeCells #[.int .i64 0] m.n) 3)) m.n (sumV (l.take 0)).at') := ⟨made_sum wb m.n, below_alloc1 _ _⟩
  clear hA2 hb10 hMs hMb
  generalize madeCells #[.int .i64 0] m.n = cs0 at hmk HS0
  go_wp2
  go_loopw [67] (fun i wr => ∃ k : Nat, k ≤ l.length ∧ i = .int .i64 k ∧ Summing wb wr m.n (sumV (l.take k)).at') (fun i _ => l.length - (intOf i).toNat)
  case atStart => exact ⟨0, Nat.zero_le _, rfl, HS0.out⟩
  case round =>
    obtain ⟨k, hk, rfl, hSm⟩ := hrel
    obtain ⟨wo, hwo⟩ : ∃ wo : World, wo = wr := ⟨_, rfl⟩
    subst hwo
    have HSm := Lib.hid hSm
    clear hmk HS0 hSm
    by_cases hlt : k < l.length
    · obtain ⟨b, o, rfl, hck⟩ := (HMs.out.keep (Nat.le_refl _) HSm.out.below).row k hlt
      have hyk : l[k]? = some (l.getD k Vec.zero) := by rw [List.getD_eq_getElem?_getD, List.getElem?_eq_getElem hlt]; rfl
      have HYm := Lib.hid (HSP.out.mem _ (getD_mem hlt))
      have HYn : Hid (near 100 (l.getD k Vec.zero)) := near_29 (basic_norm HMX.out ((HA.out.mem _).1 HYm.out.1))
      have HTn : Hid (near 100 (sumV (l.take k))) := near_fits (by omega) (fits_take (fun y hy => (HSP.out.mem y hy).2) HSP.out.sum k) HXn.out
      have HSt := Lib.hid (sum_take_succ hyk)
      clear hyk
      generalize hy : l.getD k Vec.zero = y at HYm HYn HSt
      have HYe := Lib.hid hy
      clear hy
      have HS1 := Lib.hid (HSm.out.keep (below_alloc1 wo (.cells #[.slice (As k) m.n (Cs k)] 23)))
      have HI1 : Hid (Ints (wo.alloc (.cells #[.slice (As k) m.n (Cs k)] 23)) (As k) m.n y.at') := by
        have := (HMs.out.keep (Nat.le_refl _) HS1.out.below).ints k hlt
        rw [HYe.out] at this; exact this
      have HX1 : Hid (Ints (wo.alloc (.cells #[.slice (As k) m.n (Cs k)] 23)) ax m.n x) := HX.out.keep (Nat.le_refl _) (HBb.out.trans (HS1.out.below.mono HBb.out.size))
      have HMb1 := Lib.hid (HMb.out.keep (Nat.le_refl _) HS1.out.below)
      have Hf : Hid (fitsN y.at' x m.n = true) := fits_vecN hn4 (by rw [← HXe.out]; exact HYm.out.2)
      have hsz := HSm.out.sum.lt
      have Hbk := Lib.hid (heap_alloc_new wo (.cells #[.slice (As k) m.n (Cs k)] 23))
      have HRF := Lib.hid (rfits_any (As k) ax (Cs k) cx m.n m.n y.at' x _ (by omega) (Nat.le_refl _) HI1.out HX1.out)
      rw [Hf.out] at HRF
      go_wp2_with fail
      refine HRF.out.mono ?_
      rintro e w11 ⟨rfl, rfl⟩
      go_wp2_with fail
      refine (containsII_r true 53 _ (fun j => eqN m.n m.n y.at' (F.getD j Vec.zero).at') _ _ _ _ _ _ _ _ (someP_in HYm.out.1) (by omega) HMb1.out EG2.out (fun j hj q => sumsClo2 wo.heap.size (As k) (Ab j) m.n (Cs k) m.n (Cb j) _ _ _ q Hbk.out (by omega) (by omega) HI1.out (HMb1.out.ints j hj))).mono ?_
      rintro e w12 ⟨rfl, q12, h12⟩
      have hb12 := below_drawn (Below.refl (wo.alloc (.cells #[.slice (As k) m.n (Cs k)] 23)).heap.size _) h12
      have HS2 := Lib.hid (HS1.out.keep hb12)
      have HI2 := Lib.hid (HI1.out.keep (Nat.le_refl _) hb12)
      have hc12 : w12.cell? ⟨wo.heap.size, 0, none⟩ = some (.slice (As k) m.n (Cs k)) := block_cell ((hb12.block wo.heap.size (by simp)).trans Hbk.out) 0
      clear h12 hb12 HRF
      go_wp2
      have hcol : ∀ j, j < m.n → (-100 ≤ (sumV (l.take k)).at' j ∧ (sumV (l.take k)).at' j ≤ 100) ∧ -100 ≤ y.at' j ∧ y.at' j ≤ 100 := fun j hj => ⟨at_near HTn.out j (by omega), at_near HYn.out j (by omega)⟩
      have Hcol := Lib.hid hcol
      clear hcol hc12
      go_loopw [90] (fun i wr => ∃ j : Nat, j ≤ m.n ∧ i = .int .i64 j ∧ Summing wb wr m.n (fun i => if i < j then (sumV (l.take k)).at' i + y.at' i else (sumV (l.take k)).at' i)) (fun i _ => m.n - (intOf i).toNat)
      case atStart => exact ⟨0, Nat.zero_le _, rfl, by simpa using HS2.out⟩
      case round =>
        obtain ⟨j, hj, rfl, hSj⟩ := hrel
        obtain ⟨wx, hwx⟩ : ∃ wx : World, wx = wr := ⟨_, rfl⟩
        subst hwx
        have HSj := Lib.hid hSj
        clear hSj
        by_cases hjn : j < m.n
        · have HI3 := Lib.hid ((HMs.out.keep (Nat.le_refl _) HSj.out.below).ints k hlt)
          rw [HYe.out] at HI3
          obtain ⟨b3, o3, ha3, hc3⟩ := HI3.out j hjn
          obtain ⟨g1, g2⟩ := Hcol.out j hjn
          have hcs := HSj.out.sum.cell hjn
          simp only [Nat.lt_irrefl, if_false] at hcs
          have HSn : Hid (Summing wb (wx.setCell ⟨wb.heap.size, j, none⟩ (.int .i64 ((sumV (l.take k)).at' j + y.at' j))) m.n (fun i => if i < j + 1 then (sumV (l.take k)).at' i + y.at' i else (sumV (l.take k)).at' i)) := by
            refine ⟨(HSj.out.sum.set hjn).congr fun i _ => ?_, HSj.out.below.setCell (Nat.le_refl _) _⟩
            by_cases e : i = j
            · subst e; simp
            · simp only [e, if_false]
              by_cases h : i < j
              · rw [if_pos h, if_pos (by omega)]
              · rw [if_neg h, if_neg (by omega)]
          go_wp2
          go_roundw
          case rel => exact ⟨j + 1, by omega, by go_num, HSn.out⟩
          case measure => simp [intOf]; omega
        · have e : j = m.n := by omega
          have HSn : Hid (Summing wb wx m.n (sumV (l.take (k + 1))).at') := by
            refine ⟨HSj.out.sum.congr fun i hi => ?_, HSj.out.below⟩
            rw [HSt.out, addV_at, if_pos (by omega)]
          subst e
          go_wp2
          go_roundw
          case rel => exact ⟨k + 1, by omega, by go_num, HSn.out⟩
          case measure => simp [intOf]; omega
    · have e : k = l.length := by omega
      have HSE : Hid (Summing wb wo m.n X.at') := by
        have := HSm.out
        rw [e, List.take_of_length_le (Nat.le_refl _), HSP.out.sum] at this
        exact this
      subst e
      have HBo : Hid (Below W.heap.size W wo) := HBb.out.trans (HSE.out.below.mono HBb.out.size)
      have hll2 : l.length ≤ 140737488351232 := by omega
      go_wp2_with fail
      refine (table_out _ _ _ _ _ _ _ _ HR.out (HM.out.keep (Nat.le_refl _) HBo.out)).mono ?_
      rintro e w11 ⟨a11, c11, A11, C11, rfl, hM11, hb11⟩
      have HM11 := Lib.hid hM11
      have HS11 := Lib.hid (HSE.out.keep hb11)
      have HB11 : Hid (Below W.heap.size W w11) := HBo.out.trans (hb11.mono HBo.out.size)
      clear hM11 hb11
      go_wp2_with fail
      refine (list_out _ _ _ _ _ Hnc.out (by omega) (HX.out.keep (Nat.le_refl _) HB11.out)).mono ?_
      rintro e w12 ⟨a12, c12, rfl, hX12, hb12⟩
      have HX12 := Lib.hid hX12
      have HM12 := Lib.hid (HM11.out.keep (Nat.le_refl _) hb12)
      have HS12 := Lib.hid (HS11.out.keep hb12)
      have HB12 : Hid (Below W.heap.size W w12) := HB11.out.trans (hb12.mono HB11.out.size)
      clear hX12 hb12
      go_wp2_with fail
      refine (table_out _ _ _ _ _ _ _ _ hll2 (HMs.out.keep (Nat.le_refl _) HS12.out.below)).mono ?_
      rintro e w13 ⟨a13, c13, A13, C13, rfl, hM13, hb13⟩
      have HT13 := Lib.hid hM13
      have HX13 := Lib.hid (HX12.out.keep (Nat.le_refl _) hb13)
      have HM13 := Lib.hid (HM12.out.keep (Nat.le_refl _) hb13)
      have HS13 := Lib.hid (HS12.out.keep hb13)
      have HB13 : Hid (Below W.heap.size W w13) := HB12.out.trans (hb13.mono HB12.out.size)
      clear hM13 hb13
      have HRB := Lib.hid (readBoth_good _ c11 _ _ _ _ _ _ _ c12 _ _ _ _ HM13.out HX13.out HS.out)
      rw [Hmx.out, ← HXe.out] at HRB
      have HCK := Lib.hid (fCheck_core m X _ _ _ c13 _ _ _ _ _ _ HMX.out HXn.out (by omega) HT13.out HRB.out)
      clear HRB
      go_wp2_with fail
      refine HCK.out.mono ?_
      rintro e w14 ⟨F3, hA3, rfl, hb14⟩
      have hFF := HA.out.unique hA3
      subst hFF
      have HS14 := Lib.hid (HS13.out.keep hb14)
      have HB14 : Hid (Below W.heap.size W w14) := HB13.out.trans (hb14.mono HB13.out.size)
      clear hA3 hb14 HCK
      have hck : chkB F m.n (fun _ => min m.n 6) (fun k => (l.getD k Vec.zero).at') X (min l.length 250) = true ∨ 250 < l.length := by
        by_cases h : l.length ≤ 250
        · left
          rw [show min l.length 250 = l.length by omega]
          exact chk_split HMX.out HA.out HSP.out (fun _ _ => by omega) (fun _ _ => rfl)
        · right; omega
      generalize chkB F m.n (fun _ => min m.n 6) (fun k => (l.getD k Vec.zero).at') X (min l.length 250) = r at hck ⊢
      have HEq : Hid (eqN m.n m.n X.at' x = true) := eqN_iff.2 ⟨rfl, fun j hj => by rw [HXe.out, vecN_at hn4 j hj]⟩
      go_wp2_with fail
      refine (equal_r true _ _ _ _ _ _ _ _ _ HEq.out (by omega) (by omega) HS14.out.sum.ints (HX.out.keep (Nat.le_refl _) HB14.out)).mono ?_
      rintro e w15 ⟨rfl, q15, h15⟩
      have HB15 : Hid (Below W.heap.size W w15) := below_drawn HB14.out h15
      clear h15
      cases r
      · have h250 : 250 < l.length := hck.resolve_left (by simp)
        have h250I : (250 : Int) < (l.length : Int) := by omega
        clear hck
        go_wp2_with fail
        refine (awake_any _).mono ?_
        rintro e w16 ⟨rfl, hb16⟩
        have HB16 : Hid (Below W.heap.size W w16) := HB15.out.trans (hb16.mono HB15.out.size)
        clear hb16
        go_wp2
        go_ret
        exact ⟨rfl, HB16.out⟩
      · clear hck
        go_wp2_with fail
        refine (awake_any _).mono ?_
        rintro e w16 ⟨rfl, hb16⟩
        have HB16 : Hid (Below W.heap.size W w16) := HB15.out.trans (hb16.mono HB15.out.size)
        clear hb16
        go_wp2
        go_ret
        exact ⟨rfl, HB16.out⟩

theorem sums_core (a : Option Addr) (cap R : Nat) (A : Nat → Option Addr) (L C : Nat → Nat) (Z : Nat → Nat → Int) (ax : Option Addr) (n cx : Nat) (x : Nat → Int) (W : World)
    (hR : R ≤ 140737488351232) (hM : Mat W a R A L C Z) (hn : n * 8 ≤ 140737488351232) (hnc : n ≤ cx) (hX : Ints W ax n x) :
    Calls Try.prog 10 #[.slice a R cap, .slice ax n cx] W fun e w' => Fine W e w' := by
  cases hS : isVec R L Z n x (-100) 100
  · exact sums_bad a cap R A L C Z ax n cx x W hR hM hn hnc hX hS
  · cases hmv : isMoveB (mxOf R L Z) (vecN x n)
    · exact sums_none a cap R A L C Z ax n cx x W hR hM hn hnc hX hS hmv
    · have e : n = (mxOf R L Z).n := (isVec_iff.1 hS).2.1
      subst e
      exact sums_yes a cap R A L C Z ax cx x W _ rfl hR hM hnc hX hS hmv
end Go.Proofs.Ytaglbnblfhfkeaa
