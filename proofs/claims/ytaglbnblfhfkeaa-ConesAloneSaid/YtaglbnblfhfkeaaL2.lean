import Derived.Test.YtaglbnblfhfkeaaK9
namespace Go.Proofs.Ytaglbnblfhfkeaa
open Go.RowKit

set_option maxHeartbeats 16000000 in
set_option maxRecDepth 100000 in
theorem alone_good (a : Option Addr) (cap R : Nat) (A : Nat → Option Addr) (L C : Nat → Nat) (Z : Nat → Nat → Int) (ax : Option Addr) (n cx : Nat) (x : Nat → Int) (W : World)
    (hR : R ≤ 140737488351232) (hM : Mat W a R A L C Z) (hnc : n ≤ cx) (hX : Ints W ax n x) (hS : isVec R L Z n x 0 6 = true) (hP : ¬ hasPure (mxOf R L Z)) :
    Calls Try.prog 11 #[.slice a R cap, .slice ax n cx] W fun e w' => Fine W e w' := by
  have hv := isVec_iff.1 hS
  have hm := mxOf_ok hv.1
  have hmn : (mxOf R L Z).n = n := hv.2.1.symm
  have hn4 : n ≤ 4 := by have := hm.n4; omega
  have hn1 : 1 ≤ n := by have := hm.n1; omega
  obtain ⟨bx, ox, rfl, _⟩ := hX 0 (by omega)
  have HF : Hid (∀ a1 c1 A1 C1 a2 c2 w, Mat w a1 (min R 250) A1 (fun j => min (L j) 6) C1 Z → Ints w a2 (min n 6) x →
      Calls Try.prog 77 #[.slice a1 ((min R 250 : Nat) : Nat) c1, .slice a2 ((min n 6 : Nat) : Nat) c2] w fun e w' => FamOk (mxOf R L Z) (vecN x n) w e w') :=
    fun a1 c1 A1 C1 a2 c2 w h1 h2 => (fam_good a1 c1 R A1 L C1 Z a2 n c2 x w h1 h2 hS).mono fun e w' h => h.2 hP
  have HT : Hid (∀ y, Fam (mxOf R L Z) (vecN x n) y → ∀ j, j < R → dotN (Z j) x n = dotN (Z j) y.at' n) := fun y h => same_times hv.1 hv.2.1 hm h
  have HTx : Hid (Tame R n L Z x) := by
    have h2 := isMat_iff.1 hv.1
    have h3 := allIn_iff.1 hv.2.2
    refine ⟨by omega, hn4, fun j hj => ?_, fun j hj i hi => ?_, fun i hi => ?_⟩
    · have := h2.2.2 j hj; omega
    · have := h2.2.2 j hj; exact this.2.2.2 i (by omega)
    · have := h3 i hi; omega
  have HSm : Hid (∀ y, Fam (mxOf R L Z) (vecN x n) y → Vec.norm y ≤ 720) := fun y h => h.small hm (by rw [hmn]; exact vecN_cols) (vecN_whole hv.2.2) (norm_24 hn4 hv.2.2) (fun b h1 h2 => hP ⟨b, h1, h2⟩)
  have HXb : Hid (∀ j, j < n → 0 ≤ x j ∧ x j ≤ 6) := allIn_iff.1 hv.2.2
  have HW : Hid (Whole (vecN x n)) := vecN_whole hv.2.2
  have HX0 : Hid (Fam (mxOf R L Z) (vecN x n) (vecN x n)) := Fam.self (by rw [hmn]; exact vecN_cols) (vecN_whole hv.2.2)
  have HV := Lib.hid hv.1
  generalize hmx : mxOf R L Z = m at hm hmn HF HT HSm HX0
  have Hmx := Lib.hid hmx
  have HMX := Lib.hid hm
  have Hmn := Lib.hid hmn
  have HM := Lib.hid hM
  have HR := Lib.hid hR
  have HX := Lib.hid hX
  have Hnc := Lib.hid hnc
  have HS := Lib.hid hS
  have EG : Hid (∀ args w, (callFunc 54 args).run Try.prog w = .ok (.enter 54 args) w) := enters_of Try.func54 (by kernel_rfl) rfl
  clear hM hR hX hnc hS hP hv hm hmn hmx
  have HB0 := Lib.hid (BoxAt.start W (some ⟨bx, ox, none⟩) n cx)
  have q0 := HB0.out.cell
  have hs0 := HB0.out.lt
  go_enter Try.func11, Try.ntmps11
  go_upto_region 1 with fail
  go_cut [5, 6] (fun s5 s6 wx => ∃ a' c' l, s5 = .slice a' l.length c' ∧ s6 = .int .i64 0 ∧ VL wx a' n l ∧ IsFam m (vecN x n) l ∧ l.length ≤ 270234665281 ∧ BoxAt W wx (some ⟨bx, ox, none⟩) n cx)
  case first =>
    go_region_with (first
      | (go_at_call 16; refine (table_out _ _ _ _ _ _ _ _ HR.out (HM.out.keep (Nat.le_refl _) HB0.out.drew.below)).mono ?_; rintro e w1 ⟨a1, c1, A1, C1, rfl, hM1, hb1⟩; have HM1 := Lib.hid hM1; have HB1 := Lib.hid (HB0.out.drew.keep hb1); have q1 := HB1.out.cell; have hs1 := HB1.out.lt; clear hM1 hb1)
      | (go_at_call 17; refine (list_out _ _ _ _ _ Hnc.out (by omega) (HX.out.keep (Nat.le_refl _) HB1.out.below)).mono ?_; rintro e w2 ⟨a2, c2, rfl, hX2, hb2⟩; have HX2 := Lib.hid hX2; have HM2 := Lib.hid (HM1.out.keep (Nat.le_refl _) hb2); have HB2 := Lib.hid (HB1.out.keep hb2); clear hX2 hb2)
      | (go_at_call 35; refine (fFamily_yes m (vecN x n) _ _ _ (by rw [Hmn.out]; omega) (HF.out _ _ _ _ _ _ _ HM2.out HX2.out)).mono ?_; rintro e w3 ⟨a3, c3, l, rfl, hVL, hI, hlen, hb3⟩; rw [Hmn.out] at hVL; have HVL := Lib.hid hVL; have HI := Lib.hid hI; have HLen := Lib.hid hlen; have HB3 := Lib.hid (HB2.out.keep hb3); clear hVL hI hlen hb3))
    all_goals go_wp2
    all_goals go_meet
    all_goals exact ⟨a3, c3, l, rfl, rfl, HVL.out, HI.out, HLen.out, HB3.out⟩
  case rest =>
    obtain ⟨a3, c3, l, rfl, rfl, hVL, hI, hlen, hB3⟩ := hcut
    have HB3 := Lib.hid hB3
    have HVL := Lib.hid hVL
    have HI := Lib.hid hI
    have q3 := HB3.out.cell
    have hs3 := HB3.out.lt
    clear hB3 q0 hVL hI
    go_upto_region 2 with fail
    go_cut [7, 8] (fun s7 s8 wx => s7 = .int .i64 (l.length : Int) ∧ s8 = .int .i64 0 ∧ VL wx a3 n l ∧ BoxAt W wx (some ⟨bx, ox, none⟩) n cx)
    case first =>
      go_region_with (first
        | (go_at_call 16; refine (table_out _ _ _ _ _ _ _ _ HR.out (HM.out.keep (Nat.le_refl _) HB3.out.drew.below)).mono ?_; rintro e w1 ⟨a1, c1, A1, C1, rfl, hM1, hb1⟩; have HM1 := Lib.hid hM1; have HB1 := Lib.hid (HB3.out.drew.keep hb1); have HVL1 := Lib.hid ((HVL.out.keep (Nat.le_refl _) (Below.refl _ _).drew).keep (Nat.le_refl _) hb1); have q1 := HB1.out.cell; have hs1 := HB1.out.lt; clear hM1 hb1)
        | (go_at_call 17; refine (list_out _ _ _ _ _ Hnc.out (by omega) (HX.out.keep (Nat.le_refl _) HB1.out.below)).mono ?_; rintro e w2 ⟨a2, c2, rfl, hX2, hb2⟩; have HX2 := Lib.hid hX2; have HM2 := Lib.hid (HM1.out.keep (Nat.le_refl _) hb2); have HB2 := Lib.hid (HB1.out.keep hb2); have HVL2 := Lib.hid (HVL1.out.keep (Nat.le_refl _) hb2); clear hX2 hb2)
        | (go_at_call 36; refine (fCount_yes m (vecN x n) _ _ _ (HF.out _ _ _ _ _ _ _ HM2.out HX2.out)).mono ?_; rintro e w4 ⟨l', rfl, hI', hb4⟩; have he := HI.out.unique hI'; subst he; have HB4 := Lib.hid (HB2.out.keep hb4); have HVL4 := Lib.hid (HVL2.out.keep (Nat.le_refl _) hb4); clear hb4 hI'))
      all_goals go_wp2
      all_goals go_meet
      all_goals exact ⟨rfl, rfl, HVL4.out, HB4.out⟩
    case rest =>
      obtain ⟨rfl, rfl, hVL, hB4⟩ := hcut
      have HB4 := Lib.hid hB4
      have HVL4 := Lib.hid hVL
      have q4 := HB4.out.cell
      have hs4 := HB4.out.lt
      clear hB4 q3 hVL
      go_wp2_with fail
      refine (rvector_r true _ _ _ _ _ _ _ _ _ _ _ _ _ _ HS.out HR.out (HM.out.keep (Nat.le_refl _) HB4.out.below) (by omega) (HX.out.keep (Nat.le_refl _) HB4.out.below)).mono ?_
      rintro e w5 ⟨rfl, rfl⟩
      go_wp2_with fail
      refine (table_out _ _ _ _ _ _ _ _ HR.out (HM.out.keep (Nat.le_refl _) HB4.out.below)).mono ?_
      rintro e w6 ⟨a6, c6, A6, C6, rfl, hM6, hb6⟩
      have HM6 := Lib.hid hM6
      have HB6 := Lib.hid (HB4.out.keep hb6)
      have HVL6 := Lib.hid (HVL4.out.keep (Nat.le_refl _) hb6)
      clear hM6 hb6
      go_wp2_with fail
      refine (fBasic_tab _ _ _ _ _ _ _ _ HM6.out HV.out).mono ?_
      rw [Hmx.out]
      rintro e w7 ⟨ab, cb, F, rfl, hVLb, hA, hb7⟩
      have HA := Lib.hid hA
      have HB7 := Lib.hid (HB6.out.keep hb7)
      have HVL7 := Lib.hid (HVL6.out.keep (Nat.le_refl _) hb7)
      rw [Hmn.out] at hVLb
      have HVb := Lib.hid hVLb
      have q7 := HB7.out.cell
      have hs7 := HB7.out.lt
      have hF400 : F.length ≤ 400 := few400 HMX.out hA.nodup (fun v hv => (hA.mem v).1 hv)
      clear hb7 hA hVLb q4
      obtain ⟨Af, Cf, hMf⟩ := HVL7.out
      have HMf := Lib.hid hMf
      have HXl := Lib.hid ((HI.out.mem _).2 HX0.out)
      clear hMf
      go_wp2_with fail
      refine (containsII_r true 54 #[.pointer (some ⟨W.heap.size, 0, none⟩)] (fun j => eqN n n x (l.getD j Vec.zero).at') _ _ _ _ _ _ _ _ (someP_x hn4 HXl.out) (by omega) HMf.out EG.out (fun j hj q => aloneClo W.heap.size _ (Af j) n cx n (Cf j) _ _ _ q HB7.out.box (by omega) (by omega) (HX.out.keep (Nat.le_refl _) HB7.out.below) (HMf.out.ints j hj))).mono ?_
      rintro e w8 ⟨rfl, q8, h8⟩
      have hb8 := below_drawn (Below.refl w7.heap.size w7) h8
      have HB8 := Lib.hid (HB7.out.keep hb8)
      have HMf8 := Lib.hid (HMf.out.keep (Nat.le_refl _) hb8)
      have HVb8 := Lib.hid (HVb.out.keep (Nat.le_refl _) hb8)
      clear h8 hb8 q7
      obtain ⟨p, hp⟩ : ∃ p : Nat → Bool, p = fun t => okP n x (F.getD t Vec.zero).at' := ⟨_, rfl⟩
      have HPp : Hid (∀ t, p t = okP n x (F.getD t Vec.zero).at') := fun t => by rw [hp]
      have HL : Hid (someP F.length p = decide (1 < l.length)) := by rw [hp]; exact leads_some Hmn.out hn1 hn4 HA.out HI.out HW.out
      clear hp
      have HXI8 := Lib.hid (HX.out.keep (Nat.le_refl _) HB8.out.below)
      have HM8 := Lib.hid (HM.out.keep (Nat.le_refl _) HB8.out.below)
      have q8' := HB8.out.cell
      have hs8 := HB8.out.lt
      go_wp2
      clear q8' hs8
      go_loopw [83] (fun i wr => ∃ k : Nat, k ≤ l.length ∧ i = .int .i64 k ∧ Below w8.heap.size w8 wr) (fun i _ => l.length - (intOf i).toNat)
      case atStart => exact ⟨0, Nat.zero_le _, rfl, Below.refl _ _⟩
      case round =>
        obtain ⟨k, hk, rfl, hb⟩ := hrel
        obtain ⟨wo, hwo⟩ : ∃ wo : World, wo = wr := ⟨_, rfl⟩
        subst hwo
        have HBo := Lib.hid hb
        have HBX := Lib.hid (HB8.out.keep hb)
        have qx := HBX.out.cell
        have hsx := HBX.out.lt
        clear hb
        by_cases hlt : k < l.length
        · have HMo := Lib.hid (HMf8.out.keep (Nat.le_refl _) HBo.out)
          obtain ⟨b, o, rfl, hck⟩ := HMo.out.row k hlt
          have HI1 := Lib.hid (HMo.out.ints k hlt)
          obtain ⟨bk, ok, hak, _⟩ := HI1.out 0 (by omega)
          rw [hak] at HI1 hck
          have HFk := Lib.hid ((HI.out.mem _).1 (getD_mem hlt))
          have HN := Lib.hid (allIn_fam hn4 HFk.out.whole (HSm.out _ HFk.out))
          have HTy : Hid (Tame R n L Z (l.getD k Vec.zero).at') := ⟨HTx.out.rows, hn4, HTx.out.each, HTx.out.low, fun i hi => by have := allIn_iff.1 HN.out i hi; omega⟩
          have HEq : Hid (eqN R R (fun j => dotN (Z j) x n) (fun j => dotN (Z j) (l.getD k Vec.zero).at' n) = true) := eqN_iff.2 ⟨rfl, HT.out _ HFk.out⟩
          go_upto_region 11 with fail
          go_cut [121] (fun s wx => s = .bool false ∧ Below w8.heap.size w8 wx)
          case first =>
            go_wp2_with fail
            refine (numbers_r true _ _ _ _ _ _ _ HN.out (by omega) HI1.out).mono ?_
            rintro e w9 ⟨rfl, rfl⟩
            go_wp2_with fail
            refine (rtimes_any _ _ _ _ _ _ _ _ _ _ _ _ (HM8.out.keep (Nat.le_refl _) HBo.out) (HXI8.out.keep (Nat.le_refl _) HBo.out) HTx.out).mono ?_
            rintro e w9 ⟨ap, cp, rfl, hO9, hb9⟩
            have HP9 := Lib.hid hO9.ints
            have HB9 : Hid (Below w8.heap.size w8 w9) := HBo.out.trans (hb9.mono HBo.out.size)
            have HI9 := Lib.hid (HI1.out.keep (Nat.le_refl _) hb9)
            clear hO9 hb9
            go_wp2_with fail
            refine (rtimes_any _ _ _ _ _ _ _ _ _ _ _ _ (HM8.out.keep (Nat.le_refl _) HB9.out) HI9.out HTy.out).mono ?_
            rintro e w10 ⟨ap2, cp2, rfl, hO10, hb10⟩
            have HP10 := Lib.hid hO10.ints
            have HP9' := Lib.hid (HP9.out.keep (Nat.le_refl _) hb10)
            have HB10 : Hid (Below w8.heap.size w8 w10) := HB9.out.trans (hb10.mono HB9.out.size)
            clear hO10 hb10
            go_wp2_with fail
            refine (equal_r true _ _ _ _ _ _ _ _ _ HEq.out (by have := HTx.out.rows; omega) (by have := HTx.out.rows; omega) HP9'.out HP10.out).mono ?_
            rintro e w11 ⟨rfl, q11, h11⟩
            have HB11 : Hid (Below w8.heap.size w8 w11) := below_drawn HB10.out h11
            clear h11
            by_cases h0 : k = 0
            · have h0I : (k : Int) ≤ 0 := by omega
              clear h0
              go_wp2
              go_meet
              exact ⟨rfl, HB11.out⟩
            · obtain ⟨k', rfl⟩ : ∃ k', k = k' + 1 := ⟨k - 1, by omega⟩
              have HM11 := Lib.hid (HMf8.out.keep (Nat.le_refl _) HB11.out)
              obtain ⟨b2, o2, he, hck2⟩ := HM11.out.row k' (by omega)
              cases he
              have HI2 := Lib.hid (HM11.out.ints k' (by omega))
              have HI3 := Lib.hid (HM11.out.ints (k' + 1) hlt)
              rw [hak] at HI3
              have hf2 : Fam m (vecN x n) (l.getD k' Vec.zero) := (HI.out.mem _).1 (getD_mem (by omega))
              have hc2 := hf2.cols
              have hc3 := HFk.out.cols
              rw [Hmn.out] at hc2 hc3
              have HC2 := Lib.hid hc2
              have HC3 := Lib.hid hc3
              have HLt := Lib.hid (HI.out.rises (Nat.lt_succ_self k') hlt)
              clear h0 hf2 hc2 hc3
              go_wp2_with fail
              refine (compare_any _ _ _ _ _ _ _ _ _ (by omega) (by omega) HI2.out HI3.out).mono ?_
              rintro e w12 ⟨r, hr, rfl, rfl⟩
              have hr1 := cmp_lt hn1 hn4 HC2.out HC3.out hr HLt.out
              subst hr1
              clear hr
              go_wp2
              go_meet
              exact ⟨rfl, HB11.out⟩
          case rest =>
            obtain ⟨rfl, hb⟩ := hcut
            go_wp2
            go_roundw
            case rel => exact ⟨k + 1, by omega, by go_num, hb⟩
            case measure => simp [intOf]; omega
        · have e : k = l.length := by omega
          subst e
          have HVo := Lib.hid (HVb8.out.keep (Nat.le_refl _) HBo.out)
          obtain ⟨Ab, Cb, hMb⟩ := HVo.out
          have HMb := Lib.hid hMb
          have HXo := Lib.hid (HXI8.out.keep (Nat.le_refl _) HBo.out)
          clear hMb
          go_wp2
          go_loop [13, 125] (fun s i => ∃ j : Nat, j ≤ F.length ∧ i = .int .i64 j ∧ s = .bool (someP j p)) (fun _ i => F.length - (intOf i).toNat)
          case atStart => exact ⟨0, Nat.zero_le _, rfl, by rw [someP_no fun j hj => absurd hj (Nat.not_lt_zero _)]⟩
          case round =>
            obtain ⟨j, hj, rfl, rfl⟩ := hrel
            by_cases hjn : j < F.length
            · obtain ⟨b4, o4, rfl, hc4⟩ := HMb.out.row j hjn
              have HIj := Lib.hid (HMb.out.ints j hjn)
              obtain ⟨bk, ok, hak, _⟩ := HIj.out 0 (by omega)
              rw [hak] at HIj hc4
              have hbas : Basic m (F.getD j Vec.zero) := (HA.out.mem _).1 (getD_mem hjn)
              have HYn : Hid (near 100 (F.getD j Vec.zero)) := near_29 (basic_norm HMX.out hbas)
              have HYb : Hid (∀ t, t < n → -100 ≤ (F.getD j Vec.zero).at' t ∧ (F.getD j Vec.zero).at' t ≤ 100) := fun t ht => at_near HYn.out t (by omega)
              have HPj := Lib.hid (HPp.out j)
              have HSu := Lib.hid (someP_succ j p)
              clear hbas HYn
              generalize (F.getD j Vec.zero).at' = y at HIj HPj HYb
              go_wp2
              go_loop [16, 136] (fun s i => ∃ t : Nat, t ≤ n ∧ i = .int .i64 t ∧ s = .bool (okP t x y)) (fun _ i => n - (intOf i).toNat)
              case atStart => exact ⟨0, Nat.zero_le _, rfl, by simp [okP]⟩
              case round =>
                obtain ⟨t, ht, rfl, rfl⟩ := hrel
                by_cases htn : t < n
                · obtain ⟨b5, o5, he5, hc5⟩ := HIj.out t htn
                  cases he5
                  obtain ⟨b6, o6, he6, hc6⟩ := HXo.out t htn
                  cases he6
                  have hb1 := HXb.out t htn
                  have hb2 := HYb.out t htn
                  have HSt := Lib.hid (okP_succ t x y)
                  cases ho : okP t x y
                  · have HO := Lib.hid ho
                    clear ho
                    go_wp2
                    go_round
                    case rel => exact ⟨t + 1, by omega, by go_num, by rw [HSt.out, HO.out]; rfl⟩
                    case measure => simp [intOf]; omega
                  · have HO := Lib.hid ho
                    clear ho
                    by_cases hz : 0 ≤ x t + y t
                    · go_wp2
                      go_round
                      case rel => exact ⟨t + 1, by omega, by go_num, by rw [HSt.out, HO.out]; simp [hz]⟩
                      case measure => simp [intOf]; omega
                    · have hz2 : x t + y t < 0 := by omega
                      go_wp2
                      go_round
                      case rel => exact ⟨t + 1, by omega, by go_num, by rw [HSt.out, HO.out]; simp [hz]⟩
                      case measure => simp [intOf]; omega
                · have e : t = n := by omega
                  subst e
                  cases hs : someP j p
                  · have HSs := Lib.hid hs
                    clear hs
                    go_wp2
                    go_round
                    case rel => exact ⟨j + 1, by omega, by go_num, by rw [HSu.out, HSs.out, HPj.out]; simp⟩
                    case measure => simp [intOf]; omega
                  · have HSs := Lib.hid hs
                    clear hs
                    go_wp2
                    go_round
                    case rel => exact ⟨j + 1, by omega, by go_num, by rw [HSu.out, HSs.out]; rfl⟩
                    case measure => simp [intOf]; omega
            · have e : j = F.length := by omega
              subst e
              rw [HL.out]
              by_cases h1 : 1 < l.length
              · have h1I : (1 : Int) < (l.length : Int) := by omega
                rw [decide_eq_true h1]
                go_wp2_with fail
                refine (awake_any _).mono ?_
                rintro e w12 ⟨rfl, hb12⟩
                have HB12 := Lib.hid (HBX.out.keep hb12).below
                clear hb12
                go_wp2
                go_ret
                exact ⟨rfl, HB12.out⟩
              · have h1I : (l.length : Int) ≤ 1 := by omega
                rw [decide_eq_false h1]
                go_wp2_with fail
                refine (awake_any _).mono ?_
                rintro e w12 ⟨rfl, hb12⟩
                have HB12 := Lib.hid (HBX.out.keep hb12).below
                clear hb12
                go_wp2
                go_ret
                have h1J : decide ((1 : Int) < (l.length : Int)) = false := decide_eq_false (by omega)
                exact ⟨by show Ending.returned (.bool (!decide ((1 : Int) < (l.length : Int)))) = _; rw [h1J]; rfl, HB12.out⟩
end Go.Proofs.Ytaglbnblfhfkeaa

namespace Go.Proofs.Ytaglbnblfhfkeaa
open Go.RowKit

theorem alone_core (a : Option Addr) (cap R : Nat) (A : Nat → Option Addr) (L C : Nat → Nat) (Z : Nat → Nat → Int) (ax : Option Addr) (n cx : Nat) (x : Nat → Int) (W : World)
    (hR : R ≤ 140737488351232) (hM : Mat W a R A L C Z) (hn : n * 8 ≤ 140737488351232) (hnc : n ≤ cx) (hX : Ints W ax n x) :
    Calls Try.prog 11 #[.slice a R cap, .slice ax n cx] W fun e w' => Fine W e w' := by
  cases hS : isVec R L Z n x 0 6
  · exact alone_fail 2 (Or.inl rfl) a cap R A L C Z ax n cx x W hR hM hn hnc hX fun a1 c1 A1 C1 a2 c2 w h1 h2 => fam_bad a1 c1 R A1 L C1 Z a2 n c2 x w hR (by omega) h1 h2 hS
  · by_cases hP : hasPure (mxOf R L Z)
    · exact alone_fail 5 (Or.inr rfl) a cap R A L C Z ax n cx x W hR hM hn hnc hX fun a1 c1 A1 C1 a2 c2 w h1 h2 => (fam_good a1 c1 R A1 L C1 Z a2 n c2 x w h1 h2 hS).mono fun _ _ h => h.1 hP
    · exact alone_good a cap R A L C Z ax n cx x W hR hM hnc hX hS hP
end Go.Proofs.Ytaglbnblfhfkeaa
