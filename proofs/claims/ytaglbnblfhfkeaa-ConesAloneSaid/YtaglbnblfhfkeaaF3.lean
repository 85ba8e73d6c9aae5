import Derived.Test.YtaglbnblfhfkeaaF2
namespace Go.Proofs.Ytaglbnblfhfkeaa
open Go.RowKit

theorem AllBasic.unique {m : Mx} {F G : List Vec} (h : AllBasic m F) (k : AllBasic m G) : F = G :=
  List.Perm.eq_of_pairwise (le := ltV) (fun a _ _ _ h1 h2 => absurd (ltV_trans h1 h2) (ltV_irrefl a)) h.sorted k.sorted
    ((List.perm_ext_iff_of_nodup h.nodup k.nodup).2 fun a => (h.mem a).trans (k.mem a).symm)

theorem own_form {w : World} {base n : Nat} {e : TypeId} {size : Nat} {v : Value} {xs : List Value} (h : w.ownsRow base e size v n xs) : ∃ a cap, v = .slice a n cap := by
  rcases h.2 with ⟨rfl, hn⟩ | ⟨g, cap, cur, rfl, _⟩
  · subst hn; exact ⟨_, _, rfl⟩
  · exact ⟨_, _, rfl⟩
theorem below_drawn {B : Nat} {w w' : World} (h : Below B w w') {w'' : World} {q : Nat} (e : w'' = w'.drewN q) : Below B w w'' := by rw [e]; exact below_drewN h q

theorem getD_mem {F : List Vec} {k : Nat} (h : k < F.length) : F.getD k Vec.zero ∈ F := by
  rw [List.getD_eq_getElem?_getD, List.getElem?_eq_getElem h]; exact List.getElem_mem h

theorem pick_row {A : Nat → Option Addr} {n : Nat} {C : Nat → Nat} {F : List Vec} {k : Nat} : ((places F (k + 1)).map fun j => Value.slice (A j) n (C j)) = if Whole (F.getD k Vec.zero) then ((places F k).map fun j => Value.slice (A j) n (C j)) ++ [.slice (A k) n (C k)] else (places F k).map fun j => Value.slice (A j) n (C j) := by
  rw [places_succ]; split <;> simp

theorem purClo' (b : Nat) (ay az : Option Addr) (ny cy nz cz : Nat) (y z : Nat → Int) (w : World) (q : Nat) (hb : w.heap[b]? = some (.cells #[.slice ay ny cy] 23)) (hn : ny ≤ 140737488351232) (hz : nz ≤ 140737488351232) (hy : Ints w ay ny y) (hzz : Ints w az nz z) :
    Calls Try.prog 57 (#[.slice az nz cz] ++ #[.pointer (some ⟨b, 0, none⟩)]) (w.drewN q) fun e w' => Drawn (eqN ny nz y z) w e w' :=
  (purClo b ay az ny cy nz cz y z (w.drewN q) hb hn hz (ints_drewN hy q) (ints_drewN hzz q)).mono fun _ _ ⟨he, q2, hw⟩ => ⟨he, q + q2, by rw [hw, World.drewN_drewN]⟩

/-- What the law gives. -/
def Fine (W : World) (e : Ending) (w' : World) : Prop := e = .returned (.bool true) ∧ Below W.heap.size W w'

set_option maxHeartbeats 4000000 in
set_option maxRecDepth 100000 in
theorem pure_bad (a : Option Addr) (cap R : Nat) (A : Nat → Option Addr) (L C : Nat → Nat) (Z : Nat → Nat → Int) (ax : Option Addr) (n cx : Nat) (W : World)
    (hR : R ≤ 140737488351232) (hM : Mat W a R A L C Z) (hV : isMat R L Z = false) :
    Calls Try.prog 14 #[.slice a R cap, .slice ax n cx] W fun e w' => Fine W e w' := by
  have HM := Lib.hid hM
  have HR := Lib.hid hR
  have HV := Lib.hid hV
  clear hM hR hV
  go_enter Try.func14, Try.ntmps14
  go_wp2_with fail
  refine (table_out _ _ _ _ _ _ _ _ HR.out HM.out).mono ?_
  rintro e w1 ⟨a1, c1, A1, C1, rfl, hM1, hb1⟩
  have HM1 := Lib.hid hM1
  have HB1 := Lib.hid hb1
  clear hM1 hb1
  go_wp2_with fail
  refine (fBasic_no _ _ _ _ _ _ _ _ (by omega) HM1.out (by rw [isMat_cut]; exact HV.out)).mono ?_
  rintro e w2 ⟨rfl, hb2⟩
  have HB2 : Hid (Below W.heap.size W w2) := HB1.out.trans (hb2.mono HB1.out.size)
  clear hb2
  go_wp2_with fail
  refine (table_out _ _ _ _ _ _ _ _ HR.out (HM.out.keep (Nat.le_refl _) HB2.out)).mono ?_
  rintro e w3 ⟨a3, c3, A3, C3, rfl, hM3, hb3⟩
  have HM3 := Lib.hid hM3
  have HB3 : Hid (Below W.heap.size W w3) := HB2.out.trans (hb3.mono HB2.out.size)
  clear hM3 hb3
  go_wp2_with fail
  refine (fPure_no _ _ _ _ _ _ _ _ (by omega) HM3.out (by rw [isMat_cut]; exact HV.out)).mono ?_
  rintro e w4 ⟨rfl, hb4⟩
  have HB4 : Hid (Below W.heap.size W w4) := HB3.out.trans (hb4.mono HB3.out.size)
  clear hb4
  go_wp2_with fail
  refine (awake_any _).mono ?_
  rintro e w5 ⟨rfl, hb5⟩
  have HB5 : Hid (Below W.heap.size W w5) := HB4.out.trans (hb5.mono HB4.out.size)
  clear hb5
  go_wp2
  go_ret
  exact ⟨rfl, HB5.out⟩

set_option maxHeartbeats 8000000 in
set_option maxRecDepth 100000 in
theorem pure_good (a : Option Addr) (cap R : Nat) (A : Nat → Option Addr) (L C : Nat → Nat) (Z : Nat → Nat → Int) (ax : Option Addr) (n cx : Nat) (x : Nat → Int) (W : World)
    (hR : R ≤ 140737488351232) (hM : Mat W a R A L C Z) (hn : n * 8 ≤ 140737488351232) (hnc : n ≤ cx) (hX : Ints W ax n x) (hV : isMat R L Z = true) :
    Calls Try.prog 14 #[.slice a R cap, .slice ax n cx] W fun e w' => Fine W e w' := by
  have hm := mxOf_ok hV
  have hLn : (mxOf R L Z).n = L 0 := rfl
  have HLn := Lib.hid hLn
  have HM := Lib.hid hM
  have HR := Lib.hid hR
  have HV := Lib.hid hV
  have HX := Lib.hid hX
  have Hn := Lib.hid hn
  have Hnc := Lib.hid hnc
  clear hM hR hV hX hn hnc hLn
  generalize hmx : mxOf R L Z = m at hm HLn
  have Hmx := Lib.hid hmx
  have HMX := Lib.hid hm
  have hn4 := hm.n4
  have hn1 := hm.n1
  clear hmx hm
  go_enter Try.func14, Try.ntmps14
  go_wp2_with fail
  refine (table_out _ _ _ _ _ _ _ _ HR.out HM.out).mono ?_
  rintro e w1 ⟨a1, c1, A1, C1, rfl, hM1, hb1⟩
  have HM1 := Lib.hid hM1
  have HB1 := Lib.hid hb1
  clear hM1 hb1
  go_wp2_with fail
  refine (fBasic_tab _ _ _ _ _ _ _ _ HM1.out HV.out).mono ?_
  rw [Hmx.out]
  rintro e w2 ⟨ab, cb, F, rfl, hVLb, hA, hb2⟩
  have HA := Lib.hid hA
  have HVLb := Lib.hid hVLb
  have HB2 : Hid (Below W.heap.size W w2) := HB1.out.trans (hb2.mono HB1.out.size)
  clear hb2 hA hVLb
  go_wp2_with fail
  refine (table_out _ _ _ _ _ _ _ _ HR.out (HM.out.keep (Nat.le_refl _) HB2.out)).mono ?_
  rintro e w3 ⟨a3, c3, A3, C3, rfl, hM3, hb3⟩
  have HM3 := Lib.hid hM3
  have HVL3 := Lib.hid (HVLb.out.keep (Nat.le_refl _) hb3)
  have HB3 : Hid (Below W.heap.size W w3) := HB2.out.trans (hb3.mono HB2.out.size)
  clear hM3 hb3
  go_wp2_with fail
  refine (fPure_tab _ _ _ _ _ _ _ _ HM3.out HV.out).mono ?_
  rw [Hmx.out]
  rintro e w4 ⟨ap, cp, F', rfl, hVLp, hA', hb4⟩
  have hFF := HA.out.unique hA'
  subst hFF
  have HVLp := Lib.hid hVLp
  have HVL4 := Lib.hid (HVL3.out.keep (Nat.le_refl _) hb4)
  have HB4 : Hid (Below W.heap.size W w4) := HB3.out.trans (hb4.mono HB3.out.size)
  clear hb4 hA' hVLp
  go_wp2_with fail
  refine (rmatrix_r true _ _ _ _ _ _ _ _ HV.out HR.out (HM.out.keep (Nat.le_refl _) HB4.out)).mono ?_
  rintro e w5 ⟨rfl, rfl⟩
  have hFl : F.length ≤ 12117361 := HA.out.few HMX.out
  have hPl : (pureOf F).length ≤ 12117361 := Nat.le_trans pureOf_len hFl
  obtain ⟨Ab, Cb, hMb⟩ := HVL4.out
  have HMb := Lib.hid hMb
  clear hMb
  go_wp2
  go_loopw [9, 50] (fun v i wr => ∃ k : Nat, k ≤ F.length ∧ i = .int .i64 k ∧ wr.ownsRow w4.heap.size 23 1 v (places F k).length ((places F k).map fun j => .slice (Ab j) m.n (Cb j)) ∧ Below w4.heap.size w4 wr) (fun _ i _ => F.length - (intOf i).toNat)
  case atStart => exact ⟨0, Nat.zero_le _, rfl, World.ownsRow_nil _ _ _ _, Below.refl _ _⟩
  case round =>
    obtain ⟨k, hk, rfl, hO, hb⟩ := hrel
    have HO := Lib.hid hO
    have HB := Lib.hid hb
    clear hO hb
    by_cases hlt : k < F.length
    · obtain ⟨b, o, rfl, hck⟩ := (HMb.out.keep (Nat.le_refl _) HB.out).row k hlt
      have HI := Lib.hid ((HMb.out.keep (Nat.le_refl _) HB.out).ints k hlt)
      have HY : Hid (allIn (F.getD k Vec.zero).at' m.n 0 1000 = decide (Whole (F.getD k Vec.zero))) := whole_allIn HMX.out ((HA.out.mem _).1 (getD_mem hlt))
      have hpl := places_len F k
      have HPR := Lib.hid (pick_row (A := Ab) (n := m.n) (C := Cb) (F := F) (k := k))
      have HPL := Lib.hid (places_succ F k)
      by_cases hw : Whole (F.getD k Vec.zero)
      · have HW := Lib.hid hw
        clear hw
        go_wp2_with fail
        refine (numbers_r true _ _ _ _ _ _ _ (by rw [HY.out]; simpa using HW.out) (by omega) HI.out).mono ?_
        rintro e w6 ⟨rfl, rfl⟩
        have hsz := HB.out.size
        obtain ⟨i0, hi, hz0, hz1, hz2⟩ := info_parts Try.info23
        go_wp2_with (at_builtin; refine wpList_append_own _ rfl _ _ 22 rfl w4.heap.size 23 i0 (.slice none 0 0) 1 24 Try.underlying22 hi hz0 hz1 hz2 rfl (by decide) _ _ _ rfl (HO.out.alloc _) ⟨wr.heap.size, 0, none⟩ 1 1 [.slice (Ab k) m.n (Cb k)] rfl rfl (one_new _ _ _) (one_ok _ rfl) (by unfold maxLen; omega) (by omega) (by simp; omega) ?_)
        intro v' w7 hown hgrow _
        have HO7 : Hid (w7.ownsRow w4.heap.size 23 1 v' (places F (k + 1)).length ((places F (k + 1)).map fun j => .slice (Ab j) m.n (Cb j))) := by
          simp only [Hid]
          rw [HPR.out, HPL.out, if_pos HW.out, if_pos HW.out, List.length_append]
          exact hown
        have HB7 : Hid (Below w4.heap.size w4 w7) := (HB.out.alloc (by omega) _).grown hgrow (by simp; omega) (fun k hk => (HO.out.lt k hk).1)
        clear hown hgrow
        go_wp2
        go_roundw
        case rel => exact ⟨k + 1, by omega, by go_num, HO7.out, HB7.out⟩
        case measure => simp [intOf]; omega
      · have HW := Lib.hid hw
        clear hw
        have HO7 : Hid (wr.ownsRow w4.heap.size 23 1 u9 (places F (k + 1)).length ((places F (k + 1)).map fun j => .slice (Ab j) m.n (Cb j))) := by
          simp only [Hid]
          rw [HPR.out, HPL.out, if_neg HW.out, if_neg HW.out]
          exact HO.out
        go_wp2_with fail
        refine (numbers_r false _ _ _ _ _ _ _ (by rw [HY.out]; simpa using HW.out) (by omega) HI.out).mono ?_
        rintro e w6 ⟨rfl, rfl⟩
        go_wp2
        go_roundw
        case rel => exact ⟨k + 1, by omega, by go_num, HO7.out, HB.out⟩
        case measure => simp [intOf]; omega
    · have e : k = F.length := by omega
      subst e
      obtain ⟨aw, cw, rfl⟩ := own_form HO.out
      have HW1 := Lib.hid (wantMat HO.out HMb.out HB.out)
      obtain ⟨Ap, Cp, hMp⟩ := HVLp.out.keep (Nat.le_refl _) HB.out
      have HMp := Lib.hid hMp
      have hpl := places_len F F.length
      have HBw : Hid (Below W.heap.size W wr) := HB4.out.trans (HB.out.mono HB4.out.size)
      clear hMp
      go_wp2_with fail
      refine (equalII_r true _ _ _ _ _ _ _ _ _ _ _ _ _ _ _ want_same (by omega) (by omega) HMp.out HW1.out (fun _ _ => by omega) (fun _ _ => by omega)).mono ?_
      rintro e w7 ⟨rfl, q7, h7⟩
      have HB7 : Hid (Below W.heap.size W w7) := below_drawn HBw.out h7
      have HVL7 : Hid (VL w7 ap m.n (pureOf F)) := by rw [Hid, h7]; exact ⟨Ap, Cp, mat_drewN HMp.out q7⟩
      clear h7
      go_wp2_with fail
      refine (table_out _ _ _ _ _ _ _ _ HR.out (HM.out.keep (Nat.le_refl _) HB7.out)).mono ?_
      rintro e w8 ⟨a8, c8, A8, C8, rfl, hM8, hb8⟩
      have HM8 := Lib.hid hM8
      have HB8 : Hid (Below W.heap.size W w8) := HB7.out.trans (hb8.mono HB7.out.size)
      have HVL8 := Lib.hid (HVL7.out.keep (Nat.le_refl _) hb8)
      clear hM8 hb8
      go_wp2_with fail
      refine (list_out _ _ _ _ _ Hnc.out (by have := Hn.out; omega) (HX.out.keep (Nat.le_refl _) HB8.out)).mono ?_
      rintro e w9 ⟨a9, c9, rfl, hX9, hb9⟩
      have HX9 := Lib.hid hX9
      have HM9 := Lib.hid (HM8.out.keep (Nat.le_refl _) hb9)
      have HB9 : Hid (Below W.heap.size W w9) := HB8.out.trans (hb9.mono HB8.out.size)
      have HVL9 := Lib.hid (HVL8.out.keep (Nat.le_refl _) hb9)
      clear hX9 hb9
      cases hS : isVec R L Z n x (-100) 100
      · have HS := Lib.hid hS
        clear hS
        go_wp2_with fail
        refine (fSplit_fails _ _ _ (readBoth_bad _ _ _ _ _ _ _ _ _ _ _ _ _ _ HR.out (by have := Hn.out; omega) HM9.out HX9.out HS.out)).mono ?_
        rintro e w10 ⟨rfl, hb10⟩
        have HB10 : Hid (Below W.heap.size W w10) := HB9.out.trans (hb10.mono HB9.out.size)
        clear hb10
        go_wp2_with fail
        refine (awake_any _).mono ?_
        rintro e w11 ⟨rfl, hb11⟩
        have HB11 : Hid (Below W.heap.size W w11) := HB10.out.trans (hb11.mono HB10.out.size)
        clear hb11
        go_wp2
        go_ret
        exact ⟨rfl, HB11.out⟩
      · have hv := isVec_iff.1 hS
        obtain ⟨X, hXe⟩ : ∃ X, X = vecN x n := ⟨_, rfl⟩
        have HXe := Lib.hid hXe
        have HXc : Hid (inCols m.n X) := by rw [Hid, HLn.out, hXe, ← hv.2.1]; exact vecN_cols
        have HXn : Hid (Vec.norm X ≤ 400) := by rw [Hid, hXe]; exact norm_near (vecN_near (by omega) hv.2.2)
        have HRB := Lib.hid (readBoth_good _ c8 _ _ _ _ _ _ _ c9 _ _ _ _ HM9.out HX9.out hS)
        rw [Hmx.out, ← hXe] at HRB
        clear hS hv hXe
        by_cases hmv : isMove m X
        · have HMV := Lib.hid hmv
          clear hmv
          go_wp2_with fail
          refine (fSplit_core m X _ _ _ HMX.out HXc.out HMV.out HXn.out HRB.out).mono ?_
          rintro e w10 ⟨asp, csp, l, F2, rfl, hVLs, hA2, hSp, hb10⟩
          have hFF := HA.out.unique hA2
          subst hFF
          have HB10 : Hid (Below W.heap.size W w10) := HB9.out.trans (hb10.mono HB9.out.size)
          have HSP := Lib.hid hSp
          have hll : l.length ≤ 400 := Nat.le_trans hSp.len HXn.out
          obtain ⟨As, Cs, hMs⟩ := hVLs
          have HMs := Lib.hid hMs
          obtain ⟨Ap2, Cp2, hMp2⟩ := HVL9.out.keep (Nat.le_refl _) hb10
          have HMp2 := Lib.hid hMp2
          clear hb10 hA2 hSp hMs hMp2
          cases hZ : isVec R L Z n x 0 100
          · have HZ := Lib.hid hZ
            clear hZ
            go_wp2_with fail
            refine (rvector_r false _ _ _ _ _ _ _ _ _ _ _ _ _ _ HZ.out HR.out (HM.out.keep (Nat.le_refl _) HB10.out) (by have := Hn.out; omega) (HX.out.keep (Nat.le_refl _) HB10.out)).mono ?_
            rintro e w11 ⟨rfl, rfl⟩
            go_wp2_with fail
            refine (awake_any _).mono ?_
            rintro e w12 ⟨rfl, hb12⟩
            have HB12 : Hid (Below W.heap.size W w12) := HB10.out.trans (hb12.mono HB10.out.size)
            clear hb12
            go_wp2
            go_ret
            exact ⟨rfl, HB12.out⟩
          · have HZ := Lib.hid hZ
            have HXW : Hid (Whole X) := by rw [Hid, HXe.out]; exact vecN_whole (isVec_iff.1 hZ).2.2
            clear hZ
            have eg : ∀ args w, (callFunc 57 args).run Try.prog w = .ok (.enter 57 args) w := enters_of Try.func57 (by kernel_rfl) rfl
            have EG := Lib.hid eg
            clear eg
            go_wp2_with fail
            refine (rvector_r true _ _ _ _ _ _ _ _ _ _ _ _ _ _ HZ.out HR.out (HM.out.keep (Nat.le_refl _) HB10.out) (by have := Hn.out; omega) (HX.out.keep (Nat.le_refl _) HB10.out)).mono ?_
            rintro e w11 ⟨rfl, rfl⟩
            go_wp2
            go_loopw [96] (fun i wr => ∃ k : Nat, k ≤ l.length ∧ i = .int .i64 k ∧ Below w10.heap.size w10 wr) (fun i _ => l.length - (intOf i).toNat)
            case atStart => exact ⟨0, Nat.zero_le _, rfl, Below.refl _ _⟩
            case round =>
              obtain ⟨k, hk, rfl, hb⟩ := hrel
              obtain ⟨wo, hwo⟩ : ∃ wo : World, wo = wr := ⟨_, rfl⟩
              subst hwo
              have HBo := Lib.hid hb
              clear hb
              by_cases hlt : k < l.length
              · obtain ⟨b, o, rfl, hck⟩ := (HMs.out.keep (Nat.le_refl _) HBo.out).row k hlt
                have HI := Lib.hid ((HMs.out.keep (Nat.le_refl _) HBo.out).ints k hlt)
                have HMq := Lib.hid ((HMp2.out.keep (Nat.le_refl _) HBo.out).keep (Nat.le_refl _) ((Below.refl _ wo).alloc (Nat.le_refl _) (.cells #[.slice (As k) m.n (Cs k)] 23)))
                have HI2 := Lib.hid (HI.out.keep (Nat.le_refl _) ((Below.refl _ wo).alloc (Nat.le_refl _) (.cells #[.slice (As k) m.n (Cs k)] 23)))
                have Hp : Hid (someP (pureOf F).length (fun j => eqN m.n m.n (l.getD k Vec.zero).at' ((pureOf F).getD j Vec.zero).at') = true) := by
                  have h1 := HSP.out.mem _ (getD_mem hlt)
                  have h2 : l.getD k Vec.zero ∈ pureOf F := List.mem_filter.2 ⟨h1.1, by simpa using whole_fits h1.2 HXW.out⟩
                  obtain ⟨j, hj, he⟩ := List.getElem_of_mem h2
                  refine someP_iff.2 ⟨j, hj, eqN_iff.2 ⟨rfl, fun i _ => ?_⟩⟩
                  rw [List.getD_eq_getElem?_getD (l := pureOf F), List.getElem?_eq_getElem hj, he]; rfl
                have HC : Hid (∀ j, j < (pureOf F).length → ∀ q, Calls Try.prog 57 (#[.slice (Ap2 j) m.n (Cp2 j)] ++ #[.pointer (some ⟨wo.heap.size, 0, none⟩)]) ((wo.alloc (.cells #[.slice (As k) m.n (Cs k)] 23)).drewN q) fun e w' => Drawn (eqN m.n m.n (l.getD k Vec.zero).at' ((pureOf F).getD j Vec.zero).at') (wo.alloc (.cells #[.slice (As k) m.n (Cs k)] 23)) e w') :=
                  fun j hj q => purClo' wo.heap.size (As k) (Ap2 j) m.n (Cs k) m.n (Cp2 j) _ _ _ q (heap_alloc_new wo _) (by omega) (by omega) HI2.out (HMq.out.ints j hj)
                have hso := HBo.out.size
                go_wp2_with fail
                refine (containsII_r true 57 _ _ _ _ _ _ _ _ _ _ Hp.out (by omega) HMq.out EG.out HC.out).mono ?_
                rintro e w12 ⟨rfl, q12, h12⟩
                have HB12 : Hid (Below w10.heap.size w10 w12) := below_drawn (HBo.out.alloc hso _) h12
                clear h12
                go_wp2
                go_roundw
                case rel => exact ⟨k + 1, by omega, by go_num, HB12.out⟩
                case measure => simp [intOf]; omega
              · have e : k = l.length := by omega
                subst e
                go_wp2_with fail
                refine (awake_any _).mono ?_
                rintro e w12 ⟨rfl, hb12⟩
                have HB12 : Hid (Below W.heap.size W w12) := (HB10.out.trans (HBo.out.mono HB10.out.size)).trans (hb12.mono (Nat.le_trans HB10.out.size HBo.out.size))
                clear hb12
                go_wp2
                go_ret
                exact ⟨rfl, HB12.out⟩
        · have HMV := Lib.hid hmv
          clear hmv
          go_wp2_with fail
          refine (fSplit_none m X _ _ _ HMX.out HMV.out HXn.out HRB.out).mono ?_
          rintro e w10 ⟨rfl, hb10⟩
          have HB10 : Hid (Below W.heap.size W w10) := HB9.out.trans (hb10.mono HB9.out.size)
          clear hb10
          go_wp2_with fail
          refine (awake_any _).mono ?_
          rintro e w11 ⟨rfl, hb11⟩
          have HB11 : Hid (Below W.heap.size W w11) := HB10.out.trans (hb11.mono HB10.out.size)
          clear hb11
          go_wp2
          go_ret
          exact ⟨rfl, HB11.out⟩

theorem pure_core (a : Option Addr) (cap R : Nat) (A : Nat → Option Addr) (L C : Nat → Nat) (Z : Nat → Nat → Int) (ax : Option Addr) (n cx : Nat) (x : Nat → Int) (W : World)
    (hR : R ≤ 140737488351232) (hM : Mat W a R A L C Z) (hn : n * 8 ≤ 140737488351232) (hnc : n ≤ cx) (hX : Ints W ax n x) :
    Calls Try.prog 14 #[.slice a R cap, .slice ax n cx] W fun e w' => Fine W e w' := by
  cases hV : isMat R L Z
  · exact pure_bad a cap R A L C Z ax n cx W hR hM hV
  · exact pure_good a cap R A L C Z ax n cx x W hR hM hn hnc hX hV
end Go.Proofs.Ytaglbnblfhfkeaa
