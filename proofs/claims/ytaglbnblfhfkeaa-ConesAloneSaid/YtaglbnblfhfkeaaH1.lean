import Derived.Test.YtaglbnblfhfkeaaG6
import Derived.Test.YtaglbnblfhfkeaaMath5
namespace Go.Proofs.Ytaglbnblfhfkeaa
open Go.RowKit

/-- func(n int) bool { return n != 0 } -/
theorem minClo1 (n : Int) (w : World) (q : Nat) : Calls Try.prog 49 (#[.int .i64 n] ++ #[]) (w.drewN q) fun e w' => Drawn (n != 0) w e w' := by
  show Calls Try.prog 49 #[.int .i64 n] (w.drewN q) _
  go_enter Try.func49, Try.ntmps49
  go_wp2
  go_ret
  exact ⟨rfl, q, rfl⟩

/-- func(y []int) bool { return slices.Equal(y, back) } -/
theorem minClo2 (b : Nat) (ay az : Option Addr) (ny cy nz cz : Nat) (y z : Nat → Int) (w : World) (q : Nat) (hb : w.heap[b]? = some (.cells #[.slice ay ny cy] 23)) (hn : ny ≤ 140737488351232) (hz : nz ≤ 140737488351232) (hy : Ints w ay ny y) (hzz : Ints w az nz z) :
    Calls Try.prog 51 (#[.slice az nz cz] ++ #[.pointer (some ⟨b, 0, none⟩)]) (w.drewN q) fun e w' => Drawn (eqN nz ny z y) w e w' := by
  have c0 : (w.drewN q).cell? ⟨b, 0, none⟩ = some (.slice ay ny cy) := block_cell (w := w) hb 0
  have H := Lib.hid (equal_any az ay cz cy nz ny z y (w.drewN q) hz hn (ints_drewN hzz q) (ints_drewN hy q))
  clear hb hy hzz
  show Calls Try.prog 51 #[.slice az nz cz, .pointer (some ⟨b, 0, none⟩)] (w.drewN q) _
  go_enter Try.func51, Try.ntmps51
  go_wp2_with (go_at_call 20; refine H.out.mono ?_; rintro e w' ⟨rfl, q2, rfl⟩)
  go_ret
  exact ⟨rfl, q + q2, rfl⟩

theorem someP_succ (k : Nat) (p : Nat → Bool) : someP (k + 1) p = (someP k p || p k) := by
  rw [Bool.eq_iff_iff, Bool.or_eq_true, someP_iff, someP_iff]
  constructor
  · rintro ⟨j, hj, h⟩
    by_cases e : j = k
    · subst e; exact Or.inr h
    · exact Or.inl ⟨j, by omega, h⟩
  · rintro (⟨j, hj, h⟩ | h)
    · exact ⟨j, by omega, h⟩
    · exact ⟨k, by omega, h⟩

theorem cmp_lt {n : Nat} (hn1 : 1 ≤ n) (hn4 : n ≤ 4) {u v : Vec} {r : Int} (hu : inCols n u) (hv : inCols n v) (h : CmpN n n u.at' v.at' r) (hlt : ltV u v) : r = -1 := by
  rcases h with ⟨_, _, h⟩ | ⟨h, _⟩ | ⟨_, k, hk, _, hpre, hgt⟩
  · have e : u = v := ext_at fun c hc => by
      by_cases hcn : c < n
      · exact h c hcn
      · rw [(cols_at hn1).1 hu c hc (by omega), (cols_at hn1).1 hv c hc (by omega)]
    subst e
    exact absurd hlt (ltV_irrefl u)
  · exact h
  · have hgt := hgt hk
    have : ltV v u := by
      have e : k = 0 ∨ k = 1 ∨ k = 2 ∨ k = 3 := by omega
      rcases e with rfl | rfl | rfl | rfl
      · exact Or.inl hgt
      · exact Or.inr ⟨(hpre 0 (by omega)).symm, Or.inl hgt⟩
      · exact Or.inr ⟨(hpre 0 (by omega)).symm, Or.inr ⟨(hpre 1 (by omega)).symm, Or.inl hgt⟩⟩
      · exact Or.inr ⟨(hpre 0 (by omega)).symm, Or.inr ⟨(hpre 1 (by omega)).symm, Or.inr ⟨(hpre 2 (by omega)).symm, hgt⟩⟩⟩
    exact absurd (ltV_trans hlt this) (ltV_irrefl u)

theorem AllBasic.rises {m : Mx} {F : List Vec} (h : AllBasic m F) {i j : Nat} (hij : i < j) (hj : j < F.length) : ltV (F.getD i Vec.zero) (F.getD j Vec.zero) := by
  have := List.pairwise_iff_getElem.1 h.sorted i j (by omega) hj hij
  rw [List.getD_eq_getElem?_getD, List.getElem?_eq_getElem (show i < F.length by omega), List.getD_eq_getElem?_getD, List.getElem?_eq_getElem hj]
  exact this

/-- The opposite, as it is made. -/
structure Back (wb wr : World) (x : Nat → Int) (k : Nat) : Prop where
  cell : ∃ a' c', wr.heap[wb.heap.size]? = some (.cells #[.slice a' k c'] 23) ∧ Own wr (wb.heap.size + 1) a' k c' (fun j => - x j)
  below : Below wb.heap.size wb wr
theorem Back.start (wb : World) (x : Nat → Int) : Back wb (wb.alloc (.cells #[.slice none 0 0] 23)) x 0 :=
  ⟨⟨none, 0, heap_alloc_new wb _, World.ownsRow_nil _ _ _ _⟩, below_alloc1 _ _⟩

theorem Back.next {wb wr w2 : World} {x : Nat → Int} {k : Nat} (h : Back wb wr x k) {a' : Option Addr} {c' : Nat} (hc : wr.heap[wb.heap.size]? = some (.cells #[.slice a' k c'] 23)) (ho : Own wr (wb.heap.size + 1) a' k c' (fun j => - x j)) (ob : Obj) (hg : (wr.alloc ob).grownBy w2 (Value.slice a' k c').ownBlock)
    {a2 : Option Addr} {c2 : Nat} (h2 : Own w2 (wb.heap.size + 1) a2 (k + 1) c2 (fun j => - x j)) :
    w2.heap[wb.heap.size]? = some (.cells #[.slice a' k c'] 23) ∧ Back wb (w2.setCell ⟨wb.heap.size, 0, none⟩ (.slice a2 (k + 1) c2)) x (k + 1) := by
  have hlt : wb.heap.size < wr.heap.size := (Array.getElem?_eq_some_iff.1 hc).1
  have hob : ∀ q, (Value.slice a' k c').ownBlock = some q → wb.heap.size + 1 ≤ q := fun q hq => (World.ownsRow.lt ho q hq).1
  have h3 : w2.heap[wb.heap.size]? = some (.cells #[.slice a' k c'] 23) := by
    rw [hg.block _ (by simp; omega) (fun e => by have := hob _ e.symm; omega), Below.heap_alloc _ _ _ hlt]; exact hc
  refine ⟨h3, ⟨a2, c2, ?_, h2.setOther h3 _ _⟩, ?_⟩
  · rw [heap_setCell_same _ _ 0 _ _ _ h3]; rfl
  · exact ((h.below.alloc (by have := h.below.size; omega) ob).grown hg (by simp; omega) (fun q hq => by have := hob q hq; omega)).setCell (Nat.le_refl _) _

set_option maxHeartbeats 4000000 in
set_option maxRecDepth 100000 in
theorem min_bad (a : Option Addr) (cap R : Nat) (A : Nat → Option Addr) (L C : Nat → Nat) (Z : Nat → Nat → Int) (W : World)
    (hR : R ≤ 140737488351232) (hM : Mat W a R A L C Z) (hV : isMat R L Z = false) :
    Calls Try.prog 9 #[.slice a R cap] W fun e w' => Fine W e w' := by
  have HM := Lib.hid hM
  have HR := Lib.hid hR
  have HV := Lib.hid hV
  clear hM hR hV
  go_enter Try.func9, Try.ntmps9
  go_wp2_with fail
  refine (table_out _ _ _ _ _ _ _ _ HR.out HM.out).mono ?_
  rintro e w1 ⟨a1, c1, A1, C1, rfl, hM1, hb1⟩
  have HM1 := Lib.hid hM1
  have HB1 := Lib.hid hb1
  clear hM1 hb1
  go_wp2_with fail
  refine (fBasic_no _ _ _ _ _ _ _ _ (by omega) HM1.out (by rw [isMat_cut]; exact HV.out)).mono ?_
  rintro e w2 ⟨rfl, hb2⟩
  have HB2 : Hid (Below W.heap.size W w2) := HB1.out.trans (hb2.mono HB1.out.size)
  clear hb2
  go_wp2_with fail
  refine (awake_any _).mono ?_
  rintro e w5 ⟨rfl, hb5⟩
  have HB5 : Hid (Below W.heap.size W w5) := HB2.out.trans (hb5.mono HB2.out.size)
  clear hb5
  go_wp2
  go_ret
  exact ⟨rfl, HB5.out⟩

set_option maxHeartbeats 16000000 in
set_option maxRecDepth 100000 in
theorem min_good (a : Option Addr) (cap R : Nat) (A : Nat → Option Addr) (L C : Nat → Nat) (Z : Nat → Nat → Int) (W : World)
    (hR : R ≤ 140737488351232) (hM : Mat W a R A L C Z) (hV : isMat R L Z = true) :
    Calls Try.prog 9 #[.slice a R cap] W fun e w' => Fine W e w' := by
  have hm := mxOf_ok hV
  have hLn : (mxOf R L Z).n = L 0 := rfl
  have HLn := Lib.hid hLn
  have hmi := isMat_iff.1 hV
  have hR0 : 0 < R := hmi.1
  have hR0I : (0 : Int) < (R : Int) := by omega
  obtain ⟨b0, o0, rfl, hc0⟩ := hM.row 0 hR0
  have HM := Lib.hid hM
  have HR := Lib.hid hR
  have HV := Lib.hid hV
  have Hc0 := Lib.hid hc0
  clear hM hR hV hLn hmi hc0
  generalize hmx : mxOf R L Z = m at hm HLn
  have Hmx := Lib.hid hmx
  have HMX := Lib.hid hm
  have hn4 := hm.n4
  have hn1 := hm.n1
  clear hmx hm
  go_enter Try.func9, Try.ntmps9
  go_wp2_with fail
  refine (table_out _ _ _ _ _ _ _ _ HR.out HM.out).mono ?_
  rintro e w1 ⟨a1, c1, A1, C1, rfl, hM1, hb1⟩
  have HM1 := Lib.hid hM1
  have HB1 := Lib.hid hb1
  clear hM1 hb1
  go_wp2_with fail
  refine (fBasic_tab _ _ _ _ _ _ _ _ HM1.out HV.out).mono ?_
  rw [Hmx.out]
  rintro e w2 ⟨ab, cb, F, rfl, hVLb, hA, hb2⟩
  have HA := Lib.hid hA
  have HB2 : Hid (Below W.heap.size W w2) := HB1.out.trans (hb2.mono HB1.out.size)
  obtain ⟨Ab, Cb, hMb⟩ := hVLb
  have HMb := Lib.hid hMb
  have hF400 : F.length ≤ 400 := few400 HMX.out hA.nodup (fun v hv => (hA.mem v).1 hv)
  have hF400I : (F.length : Int) ≤ 400 := by omega
  clear hb2 hA hMb
  go_wp2_with fail
  refine (rmatrix_r true _ _ _ _ _ _ _ _ HV.out HR.out (HM.out.keep (Nat.le_refl _) HB2.out)).mono ?_
  rintro e w5 ⟨rfl, rfl⟩
  go_wp2
  go_loopw [38] (fun i wr => ∃ k : Nat, k ≤ F.length ∧ i = .int .i64 k ∧ Below w2.heap.size w2 wr) (fun i _ => F.length - (intOf i).toNat)
  case atStart => exact ⟨0, Nat.zero_le _, rfl, Below.refl _ _⟩
  case round =>
    obtain ⟨k, hk, rfl, hb⟩ := hrel
    obtain ⟨wo, hwo⟩ : ∃ wo : World, wo = wr := ⟨_, rfl⟩
    subst hwo
    have HBo := Lib.hid hb
    clear hb
    by_cases hlt : k < F.length
    · have HMo := Lib.hid (HMb.out.keep (Nat.le_refl _) HBo.out)
      obtain ⟨b, o, rfl, hck⟩ := HMo.out.row k hlt
      have HI := Lib.hid (HMo.out.ints k hlt)
      obtain ⟨bk, ok, hak, _⟩ := HI.out 0 (by omega)
      rw [hak] at HI hck
      have hbas : Basic m (F.getD k Vec.zero) := (HA.out.mem _).1 (getD_mem hlt)
      have HBas := Lib.hid hbas
      have HYn : Hid (near 100 (F.getD k Vec.zero)) := near_29 (basic_norm HMX.out hbas)
      have HNum : Hid (allIn (F.getD k Vec.zero).at' m.n (-1000) 1000 = true) := allIn_near hn4 (by have := HYn.out; simp only [near] at *; omega)
      have hca : wo.cell? ⟨b0, o0, none⟩ = some (.slice (A 0) (L 0) (C 0)) := by
        have := ((HB2.out.trans (HBo.out.mono HB2.out.size)).cell (p := ⟨b0, o0, none⟩) (World.block_lt_of_cell? _ _ Hc0.out)).trans Hc0.out
        exact this
      rw [← HLn.out] at hca
      clear hbas
      go_upto_region 9 with fail
      go_cut [68] (fun s68 wx => s68 = .bool false ∧ wx = wo)
      case first =>
        by_cases h0 : k = 0
        · have h0I : (k : Int) ≤ 0 := by omega
          clear h0
          go_wp2_with fail
          refine (numbers_r true _ _ _ _ _ _ _ HNum.out (by omega) HI.out).mono ?_
          rintro e w6 ⟨rfl, rfl⟩
          go_wp2
          go_meet
          exact ⟨rfl, rfl⟩
        · obtain ⟨k', rfl⟩ : ∃ k', k = k' + 1 := ⟨k - 1, by omega⟩
          obtain ⟨b2, o2, he, hck2⟩ := HMo.out.row k' (by omega)
          cases he
          have HI2 := Lib.hid (HMo.out.ints k' (by omega))
          have hb2 : Basic m (F.getD k' Vec.zero) := (HA.out.mem _).1 (getD_mem (by omega))
          have HC2 := Lib.hid hb2.cols
          have HLt := Lib.hid (HA.out.rises (Nat.lt_succ_self k') hlt)
          clear h0 hb2
          go_wp2_with fail
          refine (numbers_r true _ _ _ _ _ _ _ HNum.out (by omega) HI.out).mono ?_
          rintro e w6 ⟨rfl, rfl⟩
          go_wp2_with fail
          refine (compare_any _ _ _ _ _ _ _ _ _ (by omega) (by omega) HI2.out HI.out).mono ?_
          rintro e w6 ⟨r, hr, rfl, rfl⟩
          have hr1 := cmp_lt hn1 hn4 HC2.out HBas.out.cols hr HLt.out
          subst hr1
          clear hr
          go_wp2
          go_meet
          exact ⟨rfl, rfl⟩
      case rest =>
        obtain ⟨rfl, rfl⟩ := hcut
        clear hca
        obtain ⟨X, hXe⟩ : ∃ X, X = F.getD k Vec.zero := ⟨_, rfl⟩
        have HXe := Lib.hid hXe
        rw [← hXe] at HI HBas HYn HNum
        clear hXe
        have HK0 := Lib.hid (Back.start wc X.at')
        go_wp2
        go_loopw [8, 71] (fun s i wr => ∃ j : Nat, j ≤ m.n ∧ i = .int .i64 j ∧ s = .bool (someP j fun i => X.at' i != 0) ∧ Back wc wr X.at' j) (fun _ i _ => m.n - (intOf i).toNat)
        case atStart => exact ⟨0, Nat.zero_le _, rfl, by rw [someP_no fun j hj => absurd hj (Nat.not_lt_zero _)], HK0.out⟩
        case round =>
          obtain ⟨j, hj, rfl, rfl, hK⟩ := hrel
          obtain ⟨wx, hwx⟩ : ∃ wx : World, wx = wr := ⟨_, rfl⟩
          subst hwx
          have HK := Lib.hid hK
          clear hK HK0
          by_cases hjn : j < m.n
          · have hc3 : wx.cell? ⟨bk, ok + j, none⟩ = some (.int .i64 (X.at' j)) := by
              obtain ⟨b3, o3, ha3, hc3⟩ := (HI.out.keep (Nat.le_refl _) HK.out.below) j hjn
              cases ha3
              exact hc3
            obtain ⟨a', c', hcell, hOwn⟩ := HK.out.cell
            have HCell := Lib.hid hcell
            have HOwn := Lib.hid hOwn
            have hbc : wx.cell? ⟨wc.heap.size, 0, none⟩ = some (.slice a' j c') := block_cell hcell 0
            have hszb : wc.heap.size < wx.heap.size := (Array.getElem?_eq_some_iff.1 hcell).1
            have hbd : -100 ≤ X.at' j ∧ X.at' j ≤ 100 := at_near HYn.out j (by omega)
            have HSu := Lib.hid (someP_succ j fun i => X.at' i != 0)
            clear hcell hOwn
            obtain ⟨i0, hi, hz0, hz1, hz2⟩ := info_parts Try.info3
            go_wp2_with (at_builtin; refine wpList_append_own _ rfl _ _ 23 rfl (wc.heap.size + 1) 3 i0 (.int .i64 0) 1 8 Try.underlying23 hi hz0 hz1 hz2 rfl (by decide) _ _ _ rfl (HOwn.out.alloc _) ⟨wx.heap.size, 0, none⟩ 1 1 [.int .i64 (-X.at' j)] rfl rfl (one_new _ _ _) (one_ok _ rfl) (by unfold maxLen; omega) (by omega) (by simp; omega) ?_)
            intro v' w2 hown hgrow _
            obtain ⟨a2, c2, rfl, hO2⟩ := Own.snoc HOwn.out hown rfl
            obtain ⟨hb2, hKn⟩ := HK.out.next HCell.out HOwn.out _ hgrow hO2
            have HKn := Lib.hid hKn
            have hbc2 : w2.cell? ⟨wc.heap.size, 0, none⟩ = some (.slice a' j c') := block_cell hb2 0
            have hbf2 := block_free hb2 0
            have hszb2 : wc.heap.size < w2.heap.size := (Array.getElem?_eq_some_iff.1 hb2).1
            clear hown hgrow hO2 hb2 hKn hbc hc3
            cases hs : someP j (fun i => X.at' i != 0)
            · have HS := Lib.hid hs
              clear hs
              by_cases hz : X.at' j = 0
              · have G : (X.at' j != 0) = false := by simp [hz]
                have HG := Lib.hid G
                clear hz
                go_wp2
                go_roundw
                case rel => exact ⟨j + 1, by omega, by go_num, by rw [HSu.out, HS.out, HG.out]; rfl, HKn.out⟩
                case measure => simp [intOf]; omega
              · have G : (X.at' j != 0) = true := by simp [hz]
                have HG := Lib.hid G
                clear hz
                go_wp2
                go_roundw
                case rel => exact ⟨j + 1, by omega, by go_num, by rw [HSu.out, HS.out, HG.out]; rfl, HKn.out⟩
                case measure => simp [intOf]; omega
            · have HS := Lib.hid hs
              clear hs
              go_wp2
              go_roundw
              case rel => exact ⟨j + 1, by omega, by go_num, by rw [HSu.out, HS.out]; rfl, HKn.out⟩
              case measure => simp [intOf]; omega
          · have e : j = m.n := by omega
            have HSome : Hid (someP m.n (fun i => X.at' i != 0) = true) := by
              refine someP_iff.2 (Classical.byContradiction fun h => HBas.out.ne (ext_at fun c hc => ?_))
              rw [zero_at]
              by_cases hcn : c < m.n
              · exact Classical.byContradiction fun h2 => h ⟨c, hcn, by simpa using h2⟩
              · exact (cols_at hn1).1 HBas.out.cols c hc (by omega)
            subst e
            rw [HSome.out]
            obtain ⟨aB, cB, hcell, hOwn⟩ := HK.out.cell
            have HCell := Lib.hid hcell
            have HBI := Lib.hid hOwn.ints
            have HBx : Hid (Below W.heap.size W wx) := (HB2.out.trans (HBo.out.mono HB2.out.size)).trans (HK.out.below.mono (Nat.le_trans HB2.out.size HBo.out.size))
            have HDx : Hid (Below w2.heap.size w2 wx) := HBo.out.trans (HK.out.below.mono HBo.out.size)
            have hbx := HK.out.below
            have HIx := Lib.hid (HI.out.keep (Nat.le_refl _) hbx)
            have HMx := Lib.hid (HMo.out.keep (Nat.le_refl _) hbx)
            clear hcell hOwn hbx
            go_wp2_with fail
            refine (table_out _ _ _ _ _ _ _ _ HR.out (HM.out.keep (Nat.le_refl _) HBx.out)).mono ?_
            rintro e w7 ⟨a7, c7, A7, C7, rfl, hM7, hb7⟩
            have HM7 := Lib.hid hM7
            have HB7 : Hid (Below W.heap.size W w7) := HBx.out.trans (hb7.mono HBx.out.size)
            have HI7 := Lib.hid (HIx.out.keep (Nat.le_refl _) hb7)
            have HMb7 := Lib.hid (HMx.out.keep (Nat.le_refl _) hb7)
            have HBI7 := Lib.hid (HBI.out.keep (Nat.le_refl _) hb7)
            have HCell7 := Lib.hid ((hb7.block _ (Array.getElem?_eq_some_iff.1 HCell.out).1).trans HCell.out)
            have HD7 : Hid (Below w2.heap.size w2 w7) := HDx.out.trans (hb7.mono HDx.out.size)
            clear hM7 hb7
            go_wp2_with fail
            refine (clone_any _ _ _ _ _ (by omega) HI7.out).mono ?_
            rintro e w8 ⟨a8, c8, rfl, hO8, hb8⟩
            have HX8 := Lib.hid hO8.ints
            have HM8 := Lib.hid (HM7.out.keep (Nat.le_refl _) hb8)
            have HB8 : Hid (Below W.heap.size W w8) := HB7.out.trans (hb8.mono HB7.out.size)
            have HI8 := Lib.hid (HI7.out.keep (Nat.le_refl _) hb8)
            have HMb8 := Lib.hid (HMb7.out.keep (Nat.le_refl _) hb8)
            have HBI8 := Lib.hid (HBI7.out.keep (Nat.le_refl _) hb8)
            have HCell8 := Lib.hid ((hb8.block _ (Array.getElem?_eq_some_iff.1 HCell7.out).1).trans HCell7.out)
            have HVec : Hid (isVec (min R 250) (fun j => min (L j) 6) Z m.n X.at' (-1000) 1000 = true) := isVec_iff.2 ⟨by rw [isMat_cut]; exact HV.out, by have := HLn.out; omega, HNum.out⟩
            have HD8 : Hid (Below w2.heap.size w2 w8) := HD7.out.trans (hb8.mono HD7.out.size)
            clear hO8 hb8
            go_wp2_with fail
            refine (times_yes _ _ _ _ _ _ _ _ _ _ _ _ HM8.out HX8.out HVec.out).mono ?_
            rintro e w9 ⟨ap, cp, rfl, hO9, hb9⟩
            have HP9 := Lib.hid hO9.ints
            have HB9 : Hid (Below W.heap.size W w9) := HB8.out.trans (hb9.mono HB8.out.size)
            have HI9 := Lib.hid (HI8.out.keep (Nat.le_refl _) hb9)
            have HMb9 := Lib.hid (HMb8.out.keep (Nat.le_refl _) hb9)
            have HBI9 := Lib.hid (HBI8.out.keep (Nat.le_refl _) hb9)
            have HCell9 := Lib.hid ((hb9.block _ (Array.getElem?_eq_some_iff.1 HCell8.out).1).trans HCell8.out)
            have HD9 : Hid (Below w2.heap.size w2 w9) := HD8.out.trans (hb9.mono HD8.out.size)
            clear hO9 hb9
            have EG1 : Hid (∀ args w, (callFunc 49 args).run Try.prog w = .ok (.enter 49 args) w) := enters_of Try.func49 (by kernel_rfl) rfl
            have EG2 : Hid (∀ args w, (callFunc 51 args).run Try.prog w = .ok (.enter 51 args) w) := enters_of Try.func51 (by kernel_rfl) rfl
            have HE1 : Hid (min R 250 = R) := by have := isMat_iff.1 HV.out; simp only [Hid]; omega
            have HP : Hid (someP R (fun j => dotN (Z j) X.at' m.n != 0) = false) := by
              have h1 := prods_move (x := X.at') HV.out HLn.out
              have h2 : vecN X.at' m.n = X := vecN_id hn1 HBas.out.cols
              rw [Hmx.out, h2, isMoveB_iff.2 HBas.out.move] at h1
              exact h1
            go_wp2_with fail
            refine (containsI_r false 49 #[] (fun j => dotN (Z j) X.at' m.n != 0) _ _ _ _ _ (by rw [HE1.out]; exact HP.out) (by omega) HP9.out EG1.out (fun j _ q => minClo1 _ _ q)).mono ?_
            rintro e w10 ⟨rfl, q10, h10⟩
            have hb10 := below_drawn (Below.refl w9.heap.size w9) h10
            have HB10 : Hid (Below W.heap.size W w10) := below_drawn HB9.out h10
            have HI10 := Lib.hid (HI9.out.keep (Nat.le_refl _) hb10)
            have HMb10 := Lib.hid (HMb9.out.keep (Nat.le_refl _) hb10)
            have HBI10 := Lib.hid (HBI9.out.keep (Nat.le_refl _) hb10)
            have HCell10 := Lib.hid ((hb10.block _ (Array.getElem?_eq_some_iff.1 HCell9.out).1).trans HCell9.out)
            have HD10 : Hid (Below w2.heap.size w2 w10) := below_drawn HD9.out h10
            clear h10 hb10
            have HSm : Hid (someP F.length (fun j => eqN m.n m.n (F.getD j Vec.zero).at' (fun i => - X.at' i)) = true) := by
              obtain ⟨j, hj, he⟩ := List.getElem_of_mem ((HA.out.mem _).2 (neg_basic HBas.out))
              refine someP_iff.2 ⟨j, hj, eqN_iff.2 ⟨rfl, fun i hi => ?_⟩⟩
              rw [List.getD_eq_getElem?_getD (l := F), List.getElem?_eq_getElem hj, he]
              have e4 : i = 0 ∨ i = 1 ∨ i = 2 ∨ i = 3 := by omega
              rcases e4 with rfl | rfl | rfl | rfl <;> rfl
            go_wp2_with fail
            refine (containsII_r true 51 _ (fun j => eqN m.n m.n (F.getD j Vec.zero).at' (fun i => - X.at' i)) _ _ _ _ _ _ _ _ HSm.out (by omega) HMb10.out EG2.out (fun j hj q => minClo2 wc.heap.size aB (Ab j) m.n cB m.n (Cb j) _ _ _ q HCell10.out (by omega) (by omega) HBI10.out (HMb10.out.ints j hj))).mono ?_
            rintro e w11 ⟨rfl, q11, h11⟩
            have hb11 := below_drawn (Below.refl w10.heap.size w10) h11
            have HB11 : Hid (Below W.heap.size W w11) := below_drawn HB10.out h11
            have HI11 := Lib.hid (HI10.out.keep (Nat.le_refl _) hb11)
            have HMb11 := Lib.hid (HMb10.out.keep (Nat.le_refl _) hb11)
            have HBo11 : Hid (Below w2.heap.size w2 w11) := below_drawn HD10.out h11
            clear h11 hb11
            go_wp2
            go_loop [112] (fun i => ∃ j : Nat, j ≤ F.length ∧ i = .int .i64 j) (fun i => F.length - (intOf i).toNat)
            case atStart => exact ⟨0, Nat.zero_le _, rfl⟩
            case round =>
              obtain ⟨j, hj, rfl⟩ := hrel
              by_cases hjn : j < F.length
              · obtain ⟨b4, o4, he4, hc4⟩ := HMb11.out.row j hjn
                cases he4
                have HIj := Lib.hid (HMb11.out.ints j hjn)
                by_cases hkj : k = j
                · have G : ((k : Int) != (j : Int)) = false := by simp [hkj]
                  clear hkj
                  go_wp2
                  go_round
                  case rel => exact ⟨j + 1, by omega, by go_num⟩
                  case measure => simp [intOf]; omega
                · have G : ((k : Int) != (j : Int)) = true := by simp; omega
                  have HNF : Hid (fitsN (F.getD j Vec.zero).at' X.at' m.n = false) := by
                    have hbj : Basic m (F.getD j Vec.zero) := (HA.out.mem _).1 (getD_mem hjn)
                    have hne : F.getD j Vec.zero ≠ X := by
                      rw [HXe.out]
                      intro e
                      rcases Nat.lt_or_gt_of_ne hkj with h | h
                      · have := HA.out.rises h hjn; rw [e] at this; exact ltV_irrefl _ this
                      · have := HA.out.rises h hlt; rw [e] at this; exact ltV_irrefl _ this
                    cases hf : fitsN (F.getD j Vec.zero).at' X.at' m.n
                    · rfl
                    · refine absurd (HBas.out.least _ hbj.cols hbj.move hbj.ne ((fitsN_fits _ _).1 (fitsN_iff.2 fun c hc => ?_))) hne
                      by_cases hcn : c < m.n
                      · exact fitsN_iff.1 hf c hcn
                      · rw [(cols_at hn1).1 hbj.cols c hc (by omega)]; omega
                  clear hkj
                  have HRF := Lib.hid (rfits_any (Ab j) (some ⟨bk, ok, none⟩) (Cb j) (Cb k) m.n m.n (F.getD j Vec.zero).at' X.at' w11 (by omega) (Nat.le_refl _) HIj.out HI11.out)
                  rw [HNF.out] at HRF
                  go_wp2_with fail
                  refine HRF.out.mono ?_
                  rintro e w12 ⟨rfl, rfl⟩
                  go_wp2
                  go_round
                  case rel => exact ⟨j + 1, by omega, by go_num⟩
                  case measure => simp [intOf]; omega
              · go_wp2
                go_roundw
                case rel => exact ⟨k + 1, by omega, by go_num, HBo11.out⟩
                case measure => simp [intOf]; omega
    · have e : k = F.length := by omega
      have HBo2 : Hid (Below W.heap.size W wo) := HB2.out.trans (HBo.out.mono HB2.out.size)
      subst e
      go_wp2_with fail
      refine (awake_any _).mono ?_
      rintro e w12 ⟨rfl, hb12⟩
      have HB12 : Hid (Below W.heap.size W w12) := HBo2.out.trans (hb12.mono HBo2.out.size)
      clear hb12
      go_wp2
      go_ret
      exact ⟨rfl, HB12.out⟩

theorem min_core (a : Option Addr) (cap R : Nat) (A : Nat → Option Addr) (L C : Nat → Nat) (Z : Nat → Nat → Int) (W : World)
    (hR : R ≤ 140737488351232) (hM : Mat W a R A L C Z) : Calls Try.prog 9 #[.slice a R cap] W fun e w' => Fine W e w' := by
  cases hV : isMat R L Z
  · exact min_bad a cap R A L C Z W hR hM hV
  · exact min_good a cap R A L C Z W hR hM hV
end Go.Proofs.Ytaglbnblfhfkeaa
