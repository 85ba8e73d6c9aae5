import Derived.Test.YtcedhcpjnoppmaaN2
import Derived.StillTailTactics
namespace Go.Proofs.Ytcedhcpjnoppmaa
open Go.RowKit

def NumOut (Y O : Int) (T L : Nat → Int) (n : Nat) (w : World) (e : Ending) (w' : World) : Prop := e = .returned (.tuple #[.int .i64 (tk Y O T L n), .int .i64 (lk Y O T L n)]) ∧ Below w.heap.size w w'

set_option maxHeartbeats 8000000 in
set_option maxRecDepth 100000 in
theorem nums_any (aT : Option Addr) (n cT : Nat) (aL : Option Addr) (m cL : Nat) (T L : Nat → Int) (Y O : Int) (w : World) (hp : isPlan n m T L = true) (hc : isCh Y O = true) (hT : Ints w aT n T) (hL : Ints w aL m L) :
    Calls Try.prog 58 #[plV aT n cT aL m cL, chV Y O] w fun e w' => NumOut Y O T L n w e w' := by
  obtain ⟨h1, h12, hY, hO⟩ := isCh_iff.1 hc
  have hpp := isPlan_iff.1 hp
  have hn := hpp.2.1
  have hnm : n ≤ m := by omega
  have HT := Lib.hid hT
  have HL := Lib.hid hL
  clear hp hc hpp hT hL
  have hmk : ∀ W : World, (Instr.makeSlice 22 (.int .i64 ((n : Int) + 1)) (.int .i64 ((n : Int) + 1))).run Try.prog W = .ok (.slice (some ⟨W.heap.size, 0, none⟩) (n + 1) (n + 1)) (W.alloc (.cells (madeCells #[.int .i64 0] (n + 1)) 3)) := fun W => make_int (n + 1) (by omega) W
  have hn12 : (n : Int) ≤ 12 := by omega
  have HB0 := Lib.hid (NmAt.start (aT := aT) (nT := n) (cT := cT) (aL := aL) (nL := m) (cL := cL) (Y := Y) (O := O) w)
  have HMd := Lib.hid (fun W => made_sum W (n + 1))
  generalize madeCells #[.int .i64 0] (n + 1) = cs0 at hmk HMd
  have HS1 : Hid (NuAt aT n cT aL m cL Y O T L n w 0 (w.heap.size + 1 + 1) ((((w.alloc (.cells #[.slice aT n cT, .slice aL m cL] 24)).alloc (.cells #[.int .i64 Y, .int .i64 O] 26)).alloc (.cells cs0 3)).setCell ⟨w.heap.size + 1 + 1, 0, none⟩ (.int .i64 1))) := by
    refine ⟨(HB0.out.keep HB0.out.size (below_one _ _)).set (by simp) _, ?_, by omega⟩
    have h := HMd.out ((w.alloc (.cells #[.slice aT n cT, .slice aL m cL] 24)).alloc (.cells #[.int .i64 Y, .int .i64 O] 26))
    rw [show ((w.alloc (.cells #[.slice aT n cT, .slice aL m cL] 24)).alloc (.cells #[.int .i64 Y, .int .i64 O] 26)).heap.size = w.heap.size + 1 + 1 by simp] at h
    refine (h.set (j := 0) (by omega) (v := 1)).congr fun j _ => ?_
    by_cases e : j = 0
    · subst e; simp [op]
    · simp [op, e]
  have HS0 : Hid (SumAt (((w.alloc (.cells #[.slice aT n cT, .slice aL m cL] 24)).alloc (.cells #[.int .i64 Y, .int .i64 O] 26)).alloc (.cells cs0 3)) (w.heap.size + 1 + 1) (n + 1) (fun _ => 0)) := by
    have h := HMd.out ((w.alloc (.cells #[.slice aT n cT, .slice aL m cL] 24)).alloc (.cells #[.int .i64 Y, .int .i64 O] 26))
    rw [show ((w.alloc (.cells #[.slice aT n cT, .slice aL m cL] 24)).alloc (.cells #[.int .i64 Y, .int .i64 O] 26)).heap.size = w.heap.size + 1 + 1 by simp] at h
    exact h
  have HSet := Lib.hid (set_new ((w.alloc (.cells #[.slice aT n cT, .slice aL m cL] 24)).alloc (.cells #[.int .i64 Y, .int .i64 O] 26)) cs0 3 0 (.int .i64 1))
  obtain ⟨q0, q0f⟩ := HS0.out.cell (show 0 < n + 1 by omega)
  go_enter Try.func58, Try.ntmps58
  go_wp2
  go_loopw [7, 8, 9, 10] (fun s7 s8 s9 s10 wr => ∃ i b : Nat, i ≤ n ∧ s10 = .int .i64 ((i : Int) + 1) ∧ s7 = .slice (some ⟨b, 0, none⟩) (n + 1) (n + 1) ∧ s8 = .int .i64 (tk Y O T L i * O ^ (n - i)) ∧ s9 = .int .i64 (lk Y O T L i * O ^ (n - i)) ∧ NuAt aT n cT aL m cL Y O T L n w i b wr) (fun _ _ _ s10 _ => n + 1 - (intOf s10).toNat)
  case atStart => exact ⟨0, _, Nat.zero_le _, rfl, rfl, by simp [tk], by simp [lk], by have h := HS1.out; have hs := HSet.out; rw [show ((w.alloc (.cells #[.slice aT n cT, .slice aL m cL] 24)).alloc (.cells #[.int .i64 Y, .int .i64 O] 26)).heap.size = w.heap.size + 1 + 1 by simp] at hs; rw [hs] at h; exact h⟩
  clear q0 q0f HS0 HS1 HB0
  case round =>
    rename World => wo
    obtain ⟨i, b, hi, rfl, rfl, rfl, rfl, hA⟩ := hrel
    have HA := Lib.hid hA
    clear hA
    have hi12 : (i : Int) ≤ 12 := by omega
    by_cases hlt : i < n
    · have hlt' : (i : Int) + 1 ≤ (n : Int) := by omega
      obtain ⟨nb1, nb2, nb3, nb4, nb5, nb6, nb7⟩ := num_bd (T := T) (L := L) hY hO h1 h12 hn hlt
      have N1 := Lib.hid nb1
      have N4 := Lib.hid nb4
      have N5 := Lib.hid nb5
      have E1 : Hid ((n : Int) - ((i : Int) + 1) = ((n - i - 1 : Nat) : Int)) := by unfold Hid; omega
      have hsz := HA.out.base.size
      have hbs := HA.out.hb
      have HNow0 := Lib.hid (HA.out.now.keep HA.out.now.lt (below_one wo (.cells cs0 3)))
      have HNext0 := Lib.hid (HMd.out wo)
      have HB0 := Lib.hid (HA.out.base.keep HA.out.base.size (below_one wo (.cells cs0 3)))
      have hbl := HA.out.now.lt
      obtain ⟨q1, q2, q3, q4⟩ := HB0.out.cells
      clear nb1 nb4 nb5
      go_wp2_with fail
      rw [E1.out]
      refine (power_any O (n - i - 1) _ h1 h12 (by omega)).mono ?_
      rintro e w' ⟨rfl, rfl⟩
      go_wp2
      go_loopw [9, 13, 14, 40] (fun s9 _ _ s40 wx => ∃ k : Nat, k ≤ n + 1 ∧ s40 = .int .i64 k ∧ s9 = .int .i64 (lk Y O T L i * O ^ (n - i) + sumN (fun z => op Y O T L i z * O * O ^ (n - i - 1)) k) ∧ SumAt wx b (n + 1) (fun j => op Y O T L i j) ∧ SumAt wx wo.heap.size (n + 1) (fun j => nx Y O (op Y O T L i) k j) ∧ NmAt aT n cT aL m cL Y O w wx) (fun _ _ _ s40 _ => n + 1 - (intOf s40).toNat)
      case atStart => exact ⟨0, Nat.zero_le _, rfl, by simp [sumN], HNow0.out, HNext0.out.congr fun j _ => (nx_start _ _ _ j).symm, HB0.out⟩
      clear HNow0 HNext0 HB0
      case round =>
        obtain ⟨k, hk, rfl, rfl, hNow, hNext, hB⟩ := hrel
        have HNow := Lib.hid hNow
        have HNext := Lib.hid hNext
        have HB := Lib.hid hB
        clear hNow hNext hB
        obtain ⟨q1, q2, q3, q4⟩ := HB.out.cells
        have hsb := sumN_bd (f := fun z => op Y O T L i z * O * O ^ (n - i - 1)) (fun z => N4.out z) k
        have hk13 : (k : Int) * 8916100448256 ≤ 115909305827328 := by omega
        by_cases hlt2 : k < n + 1
        · have c1 := (HNow.out.cell hlt2).1
          have HSum : Hid (lk Y O T L i * O ^ (n - i) + sumN (fun z => op Y O T L i z * O * O ^ (n - i - 1)) (k + 1) = lk Y O T L i * O ^ (n - i) + sumN (fun z => op Y O T L i z * O * O ^ (n - i - 1)) k + op Y O T L i k * O * O ^ (n - i - 1)) := by unfold Hid; simp only [sumN]; omega
          have hcb := N1.out k
          have hc4 := N4.out k
          have hparts := part_bd hY hO h12 hcb.1 hcb.2
          obtain ⟨c, hc⟩ : ∃ c, c = op Y O T L i k := ⟨_, rfl⟩
          have HC := Lib.hid hc
          rw [← hc] at c1 hcb hc4 hparts HSum
          clear hc
          obtain ⟨s, hs⟩ : ∃ s, s = lk Y O T L i * O ^ (n - i) + sumN (fun z => op Y O T L i z * O * O ^ (n - i - 1)) k := ⟨_, rfl⟩
          rw [← hs] at HSum ⊢
          have hs0 : 0 ≤ s ∧ s ≤ 300000000000000 := by omega
          clear hs hsb
          obtain ⟨P, hP⟩ : ∃ P, P = O ^ (n - i - 1) := ⟨_, rfl⟩
          have HP := Lib.hid hP
          rw [← hP] at hc4 ⊢ HSum
          clear hP
          by_cases hc0 : c = 0
          · subst hc0
            have hse : Hid (s = s + 0 * O * P) := by unfold Hid; simp
            go_wp2
            go_roundw
            case rel => exact ⟨k + 1, by omega, by go_num, by rw [HSum.out, ← hse.out], HNow.out, HNext.out.congr fun j _ => (nx_same HC.out.symm j).symm, HB.out⟩
            case measure => simp [intOf]; omega
          · have G : (c == 0) = false := by simp [hc0]
            have hkn : k < n := by
              rcases Nat.lt_or_ge k n with h | h
              · exact h
              · exact absurd (HC.out.trans (op_high i k (by omega))) hc0
            have hkn' : (k : Int) < (n : Int) := by omega
            clear hc0
            obtain ⟨d1, d2⟩ := HNext.out.cell hlt2
            have hv1 := nx_bd (f := op Y O T L i) hY hO h12 N1.out k k
            obtain ⟨v1, hv1'⟩ : ∃ v, v = nx Y O (op Y O T L i) k k := ⟨_, rfl⟩
            have HV1 := Lib.hid hv1'
            rw [← hv1'] at d1 hv1
            clear hv1'
            obtain ⟨p1, p2, p3, p4, p5, p6⟩ := hparts
            obtain ⟨hc41, hc42⟩ := hc4
            obtain ⟨hs1, hs2⟩ := hs0
            obtain ⟨hw1, hw2⟩ := hv1
            have r1 : IntKind.i64.wrap (c * (O - Y)) = c * (O - Y) := (IntWalk.i64_left _).trans (IntWalk.wrap64_in _ ⟨by omega, by omega⟩)
            have r2 : IntKind.i64.wrap (v1 + c * (O - Y)) = v1 + c * (O - Y) := (IntWalk.i64_left _).trans (IntWalk.wrap64_in _ ⟨by omega, by omega⟩)
            have r3 : wrap64 (c * (O - Y)) = c * (O - Y) := IntWalk.wrap64_in _ ⟨by omega, by omega⟩
            have r4 : wrap64 (v1 + c * (O - Y)) = v1 + c * (O - Y) := IntWalk.wrap64_in _ ⟨by omega, by omega⟩
            go_wp2
            go_region
            have HNext2 : Hid (SumAt ((wr.setCell ⟨wo.heap.size, k, none⟩ (.int .i64 (v1 + c * (O - Y)))).drew) wo.heap.size (n + 1) (fun j => if j = k then v1 + c * (O - Y) else nx Y O (op Y O T L i) k j)) := (HNext.out.set hlt2 (v := v1 + c * (O - Y))).drew
            have HNow2 : Hid (SumAt ((wr.setCell ⟨wo.heap.size, k, none⟩ (.int .i64 (v1 + c * (O - Y)))).drew) b (n + 1) (fun j => op Y O T L i j)) := (HNow.out.setOther (a := ⟨wo.heap.size, k, none⟩) (by simp; omega) (.int .i64 (v1 + c * (O - Y)))).drew
            have HB2 : Hid (NmAt aT n cT aL m cL Y O w ((wr.setCell ⟨wo.heap.size, k, none⟩ (.int .i64 (v1 + c * (O - Y)))).drew)) := (HB.out.set (a := ⟨wo.heap.size, k, none⟩) hsz (.int .i64 (v1 + c * (O - Y)))).drew
            generalize (wr.setCell ⟨wo.heap.size, k, none⟩ (.int .i64 (v1 + c * (O - Y)))).drew = wB at HNext2 HNow2 HB2 ⊢
            clear q1 q2 q3 q4 c1 d1 d2 r1 r2 r3 r4
            obtain ⟨q1, q2, q3, q4⟩ := HB2.out.cells
            obtain ⟨d1, d2⟩ := HNext2.out.cell (show k + 1 < n + 1 by omega)
            have hne : ¬ k + 1 = k := by omega
            simp only [hne, if_false] at d1
            have hv2 := nx_bd (f := op Y O T L i) hY hO h12 N1.out k (k + 1)
            obtain ⟨v2, hv2'⟩ : ∃ v, v = nx Y O (op Y O T L i) k (k + 1) := ⟨_, rfl⟩
            have HV2 := Lib.hid hv2'
            rw [← hv2'] at d1 hv2
            clear hv2'
            obtain ⟨hx1, hx2⟩ := hv2
            have o1 : -9223372036854775808 ≤ c * Y ∧ c * Y ≤ 9223372036854775807 := by omega
            have o2 : -9223372036854775808 ≤ v2 + c * Y ∧ v2 + c * Y ≤ 9223372036854775807 := by omega
            have o3 : -9223372036854775808 ≤ (k : Int) + 1 ∧ (k : Int) + 1 ≤ 9223372036854775807 := by omega
            have r7 : ((k : Int) + 1).toNat = k + 1 := by omega
            have r8 : 0 ≤ (k : Int) + 1 := by omega
            have r3 : wrap64 (c * Y) = c * Y := IntWalk.wrap64_in _ o1
            have r4 : wrap64 (v2 + c * Y) = v2 + c * Y := IntWalk.wrap64_in _ o2
            have r5 : wrap64 ((k : Int) + 1) = (k : Int) + 1 := IntWalk.wrap64_in _ o3
            have r1 : IntKind.i64.wrap (c * Y) = c * Y := (IntWalk.i64_left _).trans r3
            have r2 : IntKind.i64.wrap (v2 + c * Y) = v2 + c * Y := (IntWalk.i64_left _).trans r4
            have r6 : IntKind.i64.wrap ((k : Int) + 1) = (k : Int) + 1 := (IntWalk.i64_left _).trans r5
            clear hne
            go_wp2
            go_still_tail 11, (by kernel_rfl)
            change wpList _ _ _ _ _ wB.drew
            clear r1 r2 r3 r4 r5 r6 r7 r8
            have HNextD := HNext2.out.drew
            have HNowD := HNow2.out.drew
            have HBD := HB2.out.drew
            generalize wB.drew = wD at HNextD HNowD HBD ⊢
            have HNextE := Lib.hid HNextD
            have HNowE := Lib.hid HNowD
            have HBE := Lib.hid HBD
            clear HNextD HNowD HBD d1 d2 q1 q2 q3 q4
            obtain ⟨d1, d2⟩ := HNextE.out.cell (show k + 1 < n + 1 by omega)
            have HNextF : Hid (SumAt (wD.setCell ⟨wo.heap.size, k + 1, none⟩ (.int .i64 (v2 + c * Y))) wo.heap.size (n + 1) (fun j => nx Y O (op Y O T L i) (k + 1) j)) := by
              refine (HNextE.out.set (j := k + 1) (v := v2 + c * Y) (by omega)).congr fun j _ => ?_
              rw [nx_step, HV2.out, HV1.out, HC.out]
            have HNowF := Lib.hid (HNowE.out.setOther (a := ⟨wo.heap.size, k + 1, none⟩) (by simp; omega) (.int .i64 (v2 + c * Y)))
            have HBF := Lib.hid (HBE.out.set (a := ⟨wo.heap.size, k + 1, none⟩) hsz (.int .i64 (v2 + c * Y)))
            go_wp2
            go_roundw
            case rel => exact ⟨k + 1, by omega, by go_num, by rw [HSum.out], HNowF.out, HNextF.out, HBF.out⟩
            case measure => simp [intOf]; omega
        · obtain rfl : k = n + 1 := by omega
          have HLk := Lib.hid (lk_round (Y := Y) (O := O) (T := T) (L := L) hlt)
          rw [HLk.out]
          have HN3 := Lib.hid (HNext.out.congr fun j hj => nx_end (op_low i (-1) (by omega)) j hj)
          clear hsb hk13 HNext HNow q1 q2 q3 q4
          obtain ⟨bT, oT, rfl, hcT⟩ := HT.out i hlt
          obtain ⟨bL, oL, rfl, hcL⟩ := HL.out i (by omega)
          have HcT := Lib.hid hcT
          have HcL := Lib.hid hcL
          have hbT := World.block_lt_of_cell? _ _ hcT
          have hbL := World.block_lt_of_cell? _ _ hcL
          clear hcT hcL
          go_wp2
          go_loopw [8, 15, 85, 88] (fun s8 _ s85 _ wx => ∃ k : Nat, k ≤ n + 1 ∧ s85 = .int .i64 k ∧ s8 = .int .i64 (tk Y O T L i * O ^ (n - i) + sumN (fun z => tf Y O T L i z * O ^ (n - i - 1)) k) ∧ SumAt wx wo.heap.size (n + 1) (fun j => if j < k then op Y O T L (i + 1) j else fu Y O (op Y O T L i) j) ∧ NmAt (some ⟨bT, oT, none⟩) n cT (some ⟨bL, oL, none⟩) m cL Y O w wx) (fun _ _ s85 _ _ => n + 1 - (intOf s85).toNat)
          case atStart => exact ⟨0, Nat.zero_le _, rfl, by simp [sumN], HN3.out.congr fun j _ => (if_neg (Nat.not_lt_zero _)).symm, HB.out⟩
          clear HN3 HB
          case round =>
            obtain ⟨k, hk, rfl, rfl, hNext, hB⟩ := hrel
            have HNext := Lib.hid hNext
            have HB := Lib.hid hB
            clear hNext hB
            obtain ⟨q1, q2, q3, q4⟩ := HB.out.cells
            have tc : wr.cell? ⟨bT, oT + i, none⟩ = some (.int .i64 (T i)) := by rw [HB.out.bel.cell (p := ⟨bT, oT + i, none⟩) hbT]; exact HcT.out
            have lc : wr.cell? ⟨bL, oL + i, none⟩ = some (.int .i64 (L i)) := by rw [HB.out.bel.cell (p := ⟨bL, oL + i, none⟩) hbL]; exact HcL.out
            have ei : (i : Int) + 1 - 1 = (i : Int) := by omega
            have hsb := sumN_bd (f := fun z => tf Y O T L i z * O ^ (n - i - 1)) (tf_bd N5.out) k
            have hk13 : (k : Int) * 8916100448256 ≤ 115909305827328 := by omega
            by_cases hlt3 : k < n + 1
            · obtain ⟨d1, d2⟩ := HNext.out.cell hlt3
              simp only [Nat.lt_irrefl, if_false] at d1
              have hvb := fu_bd (T := T) (L := L) hY hO i k
              have hpm := pow_max h1 h12 (i := i + 1) (by omega)
              have hvp := N5.out k
              have HT3 := Lib.hid (tf_cases (Y := Y) (O := O) (T := T) (L := L) (i := i) (b := k))
              have HSum0 : Hid (tk Y O T L i * O ^ (n - i) + sumN (fun z => tf Y O T L i z * O ^ (n - i - 1)) (k + 1) = tk Y O T L i * O ^ (n - i) + sumN (fun z => tf Y O T L i z * O ^ (n - i - 1)) k + tf Y O T L i k * O ^ (n - i - 1)) := by unfold Hid; simp only [sumN]; omega
              obtain ⟨v, hv⟩ : ∃ v, v = fu Y O (op Y O T L i) k := ⟨_, rfl⟩
              have HV := Lib.hid hv
              rw [← hv] at d1 hvb hvp HT3
              clear hv
              obtain ⟨s, hs⟩ : ∃ s, s = tk Y O T L i * O ^ (n - i) + sumN (fun z => tf Y O T L i z * O ^ (n - i - 1)) k := ⟨_, rfl⟩
              rw [← hs] at HSum0 ⊢
              have hs0 : 0 ≤ s ∧ s ≤ 300000000000000 := by omega
              clear hs hsb
              obtain ⟨P, hP⟩ : ∃ P, P = O ^ (n - i - 1) := ⟨_, rfl⟩
              rw [← hP] at hvp HSum0 nb2 nb3 ⊢
              clear hP
              have hv0 : 0 ≤ v ∧ v ≤ 8916100448256 := ⟨hvb.1, Int.le_trans hvb.2 hpm.2⟩
              clear hvb hpm
              obtain ⟨hv1, hv2⟩ := hv0
              obtain ⟨hs1, hs2⟩ := hs0
              obtain ⟨hp1, hp2⟩ := hvp
              by_cases c1 : (k : Int) ≤ T i
              · have HZ := Lib.hid (HT3.out.1 c1)
                have HSum : Hid (tk Y O T L i * O ^ (n - i) + sumN (fun z => tf Y O T L i z * P) (k + 1) = s + v * P) := by rw [Hid, HSum0.out, HZ.out.1]
                have HNextS : Hid (SumAt (wr.setCell ⟨wo.heap.size, k, none⟩ (.int .i64 0)) wo.heap.size (n + 1) (fun j => if j < k + 1 then op Y O T L (i + 1) j else fu Y O (op Y O T L i) j)) := (HNext.out.set (j := k) (v := 0) hlt3).congr fun j _ => op_next j 0 HZ.out.2.symm
                have HBS := Lib.hid (HB.out.set (a := ⟨wo.heap.size, k, none⟩) hsz (.int .i64 0))
                go_wp2
                go_roundw
                case rel => exact ⟨k + 1, by omega, by go_num, by rw [HSum.out], HNextS.out, HBS.out⟩
                case measure => simp [intOf]; omega
              · by_cases c2 : L i ≤ (k : Int)
                · have HZ := Lib.hid (HT3.out.2.1 c1 c2)
                  have HSum : Hid (tk Y O T L i * O ^ (n - i) + sumN (fun z => tf Y O T L i z * P) (k + 1) = s) := by rw [Hid, HSum0.out, HZ.out.1]; simp
                  have HNextS : Hid (SumAt (wr.setCell ⟨wo.heap.size, k, none⟩ (.int .i64 0)) wo.heap.size (n + 1) (fun j => if j < k + 1 then op Y O T L (i + 1) j else fu Y O (op Y O T L i) j)) := (HNext.out.set (j := k) (v := 0) hlt3).congr fun j _ => op_next j 0 HZ.out.2.symm
                  have HBS := Lib.hid (HB.out.set (a := ⟨wo.heap.size, k, none⟩) hsz (.int .i64 0))
                  go_wp2
                  go_roundw
                  case rel => exact ⟨k + 1, by omega, by go_num, by rw [HSum.out], HNextS.out, HBS.out⟩
                  case measure => simp [intOf]; omega
                · have HZ := Lib.hid (HT3.out.2.2 c1 c2)
                  have HSum : Hid (tk Y O T L i * O ^ (n - i) + sumN (fun z => tf Y O T L i z * P) (k + 1) = s) := by rw [Hid, HSum0.out, HZ.out.1]; simp
                  have HNextS : Hid (SumAt wr wo.heap.size (n + 1) (fun j => if j < k + 1 then op Y O T L (i + 1) j else fu Y O (op Y O T L i) j)) := HNext.out.congr fun j _ => op_next0 (HV.out.symm.trans HZ.out.2.symm) j
                  go_wp2
                  go_roundw
                  case rel => exact ⟨k + 1, by omega, by go_num, by rw [HSum.out], HNextS.out, HB.out⟩
                  case measure => simp [intOf]; omega
            · obtain rfl : k = n + 1 := by omega
              have HTk := Lib.hid (tk_round (Y := Y) (O := O) (T := T) (L := L) hlt)
              rw [HTk.out]
              have HNu : Hid (NuAt (some ⟨bT, oT, none⟩) n cT (some ⟨bL, oL, none⟩) m cL Y O T L n w (i + 1) wo.heap.size wr) := ⟨HB.out, HNext.out.congr fun j hj => if_pos hj, hsz⟩
              clear hsb hk13 q1 q2 q3 q4 tc lc
              go_wp2
              go_roundw
              case rel => exact ⟨i + 1, wo.heap.size, by omega, by go_num, rfl, rfl, rfl, HNu.out⟩
              case measure => simp [intOf]; omega
    · obtain rfl : n = i := by omega
      have HBel := Lib.hid HA.out.base.bel
      have e1 : Hid (tk Y O T L n * O ^ (n - n) = tk Y O T L n) := by unfold Hid; simp
      have e2 : Hid (lk Y O T L n * O ^ (n - n) = lk Y O T L n) := by unfold Hid; simp
      rw [e1.out, e2.out]
      go_wp2
      go_ret2
      exact ⟨rfl, HBel.out⟩

end Go.Proofs.Ytcedhcpjnoppmaa
