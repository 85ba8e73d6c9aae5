import Derived.Test.YtcedhcpjnoppmaaC2
namespace Go.Proofs.Ytcedhcpjnoppmaa
open Go.RowKit Go.Maps

def CntOut (Y O : Int) (T L : Nat → Int) (n : Nat) (w : World) (e : Ending) (w' : World) : Prop := e = .returned (tlV (tk Y O T L n) (lk Y O T L n) (O ^ n)) ∧ Below w.heap.size w w'

theorem cnt_start (aT : Option Addr) (nT cT : Nat) (aL : Option Addr) (nL cL : Nat) (Y O : Int) (T L : Nat → Int) (w w5 : World)
    (hw : WaysAt w5 (w.heap.size + 1 + 1 + 1 + 1) 1 0 (fun z => if z = ((0 : Nat) : Int) then 1 else (fun _ => 0) z))
    (hg : (((((w.alloc (.cells #[.slice aT nT cT, .slice aL nL cL] 32)).alloc (.cells #[.int .i64 Y, .int .i64 O] 34)).alloc (.cells (tlC 0 0 0) 81)).alloc (.cells (tlC 0 0 1) 81)).alloc (.map #[] 0)).grownBy w5 (some (w.heap.size + 1 + 1 + 1 + 1))) :
    OutAt aT nT cT aL nL cL Y O T L w 0 (w.heap.size + 1 + 1 + 1 + 1) 1 w5 := by
  refine ⟨?_, hw.congr fun z => by simp [op], by omega, by simp⟩
  refine CnBase.grown (wr := ((((w.alloc (.cells #[.slice aT nT cT, .slice aL nL cL] 32)).alloc (.cells #[.int .i64 Y, .int .i64 O] 34)).alloc (.cells (tlC 0 0 0) 81)).alloc (.cells (tlC 0 0 1) 81)).alloc (.map #[] 0)) ?_ hg (fun k hk => by cases hk; omega)
  have b1 : ∀ (u : World) (o : Obj) (k : Nat), k < u.heap.size → (u.alloc o).heap[k]? = u.heap[k]? := fun u o k h => Below.heap_alloc _ _ _ (by omega)
  refine ⟨?_, ?_, ?_, ?_, ?_, by simp⟩
  · rw [b1 _ _ _ (by simp <;> omega), b1 _ _ _ (by simp <;> omega), b1 _ _ _ (by simp <;> omega), b1 _ _ _ (by simp)]; exact heap_alloc_new w _
  · rw [b1 _ _ _ (by simp <;> omega), b1 _ _ _ (by simp <;> omega), b1 _ _ _ (by simp)]; exact heap_two2 w _ _
  · rw [b1 _ _ _ (by simp <;> omega), b1 _ _ _ (by simp)]
    have := heap_alloc_new ((w.alloc (.cells #[.slice aT nT cT, .slice aL nL cL] 32)).alloc (.cells #[.int .i64 Y, .int .i64 O] 34)) (.cells (tlC 0 0 0) 81)
    simpa using this
  · rw [b1 _ _ _ (by simp)]
    have := heap_alloc_new (((w.alloc (.cells #[.slice aT nT cT, .slice aL nL cL] 32)).alloc (.cells #[.int .i64 Y, .int .i64 O] 34)).alloc (.cells (tlC 0 0 0) 81)) (.cells (tlC 0 0 1) 81)
    rw [show ((((w.alloc (.cells #[.slice aT nT cT, .slice aL nL cL] 32)).alloc (.cells #[.int .i64 Y, .int .i64 O] 34)).alloc (.cells (tlC 0 0 0) 81))).heap.size = w.heap.size + 1 + 1 + 1 by simp] at this
    rw [this]; simp [tk, lk]
  · exact ((((((Below.refl _ _).alloc (Nat.le_refl _) _).alloc (by simp) _).alloc (by simp <;> omega) _).alloc (by simp <;> omega) _).alloc (by simp <;> omega) _)

set_option maxHeartbeats 4000000 in
set_option maxRecDepth 100000 in
theorem count_any (aT : Option Addr) (n cT : Nat) (aL : Option Addr) (nL cL : Nat) (T L : Nat → Int) (Y O : Int) (w : World) (hn : n ≤ 12) (hnL : n ≤ nL) (hT : Ints w aT n T) (hL : Ints w aL nL L) (hc : isCh Y O = true) :
    Calls Try.prog 55 #[plV aT n cT aL nL cL, chV Y O] w fun e w' => CntOut Y O T L n w e w' := by
  obtain ⟨h1, h12, hY, hO⟩ := isCh_iff.1 hc
  have HT := Lib.hid hT
  have HL := Lib.hid hL
  have hmm := @run_makeMap Try.prog
  clear hT hL hc
  go_enter Try.func55, Try.ntmps55
  go_wp2_with (with_reducible refine wpList_insert_ways _ rfl _ _ _ rfl (w.heap.size + 1 + 1 + 1 + 1) 0 0 (fun _ => 0) rfl ?_ (by unfold maxLen; omega) 0 (Nat.le_refl _) (by omega) rfl 1 (by omega) rfl ?_)
  · have h := ways_made ((((w.alloc (.cells #[.slice aT n cT, .slice aL nL cL] 32)).alloc (.cells #[.int .i64 Y, .int .i64 O] 34)).alloc (.cells (tlC 0 0 0) 81)).alloc (.cells (tlC 0 0 1) 81)) 0
    rw [show ((((w.alloc (.cells #[.slice aT n cT, .slice aL nL cL] 32)).alloc (.cells #[.int .i64 Y, .int .i64 O] 34)).alloc (.cells (tlC 0 0 0) 81)).alloc (.cells (tlC 0 0 1) 81)).heap.size = w.heap.size + 1 + 1 + 1 + 1 by simp] at h
    exact h
  intro w5 hW5 hg5
  have HS := Lib.hid (cnt_start aT n cT aL nL cL Y O T L w w5 hW5 hg5)
  clear hW5 hg5
  obtain ⟨q1, q2, q3, q4⟩ := HS.out.base.cells
  go_wp2
  go_loopw [6, 17] (fun mv iv wr => ∃ k b m : Nat, k ≤ n ∧ iv = .int .i64 k ∧ mv = .map (some b) ∧ OutAt aT n cT aL nL cL Y O T L w k b m wr) (fun _ iv _ => n - (intOf iv).toNat)
  case atStart => exact ⟨0, _, 1, Nat.zero_le _, rfl, rfl, HS.out⟩
  clear q1 q2 q3 q4 HS
  case round =>
    obtain ⟨k, b, m, hk, rfl, rfl, hA⟩ := hrel
    have HA := Lib.hid hA
    clear hA
    by_cases hlt : k < n
    · obtain ⟨hb1, hb2, hb3, hb4⟩ := tally_bd (T := T) (L := L) hY hO h1 h12 (show k < 12 by omega)
      have HB4 := Lib.hid hb4
      clear hb4
      obtain ⟨q1, q2, q3, q4⟩ := HA.out.base.cells
      obtain ⟨t1, t2, t3, t4, t5, t6⟩ := tl_cells HA.out.base.tal
      go_wp2_with fail
      refine (tltimes_any _ _ _ _ _ hb1.1 (by omega) hb2.1 (by omega) hb3.1 (by omega)).mono ?_
      rintro e wa ⟨rfl, hba⟩
      have HBa := Lib.hid (HA.out.base.keep HA.out.base.size hba)
      have HWa := Lib.hid (HA.out.ways.below hba HA.out.ways.lt)
      clear q1 q2 q3 q4 t1 t2 t3 t4 t5 t6 hba
      obtain ⟨q1, q2, q3, q4⟩ := HBa.out.cells
      obtain ⟨t1, t2, t3, t4, t5, t6⟩ := tl_cells HBa.out.tal
      have HBb := Lib.hid (((HBa.out.set0 (tk Y O T L k * O)).set1 (lk Y O T L k * O)).set2 (O ^ k * O))
      have hb4 : w.heap.size + 1 + 1 + 1 < b := by have := HA.out.hb; omega
      have HWb := Lib.hid (((HWa.out.setCell (a := ⟨w.heap.size + 1 + 1 + 1, 0, none⟩) (by simp; omega) (.int .i64 (tk Y O T L k * O))).setCell (a := ⟨w.heap.size + 1 + 1 + 1, 1, none⟩) (by simp; omega) (.int .i64 (lk Y O T L k * O))).setCell (a := ⟨w.heap.size + 1 + 1 + 1, 2, none⟩) (by simp; omega) (.int .i64 (O ^ k * O)))
      have Hm := Lib.hid HA.out.hm
      have H2 := two_pow (show k ≤ 12 by omega)
      go_wp2_with fail
      refine (further_any b m k (op Y O T L k) Y O _ hY hO h12 (by omega) (by have := Hm.out; omega) HB4.out HWb.out).mono ?_
      rintro e wf ⟨b', rfl, hb', hW', hbf⟩
      have HBf := Lib.hid (HBb.out.keep HBb.out.size hbf)
      have HWf := Lib.hid hW'
      have Hb' : Hid (w.heap.size + 4 ≤ b') := Nat.le_trans HBb.out.size hb'
      clear q1 q2 q3 q4 t1 t2 t3 t4 t5 t6 hbf hW' hb' HBa HWa HBb HWb hb4
      go_wp2_with (at_range; refine wpList_range_ways _ rfl _ rfl b' (2 * m) (k + 1) _ rfl HWf.out ?_; intro w0 lf0 cnt0 hr0 hz0 hc0 hg0 hs0)
      have HIn := Lib.hid (in_start HBf.out hr0 hz0 hg0 Hb'.out)
      clear hr0 hz0 hg0 hs0 hc0
      go_frame
      go_loopw [8, 9, 10] (fun _ _ _ wr => ∃ (lf : Int → Bool) (cnt : Nat), InAt aT n cT aL nL cL Y O T L w k b' wf.heap.size (2 * m) wr lf cnt) (fun _ _ _ wr => wr.rangeLeft b' wf.heap.size)
      case atStart => exact ⟨lf0, cnt0, HIn.out⟩
      clear HIn
      case round =>
        obtain ⟨lf, cnt, hI⟩ := hrel
        have HI := Lib.hid hI
        clear hI
        go_wp2_with (at_next; refine wpList_next_ways _ rfl _ rfl b' wf.heap.size (2 * m) (k + 1) _ lf cnt rfl HI.out.rng ?_ ?_)
        · intro hl
          have HE := Lib.hid (in_end HI.out hl (by have := Hm.out; rw [Nat.pow_succ]; omega))
          clear hl
          go_wp2
          go_roundw
          case rel => exact ⟨k + 1, b', 2 * m, by omega, by go_num, rfl, HE.out⟩
          case measure => simp [intOf]; omega
        · intro j c w1 cnt1 hcc hj hl hr1 hlt1 hg1 hs1 hen
          have Hc : Hid (c = fu Y O (op Y O T L k) j) := by rw [hcc]; unfold inF; rw [hl]; rfl
          have hib := in_bd (T := T) (L := L) hY hO h1 h12 (show k < 12 by omega) hl hj
          rw [← Hc.out] at hib
          obtain ⟨⟨i1, i2⟩, ⟨i3, i4⟩, i5, i6⟩ := hib
          have HB1 := Lib.hid (HI.out.base.grown hg1 (fun k hk => by cases hk; exact HI.out.hr))
          have hIb := HI.out.hb
          have hIr := HI.out.hr
          have HR2 := Lib.hid (hr1.setCell (a := ⟨w.heap.size + 1 + 1 + 1, 1, none⟩) (by simp; omega) (by simp; omega) (.int .i64 (lk Y O T L k * O + sumN (dn lf (fu Y O (op Y O T L k))) (k + 2) + c)))
          have HB2 := Lib.hid (HB1.out.set1 (lk Y O T L k * O + sumN (dn lf (fu Y O (op Y O T L k))) (k + 2) + c))
          obtain ⟨q1, q2, q3, q4⟩ := HB1.out.cells
          obtain ⟨t1, t2, t3, t4, t5, t6⟩ := tl_cells HB1.out.tal
          have Hl := Lib.hid hl
          have Hj := Lib.hid hj
          clear HB1 hcc hr1 hg1 hs1 hl hj
          have hj13 : j ≤ 13 := by have := Hj.out; omega
          have hj13' : (j : Int) ≤ 13 := by omega
          have hk12' : (k : Int) < 12 := by omega
          rcases av_cases T L k j with ha | ha | ha
          · have Hav := Lib.hid ha
            clear ha
            go_wp2_with fail
            refine (after_r 0 aT n cT aL nL cL T L k j _ (HT.out.keep (Nat.le_refl _) HB2.out.bel) (HL.out.keep (Nat.le_refl _) HB2.out.bel) hlt (by omega) hn Hav.out).mono ?_
            rintro e w2 ⟨rfl, hb2⟩
            have HB3 := Lib.hid (HB2.out.keep HB2.out.size hb2)
            have HR3 := Lib.hid (HR2.out.below hb2 HR2.out.ways.lt HR2.out.lt)
            clear q1 q2 q3 q4 t1 t2 t3 t4 t5 t6 hb2 HB2 HR2
            obtain ⟨t1, t2, t3, t4, t5, t6⟩ := tl_cells HB3.out.tal
            have HN := Lib.hid (in_step HI.out Hl.out Hj.out HB3.out (by unfold tf; rw [if_neg (by rw [Hav.out]; decide), Int.add_zero]) (by rw [Hc.out]) HR3.out (inF_set Hl.out Hav.out))
            go_wp2
            go_roundw
            case rel => exact ⟨_, cnt1, HN.out⟩
            case measure => rw [HN.out.rng.left_eq, HI.out.rng.left_eq]; exact hlt1
          · have Hav := Lib.hid ha
            clear ha
            go_wp2_with fail
            refine (after_r 1 aT n cT aL nL cL T L k j _ (HT.out.keep (Nat.le_refl _) HB2.out.bel) (HL.out.keep (Nat.le_refl _) HB2.out.bel) hlt (by omega) hn Hav.out).mono ?_
            rintro e w2 ⟨rfl, hb2⟩
            have HB3 := Lib.hid (HB2.out.keep HB2.out.size hb2)
            have HR3 := Lib.hid (HR2.out.below hb2 HR2.out.ways.lt HR2.out.lt)
            clear q1 q2 q3 q4 t1 t2 t3 t4 t5 t6 hb2 HB2 HR2
            obtain ⟨t1, t2, t3, t4, t5, t6⟩ := tl_cells HB3.out.tal
            have HB4 := Lib.hid (HB3.out.set0 (tk Y O T L k * O + sumN (dn lf (tf Y O T L k)) (k + 2) + c))
            have HR4 := Lib.hid (HR3.out.setCell (a := ⟨w.heap.size + 1 + 1 + 1, 0, none⟩) (by simp; omega) (by simp; omega) (.int .i64 (tk Y O T L k * O + sumN (dn lf (tf Y O T L k)) (k + 2) + c)))
            go_wp2_with (at_delete; refine wpList_delete_ways _ rfl _ _ rfl b' wf.heap.size (2 * m) (k + 1) _ _ cnt1 rfl HR4.out j (by omega) (by simp) rfl ?_)
            intro w4 cnt4 hR4 hle hg4
            have HB5 := Lib.hid (HB4.out.grown hg4 (fun k hk => by cases hk; exact hIb))
            have HN := Lib.hid (in_step HI.out Hl.out Hj.out HB5.out (by unfold tf; rw [if_pos Hav.out, Hc.out]) (by rw [Hc.out]) hR4 (inF_del (by rw [Hav.out]; decide)))
            clear hR4 hg4
            go_wp2
            go_roundw
            case rel => exact ⟨_, cnt4, HN.out⟩
            case measure => rw [HN.out.rng.left_eq, HI.out.rng.left_eq]; omega
          · have Hav := Lib.hid ha
            clear ha
            go_wp2_with fail
            refine (after_r 2 aT n cT aL nL cL T L k j _ (HT.out.keep (Nat.le_refl _) HB2.out.bel) (HL.out.keep (Nat.le_refl _) HB2.out.bel) hlt (by omega) hn Hav.out).mono ?_
            rintro e w2 ⟨rfl, hb2⟩
            have HB3 := Lib.hid (HB2.out.keep HB2.out.size hb2)
            have HR3 := Lib.hid (HR2.out.below hb2 HR2.out.ways.lt HR2.out.lt)
            clear q1 q2 q3 q4 t1 t2 t3 t4 t5 t6 hb2 HB2 HR2
            obtain ⟨t1, t2, t3, t4, t5, t6⟩ := tl_cells HB3.out.tal
            go_wp2_with (at_delete; refine wpList_delete_ways _ rfl _ _ rfl b' wf.heap.size (2 * m) (k + 1) _ _ cnt1 rfl HR3.out j (by omega) (by simp) rfl ?_)
            intro w4 cnt4 hR4 hle hg4
            have HB5 := Lib.hid (HB3.out.grown hg4 (fun k hk => by cases hk; exact hIb))
            have HN := Lib.hid (in_step HI.out Hl.out Hj.out HB5.out (by unfold tf; rw [if_neg (by rw [Hav.out]; decide), Int.add_zero]) (by rw [Hc.out]) hR4 (inF_del (by rw [Hav.out]; decide)))
            clear hR4 hg4
            go_wp2
            go_roundw
            case rel => exact ⟨_, cnt4, HN.out⟩
            case measure => rw [HN.out.rng.left_eq, HI.out.rng.left_eq]; omega
    · obtain rfl : n = k := by omega
      obtain ⟨t1, t2, t3, t4, t5, t6⟩ := tl_cells HA.out.base.tal
      have r0 : wr.cell? ⟨w.heap.size + 1 + 1, 0, none⟩ = some (.int .i64 0) := block_cell HA.out.base.res 0
      have r1 : wr.cell? ⟨w.heap.size + 1 + 1, 1, none⟩ = some (.int .i64 0) := block_cell HA.out.base.res 1
      have r2 : wr.cell? ⟨w.heap.size + 1 + 1, 2, none⟩ = some (.int .i64 0) := block_cell HA.out.base.res 2
      have r3 := block_free HA.out.base.res 0
      have r4 := block_free HA.out.base.res 1
      have r5 := block_free HA.out.base.res 2
      obtain ⟨q1, q2, q3, q4⟩ := HA.out.base.cells
      have HBel := Lib.hid HA.out.base.bel
      go_wp2
      exact bodyPost_ret (v := tlV (tk Y O T L n) (lk Y O T L n) (O ^ n)) (by simp [results, Try.results55, go_sem, t1, t2, t3, r0, r1, r2]) rfl ⟨rfl, ((HBel.out.setCell (by simp; omega) _).setCell (by simp; omega) _).setCell (by simp; omega) _⟩

end Go.Proofs.Ytcedhcpjnoppmaa
