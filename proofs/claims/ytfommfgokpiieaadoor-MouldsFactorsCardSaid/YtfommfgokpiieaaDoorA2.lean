import Derived.Test.YtfommfgokpiieaaDoorA1
import Derived.StillTailTactics
namespace Go.Proofs.YtfommfgokpiieaaDoor
open Go.RowKit

abbrev pV (x y : Int) : Value := .agg #[.int .i64 x, .int .i64 y]
def pcell (x y : Int) : List Value := [.int .i64 x, .int .i64 y]
theorem pcell_len (x y : Int) : (pcell x y).length = 2 := rfl
theorem pcell_ok (x y : Int) : ∀ u ∈ pcell x y, u.oneCell' = true := by
  intro u hu
  simp [pcell] at hu
  rcases hu with rfl | rfl <;> rfl
theorem Tryd.infoP2 : (Tryd.prog.info? 33).map (fun i => (i.zero, i.size, i.bytes)) = some (some (.agg #[.int .i64 0, .int .i64 0]), 2, 16) := by kernel_rfl

theorem equalIn_pt (a b a' b' : Int) (r : Bool) (hr : (a == a' && b == b') = r) : ∀ w, (Op.equalIn 10000 33 (.agg #[.int .i64 a, .int .i64 b]) (.agg #[.int .i64 a', .int .i64 b'])).run Tryd.prog w = .ok r w := by
  intro w
  have u3 := Tryd.underlying3
  have a3 := Tryd.isAgg3
  have z3 := Tryd.sizeOf3
  subst hr
  rw [show (10000 : Nat) = 9999 + 1 from rfl, Op.equalIn]
  simp only [Sem.run_bind, run_underlying Tryd.underlying33, Result.andThen_ok]
  simp only [Std.Legacy.Range.forIn_eq_forIn_range', Std.Legacy.Range.size, Nat.sub_zero, Nat.add_sub_cancel, Nat.div_one, List.range'_succ, List.range'_zero, List.forIn_cons, List.forIn_nil]
  go_simp
  by_cases h1 : a = a' <;> by_cases h2 : b = b' <;> simp [h1, h2]
theorem eql_pt (a b a' b' : Int) (r : Bool) (hr : (a == a' && b == b') = r) : ∀ w, (binOp .eql 33 (.agg #[.int .i64 a, .int .i64 b]) (.agg #[.int .i64 a', .int .i64 b'])).run Tryd.prog w = .ok (.bool r) w := by
  intro w
  have h := equalIn_pt a b a' b' r hr
  simp only [binOp]
  simp only [Op.equal, Op.maxDepth, Sem.run_bind, h, Result.andThen_ok, Sem.run_pure]

/-- The steps of the letters, as the package's variable holds them. -/
structure StepsAt (w : World) : Prop where
  c0 : w.cell? ⟨0, 0, none⟩ = some (.int .i64 1)
  c1 : w.cell? ⟨0, 1, none⟩ = some (.int .i64 0)
  c2 : w.cell? ⟨0, 2, none⟩ = some (.int .i64 0)
  c3 : w.cell? ⟨0, 3, none⟩ = some (.int .i64 1)
  c4 : w.cell? ⟨0, 4, none⟩ = some (.int .i64 (-1))
  c5 : w.cell? ⟨0, 5, none⟩ = some (.int .i64 0)
  c6 : w.cell? ⟨0, 6, none⟩ = some (.int .i64 0)
  c7 : w.cell? ⟨0, 7, none⟩ = some (.int .i64 (-1))
theorem StepsAt.lt {w : World} (h : StepsAt w) : 0 < w.heap.size := World.block_lt_of_cell? _ _ h.c0
theorem StepsAt.keep {w w' : World} (h : StepsAt w) (hb : Below w.heap.size w w') : StepsAt w' := by
  have k : ∀ j, w'.cell? ⟨0, j, none⟩ = w.cell? ⟨0, j, none⟩ := fun j => hb.cell (p := ⟨0, j, none⟩) h.lt
  exact ⟨by rw [k]; exact h.c0, by rw [k]; exact h.c1, by rw [k]; exact h.c2, by rw [k]; exact h.c3, by rw [k]; exact h.c4, by rw [k]; exact h.c5, by rw [k]; exact h.c6, by rw [k]; exact h.c7⟩
theorem StepsAt.at {w : World} (h : StepsAt w) {b : UInt8} (hb : isL b = true) : w.cell? ⟨0, li b * 2, none⟩ = some (.int .i64 (sx b)) ∧ w.cell? ⟨0, li b * 2 + 1, none⟩ = some (.int .i64 (sy b)) := by
  rcases isL_or hb with rfl | rfl | rfl | rfl
  · exact ⟨h.c0, h.c1⟩
  · exact ⟨h.c2, h.c3⟩
  · exact ⟨h.c4, h.c5⟩
  · exact ⟨h.c6, h.c7⟩
theorem li_lt (b : UInt8) : li b < 4 := by unfold li; split <;> (try split) <;> (try split) <;> omega

set_option maxRecDepth 100000 in
theorem sum_any (x0 y0 x1 y1 : Int) (w : World) (h0 : -1000 ≤ x0 ∧ x0 ≤ 1000) (h1 : -1000 ≤ y0 ∧ y0 ≤ 1000) (h2 : -1000 ≤ x1 ∧ x1 ≤ 1000) (h3 : -1000 ≤ y1 ∧ y1 ≤ 1000) :
    Calls Tryd.prog 54 #[pV x0 y0, pV x1 y1] w fun e w' => e = .returned (pV (x0 + x1) (y0 + y1)) ∧ Below w.heap.size w w' := by
  have HB : Hid (∀ o1 o2 o3, Below w.heap.size w (((w.alloc o1).alloc o2).alloc o3)) := three_le w
  obtain ⟨a1, a2⟩ := h0
  obtain ⟨a3, a4⟩ := h1
  obtain ⟨a5, a6⟩ := h2
  obtain ⟨a7, a8⟩ := h3
  go_enter Tryd.func54, Tryd.ntmps54
  go_wp2
  refine bodyPost_ret (v := .agg #[.int .i64 (x0 + x1), .int .i64 (y0 + y1)]) (by simp [results, Tryd.results54, go_sem]) rfl ⟨rfl, ?_⟩
  exact HB.out _ _ _

/-- What holds ahead of a round of 'path'. -/
structure PInv (l : List UInt8) (w wr : World) (v : Value) (k : Nat) : Prop where
  le : k ≤ l.length
  bel : Below w.heap.size w wr
  at2 : At2 wr w.heap.size (.int .i64 (px l k)) (.int .i64 (py l k))
  own : OwnC wr (w.heap.size + 1) 33 2 v (k + 1) (fun i => pcell (px l i) (py l i))
theorem PInv.keep {l : List UInt8} {w wr w2 : World} {v : Value} {k : Nat} (h : PInv l w wr v k) (hb : Below wr.heap.size wr w2) : PInv l w w2 v k :=
  ⟨h.le, band h.bel hb, h.at2.keep hb, h.own.keep hb⟩
/-- What 'path' hands back. -/
def PathOut (l : List UInt8) (w : World) (r : Ending) (w' : World) : Prop :=
  ∃ v, r = .returned v ∧ OwnC w' (w.heap.size + 1) 33 2 v (l.length + 1) (fun i => pcell (px l i) (py l i)) ∧ Below w.heap.size w w'

set_option maxHeartbeats 2000000 in
set_option maxRecDepth 100000 in
theorem path_any (s : ByteArray) (l : List UInt8) (w : World) (hl : s.data.toList = l) (hw : wordB l = true) (hS : StepsAt w) :
    Calls Tryd.prog 51 #[.string s] w fun r w' => PathOut l w r w' := by
  have hn : s.size ≤ 24 := by have := (wordB_iff.1 hw).1; rw [← hl] at this; exact this
  have HW := Lib.hid hw
  have HS := Lib.hid hS
  have HL := Lib.hid hl
  have HN : Hid (l.length = s.size) := by simp only [Hid]; rw [← hl]; rfl
  have I0 : Hid (PInv l w ((w.alloc (.cells #[.int .i64 0, .int .i64 0] 33)).alloc (.cells #[.int .i64 0, .int .i64 0] 33)) (.slice (some ⟨w.heap.size + 1, 0, none⟩) 1 1) 0) := by
    refine ⟨Nat.zero_le _, two_le _ _ _, At2.of (heap_two1 w _ _), ?_⟩
    exact ⟨by simp [pcell], .inr ⟨_, 1, _, rfl, Nat.le_refl _, heap_two2 w _ _, Nat.le_refl _, by decide, rfl, by simp [pcell, px, py]⟩⟩
  clear hl hw hS
  go_enter Tryd.func51, Tryd.ntmps51
  go_wp2
  go_loopw [4, 11] (fun v i wr => ∃ k : Nat, i = .int .i64 k ∧ PInv l w wr v k) (fun _ i _ => s.size - (intOf i).toNat)
  case atStart => exact ⟨0, rfl, I0.out⟩
  case round =>
    obtain ⟨k, rfl, hI⟩ := hrel
    have HI := Lib.hid hI
    have hk := hI.le
    rw [HN.out] at hk
    have hsz := hI.bel.size
    have hl1 := hI.at2.lt
    obtain ⟨q0, q1, qf0, qf1⟩ := hI.at2
    have HSr := Lib.hid (HS.out.keep hI.bel)
    clear hI
    by_cases hlt : k < s.size
    · have hsk : lt l k = s[k] := by
        have : l[k]? = some s[k] := by rw [← HL.out]; simp [hlt]; rfl
        unfold lt; rw [List.getD_eq_getElem?_getD, this]; rfl
      have hb0 : isL s[k] = true := by rw [← hsk]; exact wordB_at HW.out (by rw [HN.out]; exact hlt)
      have HX : Hid (px l (k + 1) = px l k + sx s[k]) := by simp only [Hid, px]; rw [hsk]
      have HY : Hid (py l (k + 1) = py l k + sy s[k]) := by simp only [Hid, py]; rw [hsk]
      have hli : ((li s[k] : Nat) : Int) < 4 := by have := li_lt s[k]; omega
      obtain ⟨g0, g1⟩ := HSr.out.at hb0
      have H1 := Lib.hid (fun W => index_any s[k] W hb0)
      have hx := px_bd l k
      have hy := py_bd l k
      have hx2 := sx_bd s[k]
      have hy2 := sy_bd s[k]
      have H2 := Lib.hid (fun W => sum_any (px l k) (py l k) (sx s[k]) (sy s[k]) W (by omega) (by omega) (by omega) (by omega))
      clear hx hy hx2 hy2 hsk hb0
      have H1c : Hid (∀ W, Calls Tryd.prog 65 #[.string ⟨#[114, 117, 108, 100]⟩, .int .u8 (s[k].toNat : Int)] W fun e w' => e = .returned (.int .i64 (li s[k] : Nat)) ∧ w' = W) :=
        fun W => (H1.out W).mono fun _ _ ⟨h1, h2⟩ => ⟨h1, h2.symm⟩
      go_wp2
      refine wp_region_still_tail 7 (by kernel_rfl) (by kernel_rfl) ?_
      simp only [List.take_succ_cons, List.take_zero, List.drop_succ_cons, List.drop_zero]
      still_step
      still_step
      still_step
      still_step
      still_call (H1c.out _)
      still_step
      still_step
      refine wpStill_nil ?_
      change wpList _ _ _ _ _ wr.drew
      have HIw : Hid (PInv l w wr.drew u4 k) := HI.out.keep (Below.drew (Below.refl _ _))
      clear q0 q1 qf0 qf1 g0 g1 HI HSr
      generalize wr.drew = wD at HIw ⊢
      go_wp2_with fail
      refine (H2.out _).mono ?_
      rintro r w3 ⟨rfl, hb3⟩
      rw [← HX.out, ← HY.out]
      have HI3 := Lib.hid (HIw.out.keep hb3)
      have HA3 := Lib.hid (HI3.out.at2.set (.int .i64 (px l (k + 1))) (.int .i64 (py l (k + 1))))
      have HO3 := Lib.hid (HI3.out.own.set2 (Nat.lt_succ_self w.heap.size) (.int .i64 (px l (k + 1))) (.int .i64 (py l (k + 1))))
      have HB3 := Lib.hid (below_set2 HI3.out.bel (Nat.le_refl w.heap.size) (.int .i64 (px l (k + 1))) (.int .i64 (py l (k + 1))))
      have HZ3 := Lib.hid (set2_size w3 w.heap.size (.int .i64 (px l (k + 1))) (.int .i64 (py l (k + 1))))
      obtain ⟨q0, q1, qf0, qf1⟩ := HI3.out.at2
      have hl4 := HI3.out.at2.lt
      have hb4 := World.ownsRow.lt HI3.out.own
      clear hb3 HIw
      obtain ⟨i0, hi, hz0, hz1, hz2⟩ := info_parts Tryd.infoP2
      obtain ⟨X, hX⟩ : ∃ X, px l (k + 1) = X := ⟨_, rfl⟩
      obtain ⟨Y, hY⟩ : ∃ Y, py l (k + 1) = Y := ⟨_, rfl⟩
      rw [hX, hY] at HA3 HO3 HB3 HZ3
      rw [hX, hY]
      have HXP := Lib.hid hX
      have HYP := Lib.hid hY
      clear hX hY
      have HNew : Hid (∀ j u, (pcell X Y)[j]? = some u → (((w3.setCell ⟨w.heap.size, 0, none⟩ (.int .i64 X)).setCell ⟨w.heap.size, 1, none⟩ (.int .i64 Y)).alloc (.cells #[.int .i64 X, .int .i64 Y] 33)).cell? ((⟨w3.heap.size, 0, none⟩ : Addr).add j) = some u) := by
        have h := new_cells ((w3.setCell ⟨w.heap.size, 0, none⟩ (.int .i64 X)).setCell ⟨w.heap.size, 1, none⟩ (.int .i64 Y)) (pcell X Y) 33
        rw [HZ3.out] at h
        exact h
      go_wp2_with (at_builtin; refine wpList_append_own _ rfl _ _ 24 rfl (w.heap.size + 1) 33 i0 (.agg #[.int .i64 0, .int .i64 0]) 2 16 Tryd.underlying24 hi hz0 hz1 hz2 rfl (by decide) _ _ _ rfl ((HO3.out.keep (one_le _ _)) : World.ownsRow _ _ _ _ _ _ _) ⟨w3.heap.size, 0, none⟩ 1 1 (pcell X Y) rfl rfl HNew.out (pcell_ok _ _) (by unfold maxLen; omega) (by omega) (by simp <;> omega) ?_)
      intro v' w5 hown hgrow _
      have HO5 : Hid (OwnC w5 (w.heap.size + 1) 33 2 v' (k + 1 + 1) (fun i => pcell (px l i) (py l i))) := OwnC.snoc (by rw [HXP.out, HYP.out]) (by rw [List.range_succ, List.flatMap_append]; simpa using hown)
      have hB5 : Below (w.heap.size + 1) ((w3.setCell ⟨w.heap.size, 0, none⟩ (.int .i64 X)).setCell ⟨w.heap.size, 1, none⟩ (.int .i64 Y)) w5 :=
        ((Below.refl _ _).alloc (by rw [HZ3.out]; omega) _).grown hgrow (by simp <;> omega) (fun k hk => (World.ownsRow.lt HO3.out k hk).1)
      have HNext : Hid (PInv l w w5 v' (k + 1)) := by
        refine ⟨by rw [HN.out]; exact hlt, HB3.out.trans (hB5.mono (by omega)), ?_, HO5.out⟩
        rw [HXP.out, HYP.out]; exact HA3.out.under hB5 (Nat.lt_succ_self _)
      clear hown hgrow hB5 q0 q1 qf0 qf1
      go_wp2
      go_roundw
      case rel => exact ⟨k + 1, by go_num, HNext.out⟩
      case measure => simp [intOf]; omega
    · have e : l.length = k := by rw [HN.out]; omega
      have E := Lib.hid e
      have hge : (s.size : Int) ≤ k := by omega
      clear e
      go_wp2
      go_ret
      exact ⟨_, rfl, by rw [E.out]; exact HI.out.own, HI.out.bel⟩
end Go.Proofs.YtfommfgokpiieaaDoor
