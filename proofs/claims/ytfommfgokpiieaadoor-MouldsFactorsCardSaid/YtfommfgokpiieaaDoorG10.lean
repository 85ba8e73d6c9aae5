import Derived.Test.YtfommfgokpiieaaDoorG9
namespace Go.Proofs.YtfommfgokpiieaaDoor
open Go.RowKit Go.Shelf

set_option maxHeartbeats 4000000 in
set_option maxRecDepth 100000 in
theorem rVectors_any (s : ByteArray) (l : List UInt8) (h : Nat) (w : World) (hl : s.data.toList = l) (hw : wordB l = true) (hh : s.size = 2 * h) :
    Calls Tryd.prog 28 #[.string s] w fun e w' => VecOut s e ∧ Below w.heap.size w w' := by
  have hs : s.size ≤ 24 := by have := (wordB_iff.1 hw).1; rw [← hl] at this; exact this
  have HF := Lib.hid (rFactor_any s l h (w.alloc (.cells #[.int .i64 0, .int .i64 0, .int .i64 0, .int .i64 0] 42)) hl hw hh)
  have hm := Lib.hid (fun x hx => facL_mem (s := s) (x := x) hx)
  have HP := Lib.hid (fun k i j W (hk : k ≤ s.size) h1 h2 => sum_part (turnB s k) (turnL l k) i j W (by rw [turnB_list, hl]) (by rw [turnB_size s k hk]; omega) h1 h2)
  have HH : Hid (s.size / 2 = h) := by simp only [Hid]; omega
  have HL := Lib.hid hl
  have Hhh := Lib.hid hh
  clear hl hw hh
  go_enter Tryd.func28, Tryd.ntmps28
  go_wp2_with fail
  refine HF.out.mono ?_
  rintro e w2 ⟨(⟨h0, rfl⟩ | ⟨x, r, h0, rfl⟩), hb⟩
  · unfold zA4
    obtain ⟨hlt, hx2, hB2, hx, hf, hB⟩ := two_boxes (F := #[.int .i64 0, .int .i64 0, .int .i64 0, .int .i64 0]) (TF := 39) hb
    have H0 := Lib.hid h0
    have HB2 := Lib.hid hB2
    have HX2 := Lib.hid hx2
    have yy0 := block_free hx2 0
    have xx0 := block_cell hx2 0
    have yy1 := block_free hx2 1
    have xx1 := block_cell hx2 1
    have yy2 := block_free hx2 2
    have xx2 := block_cell hx2 2
    have yy3 := block_free hx2 3
    have xx3 := block_cell hx2 3
    clear hb hx hx2 hf hB hB2 h0 HF HP hm
    go_wp2
    have hz0 := store4 HX2.out (.int .i64 0) (.int .i64 0) (.int .i64 0) (.int .i64 0)
    have hz := ((one_le _ (.cells #[.int .i64 0, .int .i64 0, .int .i64 0, .int .i64 0] 39)).block w.heap.size (Array.getElem?_eq_some_iff.1 hz0).1).trans hz0
    have hfin := below_store4' HB2.out (Nat.le_refl _) (.int .i64 0) (.int .i64 0) (.int .i64 0) (.int .i64 0)
    have e0 := block_cell hz 0
    have e1 := block_cell hz 1
    have e2 := block_cell hz 2
    have e3 := block_cell hz 3
    exact bodyPost_ret (v := .tuple #[.agg #[.int .i64 0, .int .i64 0, .int .i64 0, .int .i64 0], .int .i64 4]) (by simp [results, Tryd.results28, go_sem, e0, e1, e2, e3]) rfl ⟨Or.inl ⟨H0.out, rfl⟩, hfin.alloc hfin.size _⟩
  · rw [HH.out]
    obtain ⟨m1, m2, m3, m4, _⟩ := hm.out x (by rw [h0]; exact List.mem_cons_self ..)
    rw [HH.out] at m4
    have H0 := Lib.hid h0
    have hts : (turnB s x.k).size = 2 * h := by rw [turnB_size s x.k (by omega), Hhh.out]
    have H1 := Lib.hid (fun W => HP.out x.k 0 (x.a + x.b) W (by omega) (by omega) (by omega))
    have H2 := Lib.hid (fun W => HP.out x.k x.a h W (by omega) (by omega) (by omega))
    rw [show px (turnL l x.k) 0 = 0 from rfl, show py (turnL l x.k) 0 = 0 from rfl, Int.sub_zero, Int.sub_zero] at H1
    have HR : Hid (VecOut s (.returned (.tuple #[.agg (vecL (turnL l x.k) x h), .int .i64 0]))) := Or.inr ⟨x, r, h0, by rw [HL.out, HH.out]⟩
    unfold vecL at HR
    generalize px (turnL l x.k) (x.a + x.b) = X1 at HR H1
    generalize py (turnL l x.k) (x.a + x.b) = Y1 at HR H1
    generalize px (turnL l x.k) h - px (turnL l x.k) x.a = X2 at HR H2
    generalize py (turnL l x.k) h - py (turnL l x.k) x.a = Y2 at HR H2
    have htk : s.extract x.k s.size ++ s.extract 0 x.k = turnB s x.k := rfl
    unfold cA4
    obtain ⟨k, hk'⟩ : ∃ k, x.k = k := ⟨_, rfl⟩
    obtain ⟨a, ha'⟩ : ∃ a, x.a = a := ⟨_, rfl⟩
    obtain ⟨b, hb'⟩ : ∃ b, x.b = b := ⟨_, rfl⟩
    rw [hk'] at H1 H2 htk hts m1 ⊢
    rw [ha'] at H1 H2 m2 m4 ⊢
    rw [hb'] at H1 m3 m4 ⊢
    generalize turnB s k = t at H1 H2 htk hts
    obtain ⟨c, hc⟩ : ∃ c, a + b = c := ⟨_, rfl⟩
    rw [hc] at H1
    obtain ⟨hlt, hx2, hB2, hx, hf, hB⟩ := two_boxes (F := #[.int .i64 k, .int .i64 a, .int .i64 b, .int .i64 ((h : Int) - a - b)]) (TF := 39) hb
    have HTk := Lib.hid htk
    have HB := Lib.hid hB
    have HX := Lib.hid hx
    have HFx := Lib.hid hf
    have z0 := block_cell hf 0
    have n1 : (k : Int) ≤ s.size := by omega
    have n2 : (0 : Int) ≤ k := by omega
    have o1 : ¬ 9223372036854775807 < (s.extract k s.size).size + (s.extract 0 k).size := by
      rw [extract_size _ _ _ (Nat.le_refl _), extract_size _ _ _ (by omega)]; omega
    have h12 : h ≤ 12 := by have := Hhh.out; omega
    have s1 : IntKind.i64.wrap ((a : Int) + b) = c := (IntWalk.i64_in _ (by omega)).trans (by omega)
    have q1 : (c : Int) ≤ t.size := by omega
    have q2 : (0 : Int) ≤ c := by omega
    have q3 : (a : Int) ≤ h := by omega
    have q4 : (0 : Int) ≤ a := by omega
    have q5 : (h : Int) ≤ t.size := by omega
    have e3 : (t.size : Int) / 2 = h := by omega
    have ht24 : t.size ≤ 24 := by omega
    have e4 : Int.tdiv (t.size : Int) 2 = h := by rw [Int.tdiv_eq_ediv_of_nonneg (by omega)]; exact e3
    have s3 : IntKind.i64.wrap (h : Int) = h := IntWalk.i64_in _ (by omega)
    clear hb hx hx2 hf hB hB2 h0 HF HP hm hk' ha' hb' htk m1 m2 m3 m4 hc hts
    go_wp2_with fail
    go_quiet (fail)
    rw [HTk.out]
    clear z0 o1 n1 n2
    obtain ⟨W0, hW0⟩ : ∃ W0, W0 = w2.alloc (.cells #[.int .i64 k, .int .i64 a, .int .i64 b, .int .i64 ((h : Int) - a - b)] 39) := ⟨_, rfl⟩
    rw [← hW0] at HB HX HFx ⊢
    clear hW0
    obtain ⟨W1, hW1⟩ : ∃ W1, W1 = W0.drewN nq := ⟨_, rfl⟩
    rw [← hW1]
    have HBw1 : Hid (Below w.heap.size w W1) := by rw [Hid, hW1]; exact below_drewN HB.out _
    have HK : Hid (∀ v, Below W1.heap.size W1 v → v.heap[w.heap.size]? = some (.cells #[.int .i64 0, .int .i64 0, .int .i64 0, .int .i64 0] 42) ∧ v.heap[w2.heap.size]? = some (.cells #[.int .i64 k, .int .i64 a, .int .i64 b, .int .i64 ((h : Int) - a - b)] 39)) := by
      intro v hv
      rw [hW1] at hv
      have hv2 := band (below_drewN (Below.refl _ _) _) hv
      have hy := (hv2.block _ (Array.getElem?_eq_some_iff.1 HFx.out).1).trans HFx.out
      exact ⟨(hv2.block _ (Array.getElem?_eq_some_iff.1 HX.out).1).trans HX.out, hy⟩
    have HKc : Hid (∀ v : World, v.heap[w2.heap.size]? = some (.cells #[.int .i64 k, .int .i64 a, .int .i64 b, .int .i64 ((h : Int) - a - b)] 39) → v.cell? ⟨w2.heap.size, 1, none⟩ = some (.int .i64 a) ∧ v.cell? ⟨w2.heap.size, 2, none⟩ = some (.int .i64 b)) := fun v hy => ⟨block_cell hy 1, block_cell hy 2⟩
    have HS1 := Lib.hid (HKc.out _ (HK.out _ (Below.refl _ _)).2)
    have HNe := Lib.hid (show w2.heap.size ≠ w.heap.size by omega)
    clear hW1 HB HX HFx
    go_wp2_with fail
    go_region_held3 (fun v => v.cell? ⟨w2.heap.size, 1, none⟩ = some (.int .i64 a) ∧ v.cell? ⟨w2.heap.size, 2, none⟩ = some (.int .i64 b))
      (first
        | (go_split_ands; exact HS4.out)
        | (go_split_ands; exact HS3.out)
        | (go_split_ands; exact HS2.out)
        | (go_split_ands; exact HS1.out)
        | go_keep)
      ((first
        | (go_at_call 33; (with_reducible refine (H1.out _).mono ?_); rintro r v1 ⟨rfl, hb⟩; have HBa := Lib.hid (below_drew1 hb); have HS2 := Lib.hid (HKc.out _ (HK.out _ HBa.out).2); clear hb H1)
        | (go_at_call 33; (with_reducible refine (H2.out _).mono ?_); rintro r v2 ⟨rfl, hb⟩; have HBb := Lib.hid (band HBa.out hb); have HS3 := Lib.hid (HKc.out _ (HK.out _ HBb.out).2); have HS4 := Lib.hid (HKc.out _ (far4 (HK.out _ HBb.out).2 HNe.out (.int .i64 X1) (.int .i64 Y1) (.int .i64 X2) (.int .i64 Y2))); have hy := (HK.out _ HBb.out).1; have g0 := block_cell hy 0; have g1 := block_cell hy 1; have g2 := block_cell hy 2; have g3 := block_cell hy 3; have f0 := block_free hy 0; have f1 := block_free hy 1; have f2 := block_free hy 2; have f3 := block_free hy 3; have HY := Lib.hid hy; clear hb hy H2)))
    have hz := store4 HY.out (.int .i64 X1) (.int .i64 Y1) (.int .i64 X2) (.int .i64 Y2)
    have e0 := block_cell hz 0
    have e1 := block_cell hz 1
    have e2 := block_cell hz 2
    have e3 := block_cell hz 3
    have HFin := Lib.hid (below_store4' (band HBw1.out HBb.out) (Nat.le_refl w.heap.size) (.int .i64 X1) (.int .i64 Y1) (.int .i64 X2) (.int .i64 Y2))
    clear hz
    go_wp2
    exact bodyPost_ret (v := .tuple #[.agg #[.int .i64 X1, .int .i64 Y1, .int .i64 X2, .int .i64 Y2], .int .i64 0]) (by simp [results, Tryd.results28, go_sem, e0, e1, e2, e3]) rfl ⟨HR.out, HFin.out⟩
end Go.Proofs.YtfommfgokpiieaaDoor
