import Derived.Test.YtfommfgokpiieaaDoorG7
import Derived.Test.YtfommfgokpiieaaDoorA3
namespace Go.Proofs.YtfommfgokpiieaaDoor
open Go.RowKit Go.Shelf

theorem below_store4' {w W : World} {b : Nat} (hb : Below w.heap.size w W) (h : w.heap.size ≤ b) (v0 v1 v2 v3 : Value) :
    Below w.heap.size w ((((W.setCell ⟨b, 0, none⟩ v0).setCell ⟨b, 1, none⟩ v1).setCell ⟨b, 2, none⟩ v2).setCell ⟨b, 3, none⟩ v3) := by
  have b1 := hb.setCell (p := ⟨b, 0, none⟩) h v0
  have b2 := b1.setCell (p := ⟨b, 1, none⟩) h v1
  have b3 := b2.setCell (p := ⟨b, 2, none⟩) h v2
  exact b3.setCell (p := ⟨b, 3, none⟩) h v3
/-- The vectors of a factoring of a turn. -/
def vecL (L : List UInt8) (x : Fa) (h : Nat) : Array Value := #[.int .i64 (px L (x.a + x.b)), .int .i64 (py L (x.a + x.b)), .int .i64 (px L h - px L x.a), .int .i64 (py L h - py L x.a)]

/-- The end of a part of a word. -/
theorem end_part (s : ByteArray) (l : List UInt8) (i j : Nat) (w : World) (hl : s.data.toList = l) (hw : wordB l = true) (hij : i ≤ j) (hj : j ≤ s.size) (hS : StepsAt w) :
    Calls Tryd.prog 46 #[.string (s.extract i j)] w fun e w' => e = .returned (pV (px l j - px l i) (py l j - py l i)) ∧ Below w.heap.size w w' := by
  have hp : wordB ((l.take j).drop i) = true := by
    obtain ⟨h1, h2⟩ := wordB_iff.1 hw
    exact wordB_iff.2 ⟨by rw [List.length_drop, List.length_take]; omega, fun b hb => h2 b (List.mem_of_mem_take (List.mem_of_mem_drop hb))⟩
  have h := end_any (s.extract i j) ((l.take j).drop i) w (extract_list s l hl i j) hp hS
  have hn : ((l.take j).drop i).length = j - i := by
    have : l.length = s.size := by rw [← hl]; rfl
    rw [List.length_drop, List.length_take]; omega
  rw [hn, px_drop, py_drop, px_take l j i hij, py_take l j i hij, show i + (j - i) = j by omega, px_take l j j (Nat.le_refl _), py_take l j j (Nat.le_refl _)] at h
  exact h

set_option maxHeartbeats 2000000 in
set_option maxRecDepth 100000 in
theorem wvectors_any (s : ByteArray) (l : List UInt8) (h : Nat) (x : Fa) (w : World) (hl : s.data.toList = l) (hw : wordB l = true) (hh : s.size = 2 * h) (hk : x.k < s.size) (hab : x.a + x.b ≤ h) (hS : StepsAt w) :
    Calls Tryd.prog 44 #[.string s, .agg (cA4 x h)] w fun e w' => e = .returned (.agg (vecL (turnL l x.k) x h)) ∧ Below w.heap.size w w' := by
  have hs : s.size ≤ 24 := by have := (wordB_iff.1 hw).1; rw [← hl] at this; exact this
  have HT := Lib.hid (fun W => turn_any s x.k W hs (by omega))
  obtain ⟨L, hL⟩ : ∃ L, turnL l x.k = L := ⟨_, rfl⟩
  have hLw : wordB L = true := by rw [← hL]; exact turnL_word hw x.k
  have htl : (turnB s x.k).data.toList = L := by rw [turnB_list, hl, hL]
  have hts : (turnB s x.k).size = 2 * h := by rw [turnB_size s x.k (by omega), hh]
  have HE := Lib.hid (fun i j W h1 h2 hS' => end_part (turnB s x.k) L i j W htl hLw h1 h2 hS')
  have HS := Lib.hid hS
  rw [hL]
  generalize turnB s x.k = t at HT HE hts
  clear hl hw hL hLw htl hS
  unfold cA4 vecL
  have hx0 : px L 0 = 0 := rfl
  have hy0 : py L 0 = 0 := rfl
  obtain ⟨k, hk'⟩ : ∃ k, x.k = k := ⟨_, rfl⟩
  obtain ⟨a, ha'⟩ : ∃ a, x.a = a := ⟨_, rfl⟩
  obtain ⟨b, hb'⟩ : ∃ b, x.b = b := ⟨_, rfl⟩
  rw [hk'] at HT hk ⊢
  rw [ha', hb'] at hab ⊢
  clear hk' ha' hb'
  have H1 := Lib.hid (fun W hS' => HE.out 0 (a + b) W (by omega) (by omega) hS')
  rw [hx0, hy0, Int.sub_zero, Int.sub_zero] at H1
  have H2 := Lib.hid (fun W hS' => HE.out a h W (by omega) (by omega) hS')
  clear HE hx0 hy0
  obtain ⟨c, hc⟩ : ∃ c, a + b = c := ⟨_, rfl⟩
  rw [hc] at H1 ⊢
  have s1 : IntKind.i64.wrap ((a : Int) + b) = c := (IntWalk.i64_in _ (by omega)).trans (by omega)
  have s2 : IntKind.i64.wrap ((c : Int) + ((h : Int) - a - b)) = h := (IntWalk.i64_in _ (by omega)).trans (by omega)
  have q1 : (c : Int) ≤ t.size := by omega
  have q2 : (0 : Int) ≤ c := by omega
  have q3 : (a : Int) ≤ h := by omega
  have q4 : (0 : Int) ≤ a := by omega
  have q5 : (h : Int) ≤ t.size := by omega
  have Hts := Lib.hid hts
  have Hhh := Lib.hid hh
  have Hcc := Lib.hid hc
  have Hab := Lib.hid hab
  clear hts hh hc hab hk
  generalize px L c = X1 at H1 ⊢
  generalize py L c = Y1 at H1 ⊢
  generalize px L h - px L a = X2 at H2 ⊢
  generalize py L h - py L a = Y2 at H2 ⊢
  go_enter Tryd.func44, Tryd.ntmps44
  go_wp2_with fail
  obtain ⟨W0, hW0⟩ : ∃ W0, W0 = (w.alloc (.cells #[.int .i64 k, .int .i64 a, .int .i64 b, .int .i64 ((h : Int) - a - b)] 39)).alloc (.cells #[.int .i64 0, .int .i64 0, .int .i64 0, .int .i64 0] 42) := ⟨_, rfl⟩
  rw [← hW0]
  have hB0 : Below w.heap.size w W0 := by rw [hW0]; exact two_le _ _ _
  have b0 : W0.heap[w.heap.size]? = some (.cells #[.int .i64 k, .int .i64 a, .int .i64 b, .int .i64 ((h : Int) - a - b)] 39) := by rw [hW0]; exact heap_two1 _ _ _
  have b1 : W0.heap[w.heap.size + 1]? = some (.cells #[.int .i64 0, .int .i64 0, .int .i64 0, .int .i64 0] 42) := by rw [hW0]; exact heap_two2 _ _ _
  clear hW0
  refine (HT.out _).mono ?_
  rintro e w3 ⟨rfl, hb⟩
  have d0 := (hb.block _ (Array.getElem?_eq_some_iff.1 b0).1).trans b0
  have HB3 := Lib.hid (band hB0 hb)
  have Hd1 := Lib.hid ((hb.block _ (Array.getElem?_eq_some_iff.1 b1).1).trans b1)
  have z0 := block_cell d0 0
  have z1 := block_cell d0 1
  have z2 := block_cell d0 2
  have z3 := block_cell d0 3
  clear b0 b1 hb hB0 d0 HT
  go_wp2_with fail
  go_quiet (fail)
  clear z0 z1 z2 z3
  obtain ⟨W1, hW1⟩ : ∃ W1, W1 = w3.drewN nq := ⟨_, rfl⟩
  rw [← hW1]
  have HBw1 : Hid (Below w.heap.size w W1) := by rw [Hid, hW1]; exact below_drewN HB3.out _
  have HK : Hid (∀ v, Below W1.heap.size W1 v → v.heap[w.heap.size + 1]? = some (.cells #[.int .i64 0, .int .i64 0, .int .i64 0, .int .i64 0] 42)) := by
    intro v hv
    rw [hW1] at hv
    have hv2 := band (below_drewN (Below.refl _ _) _) hv
    exact (hv2.block _ (Array.getElem?_eq_some_iff.1 Hd1.out).1).trans Hd1.out
  have HSt := Lib.hid (HS.out.keep HBw1.out)
  clear hW1 HB3
  go_wp2_with fail
  go_region_held3 (fun _ => True)
    (first
      | trivial
      | go_keep)
    ((first
      | (go_at_call 46; (with_reducible refine (H1.out _ (HSt.out.keep (Below.drew (Below.refl _ _)))).mono ?_); rintro r v1 ⟨rfl, hb⟩; have HBa := Lib.hid (below_drew1 hb); clear hb H1)
      | (go_at_call 46; (with_reducible refine (H2.out _ (HSt.out.keep HBa.out)).mono ?_); rintro r v2 ⟨rfl, hb⟩; have HBb := Lib.hid (band HBa.out hb); have hy := HK.out _ HBb.out; have g0 := block_cell hy 0; have g1 := block_cell hy 1; have g2 := block_cell hy 2; have g3 := block_cell hy 3; have f0 := block_free hy 0; have f1 := block_free hy 1; have f2 := block_free hy 2; have f3 := block_free hy 3; have HY := Lib.hid hy; clear hb hy H2)))
  have hz := store4 HY.out (.int .i64 X1) (.int .i64 Y1) (.int .i64 X2) (.int .i64 Y2)
  have e0 := block_cell hz 0
  have e1 := block_cell hz 1
  have e2 := block_cell hz 2
  have e3 := block_cell hz 3
  have HFin := Lib.hid (below_store4' (band HBw1.out HBb.out) (Nat.le_succ w.heap.size) (.int .i64 X1) (.int .i64 Y1) (.int .i64 X2) (.int .i64 Y2))
  clear hz
  go_wp2
  exact bodyPost_ret (v := .agg #[.int .i64 X1, .int .i64 Y1, .int .i64 X2, .int .i64 Y2]) (by simp [results, Tryd.results44, go_sem, e0, e1, e2, e3]) rfl ⟨rfl, HFin.out⟩
end Go.Proofs.YtfommfgokpiieaaDoor
