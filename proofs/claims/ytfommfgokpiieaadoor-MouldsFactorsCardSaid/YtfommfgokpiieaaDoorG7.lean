import Derived.Test.YtfommfgokpiieaaDoorG6
import Derived.Test.YtfommfgokpiieaaDoorG3
namespace Go.Proofs.YtfommfgokpiieaaDoor
open Go.RowKit Go.Shelf

theorem OwnF.len {w : World} {base h : Nat} {v : Value} {L : List Fa} (H : OwnF w base h v L) : ∃ a cap, v = .slice a L.length cap := by
  rcases H.2 with ⟨rfl, e⟩ | ⟨g, cap, cur, rfl, _⟩
  · exact ⟨none, 0, by rw [e]⟩
  · exact ⟨_, _, rfl⟩
theorem OwnF.head {w : World} {base h : Nat} {v : Value} {x : Fa} {r : List Fa} (H : OwnF w base h v (x :: r)) :
    ∃ g cap, v = .slice (some ⟨g, 0, none⟩) (r.length + 1) cap ∧ w.cell? ⟨g, 0, none⟩ = some (.int .i64 x.k) ∧ w.cell? ⟨g, 1, none⟩ = some (.int .i64 x.a) ∧ w.cell? ⟨g, 2, none⟩ = some (.int .i64 x.b) ∧ w.cell? ⟨g, 3, none⟩ = some (.int .i64 ((h : Int) - x.a - x.b)) := by
  have hc := fun g e j u hu => World.ownsRow.cells H (g := g) e j u hu
  rcases H.2 with ⟨rfl, e⟩ | ⟨g, cap, cur, rfl, _⟩
  · cases e
  · exact ⟨g, cap, rfl, hc g rfl 0 _ rfl, hc g rfl 1 _ rfl, hc g rfl 2 _ rfl, hc g rfl 3 _ rfl⟩

theorem below_store4 {w W : World} (hb : Below w.heap.size w W) (v0 v1 v2 v3 : Value) :
    Below w.heap.size w ((((W.setCell ⟨w.heap.size, 0, none⟩ v0).setCell ⟨w.heap.size, 1, none⟩ v1).setCell ⟨w.heap.size, 2, none⟩ v2).setCell ⟨w.heap.size, 3, none⟩ v3) := by
  have b1 := hb.setCell (p := ⟨w.heap.size, 0, none⟩) (Nat.le_refl _) v0
  have b2 := b1.setCell (p := ⟨w.heap.size, 1, none⟩) (Nat.le_refl _) v1
  have b3 := b2.setCell (p := ⟨w.heap.size, 2, none⟩) (Nat.le_refl _) v2
  exact b3.setCell (p := ⟨w.heap.size, 3, none⟩) (Nat.le_refl _) v3
set_option maxHeartbeats 2000000 in
theorem rFactors_any (s : ByteArray) (l : List UInt8) (h : Nat) (w : World) (hl : s.data.toList = l) (hw : wordB l = true) (hh : s.size = 2 * h) :
    Calls Tryd.prog 29 #[.string s] w fun e w' => e = .returned (.int .i64 (facL s).length) ∧ Below w.heap.size w w' := by
  have HF := Lib.hid (rfactors_any s l h w hl hw hh)
  clear hl hw hh
  go_enter Tryd.func29, Tryd.ntmps29
  go_wp2_with fail
  refine HF.out.mono ?_
  rintro e w2 ⟨v, rfl, ho, hb⟩
  obtain ⟨a, cap, rfl⟩ := ho.len
  have HB := Lib.hid hb
  clear ho hb
  go_wp2
  go_ret
  exact ⟨rfl, HB.out⟩

set_option maxHeartbeats 2000000 in
set_option maxRecDepth 100000 in
theorem rFactor_any (s : ByteArray) (l : List UInt8) (h : Nat) (w : World) (hl : s.data.toList = l) (hw : wordB l = true) (hh : s.size = 2 * h) :
    Calls Tryd.prog 27 #[.string s] w fun e w' => FacOut s e ∧ Below w.heap.size w w' := by
  have HF := Lib.hid (fun W => rfactors_any s l h W hl hw hh)
  have HH : Hid (s.size / 2 = h) := by simp only [Hid]; omega
  have HL := Lib.hid (facL_len s (by have := (wordB_iff.1 hw).1; rw [← hl] at this; exact this))
  have HX : Hid ((w.alloc (.cells #[.int .i64 0, .int .i64 0, .int .i64 0, .int .i64 0] 39)).heap[w.heap.size]? = some (.cells #[.int .i64 0, .int .i64 0, .int .i64 0, .int .i64 0] 39)) := heap_alloc_new w _
  clear hl hw hh
  cases hf : facL s with
  | nil =>
    rw [hf] at HF
    have HE := Lib.hid hf
    clear hf
    go_enter Tryd.func27, Tryd.ntmps27
    go_wp2_with fail
    refine (HF.out _).mono ?_
    rintro e w2 ⟨v, rfl, ho, hb⟩
    obtain ⟨a, cap, rfl⟩ := ho.len
    have hlt : w.heap.size < w2.heap.size := by have := hb.size; simp at this; omega
    have hx := (hb.block w.heap.size (by simp)).trans HX.out
    have y0 := block_free hx 0
    have y1 := block_free hx 1
    have y2 := block_free hx 2
    have y3 := block_free hx 3
    have HR := Lib.hid (store4 hx)
    have x0 := block_cell hx 0
    have x1 := block_cell hx 1
    have x2 := block_cell hx 2
    have x3 := block_cell hx 3
    have HB := Lib.hid (band (one_le w (.cells #[.int .i64 0, .int .i64 0, .int .i64 0, .int .i64 0] 39)) hb)
    clear ho hb hx
    go_wp2
    have hy := HR.out (.int .i64 0) (.int .i64 0) (.int .i64 0) (.int .i64 0)
    have e0 := block_cell hy 0
    have e1 := block_cell hy 1
    have e2 := block_cell hy 2
    have e3 := block_cell hy 3
    refine bodyPost_ret (v := .tuple #[.agg zA4, .int .i64 4]) (by simp [results, Tryd.results27, go_sem, e0, e1, e2, e3, zA4]) rfl ⟨Or.inl ⟨HE.out, rfl⟩, ?_⟩
    exact below_store4 HB.out _ _ _ _
  | cons x r =>
    rw [hf] at HF HL
    have HE := Lib.hid hf
    clear hf
    have hr : r.length + 1 ≤ 1000000 := HL.out
    go_enter Tryd.func27, Tryd.ntmps27
    go_wp2_with fail
    refine (HF.out _).mono ?_
    rintro e w2 ⟨v, rfl, ho, hb⟩
    obtain ⟨g, cap, rfl, z0, z1, z2, z3⟩ := ho.head
    have hlt : w.heap.size < w2.heap.size := by have := hb.size; simp at this; omega
    have hx := (hb.block w.heap.size (by simp)).trans HX.out
    have y0 := block_free hx 0
    have y1 := block_free hx 1
    have y2 := block_free hx 2
    have y3 := block_free hx 3
    have HR := Lib.hid (store4 hx)
    have x0 := block_cell hx 0
    have x1 := block_cell hx 1
    have x2 := block_cell hx 2
    have x3 := block_cell hx 3
    have HB := Lib.hid (band (one_le w (.cells #[.int .i64 0, .int .i64 0, .int .i64 0, .int .i64 0] 39)) hb)
    clear ho hb hx
    go_wp2
    have hy := HR.out (.int .i64 x.k) (.int .i64 x.a) (.int .i64 x.b) (.int .i64 ((h : Int) - x.a - x.b))
    have e0 := block_cell hy 0
    have e1 := block_cell hy 1
    have e2 := block_cell hy 2
    have e3 := block_cell hy 3
    refine bodyPost_ret (v := .tuple #[.agg (cA4 x h), .int .i64 0]) (by simp [results, Tryd.results27, go_sem, e0, e1, e2, e3, cA4]) rfl ⟨Or.inr ⟨x, r, HE.out, by rw [HH.out]⟩, ?_⟩
    exact below_store4 HB.out _ _ _ _
end Go.Proofs.YtfommfgokpiieaaDoor
