import Derived.Test.YtfommfgokpiieaaDoorG8
namespace Go.Proofs.YtfommfgokpiieaaDoor
open Go.RowKit Go.Shelf

def z4 : Array Value := #[.int .i64 0, .int .i64 0, .int .i64 0, .int .i64 0]
/-- What Vectors hands back for an outline. -/
def VecOut (s : ByteArray) (e : Ending) : Prop := (facL s = [] ∧ e = .returned (.tuple #[.agg #[.int .i64 0, .int .i64 0, .int .i64 0, .int .i64 0], .int .i64 4])) ∨ ∃ x r, facL s = x :: r ∧ e = .returned (.tuple #[.agg (vecL (turnL s.data.toList x.k) x (s.size / 2)), .int .i64 0])

/-- The result's box and that of f, behind the call. -/
theorem two_boxes {w w2 : World} {R F : Array Value} {TR TF : TypeId} (hb : Below (w.alloc (.cells R TR)).heap.size (w.alloc (.cells R TR)) w2) :
    w.heap.size < w2.heap.size ∧ w2.heap[w.heap.size]? = some (.cells R TR) ∧ Below w.heap.size w w2 ∧ (w2.alloc (.cells F TF)).heap[w.heap.size]? = some (.cells R TR) ∧ (w2.alloc (.cells F TF)).heap[w2.heap.size]? = some (.cells F TF) ∧ Below w.heap.size w (w2.alloc (.cells F TF)) := by
  have hlt : w.heap.size < w2.heap.size := by have := hb.size; simp at this; omega
  have hx := (hb.block w.heap.size (by simp)).trans (heap_alloc_new w (.cells R TR))
  exact ⟨hlt, hx, band (one_le w _) hb, ((one_le w2 (.cells F TF)).block _ hlt).trans hx, heap_alloc_new w2 _, (band (one_le w _) hb).alloc (by omega) _⟩

set_option maxHeartbeats 2000000 in
set_option maxRecDepth 100000 in
theorem vectors_bad (s : ByteArray) (l : List UInt8) (w : World) (hl : s.data.toList = l) (hs : s.size ≤ 9223372036854775807) (ho : outB l = false) (hS : StepsAt w) :
    Calls Tryd.prog 26 #[.string s] w fun e w' => e = .returned (.tuple #[.agg #[.int .i64 0, .int .i64 0, .int .i64 0, .int .i64 0], .int .i64 2]) ∧ Below w.heap.size w w' := by
  have HF := Lib.hid (factor_bad s l (w.alloc (.cells #[.int .i64 0, .int .i64 0, .int .i64 0, .int .i64 0] 42)) hl hs ho (hS.keep (one_le w _)))
  clear hl ho hS
  unfold zA4 at HF
  go_enter Tryd.func26, Tryd.ntmps26
  go_wp2_with fail
  refine HF.out.mono ?_
  rintro e w2 ⟨rfl, hb⟩
  obtain ⟨hlt, hx2, hB2, hx, hf, hB⟩ := two_boxes (F := #[.int .i64 0, .int .i64 0, .int .i64 0, .int .i64 0]) (TF := 39) hb
  have HB2 := Lib.hid hB2
  have HX2 := Lib.hid hx2
  have yy0 := block_free hx2 0
  have xx0 := block_cell hx2 0
  have yy1 := block_free hx2 1
  have xx1 := block_cell hx2 1
  have yy2 := block_free hx2 2
  have xx2 := block_cell hx2 2
  have yy3 := block_free hx2 3
  have xx3 := block_cell hx2 3
  clear hb hx hx2 hf hB hB2
  go_wp2
  have hz0 := store4 HX2.out (.int .i64 0) (.int .i64 0) (.int .i64 0) (.int .i64 0)
  have hz := ((one_le _ (.cells #[.int .i64 0, .int .i64 0, .int .i64 0, .int .i64 0] 39)).block w.heap.size (Array.getElem?_eq_some_iff.1 hz0).1).trans hz0
  have hfin := below_store4' HB2.out (Nat.le_refl _) (.int .i64 0) (.int .i64 0) (.int .i64 0) (.int .i64 0)
  have e0 := block_cell hz 0
  have e1 := block_cell hz 1
  have e2 := block_cell hz 2
  have e3 := block_cell hz 3
  try simp only [Exit.inBlock, Exit.then]
  exact bodyPost_ret (v := .tuple #[.agg #[.int .i64 0, .int .i64 0, .int .i64 0, .int .i64 0], .int .i64 2]) (by simp [results, Tryd.results26, go_sem, e0, e1, e2, e3]) rfl ⟨rfl, hfin.alloc hfin.size _⟩

set_option maxHeartbeats 2000000 in
set_option maxRecDepth 100000 in
theorem vectors_good (s : ByteArray) (l : List UInt8) (h : Nat) (w : World) (hl : s.data.toList = l) (ho : outB l = true) (hh : s.size = 2 * h) (hS : StepsAt w) :
    Calls Tryd.prog 26 #[.string s] w fun e w' => VecOut s e ∧ Below w.heap.size w w' := by
  have hw := (outB_iff.1 ho).1
  have HF := Lib.hid (factor_good s l (w.alloc (.cells #[.int .i64 0, .int .i64 0, .int .i64 0, .int .i64 0] 42)) hl ho (hS.keep (one_le w _)))
  have hm := fun x hx => facL_mem (s := s) (x := x) hx
  have HV := Lib.hid (fun x W hx hS' => wvectors_any s l h x W hl hw hh (hm x hx).1 (by have := (hm x hx).2.2.2.1; omega) hS')
  have HS := Lib.hid hS
  have HH : Hid (s.size / 2 = h) := by simp only [Hid]; omega
  have HL := Lib.hid hl
  clear hl ho hS hm hw hh
  go_enter Tryd.func26, Tryd.ntmps26
  go_wp2_with fail
  refine HF.out.mono ?_
  rintro e w2 ⟨(⟨h0, rfl⟩ | ⟨x, r, h0, rfl⟩), hb⟩
  · unfold zA4
    obtain ⟨hlt, hx2, hB2, hx, hf, hB⟩ := two_boxes (F := #[.int .i64 0, .int .i64 0, .int .i64 0, .int .i64 0]) (TF := 39) hb
    have H0 := Lib.hid h0
    have HB2 := Lib.hid hB2
    have HX2 := Lib.hid hx2
    have yy0 := block_free hx2 0
    have xx0 := block_cell hx2 0
    have yy1 := block_free hx2 1
    have xx1 := block_cell hx2 1
    have yy2 := block_free hx2 2
    have xx2 := block_cell hx2 2
    have yy3 := block_free hx2 3
    have xx3 := block_cell hx2 3
    clear hb hx hx2 hf hB hB2 h0 HF
    go_wp2
    have hz0 := store4 HX2.out (.int .i64 0) (.int .i64 0) (.int .i64 0) (.int .i64 0)
    have hz := ((one_le _ (.cells #[.int .i64 0, .int .i64 0, .int .i64 0, .int .i64 0] 39)).block w.heap.size (Array.getElem?_eq_some_iff.1 hz0).1).trans hz0
    have hfin := below_store4' HB2.out (Nat.le_refl _) (.int .i64 0) (.int .i64 0) (.int .i64 0) (.int .i64 0)
    have e0 := block_cell hz 0
    have e1 := block_cell hz 1
    have e2 := block_cell hz 2
    have e3 := block_cell hz 3
    try simp only [Exit.inBlock, Exit.then]
    exact bodyPost_ret (v := .tuple #[.agg #[.int .i64 0, .int .i64 0, .int .i64 0, .int .i64 0], .int .i64 4]) (by simp [results, Tryd.results26, go_sem, e0, e1, e2, e3]) rfl ⟨Or.inl ⟨H0.out, rfl⟩, hfin.alloc hfin.size _⟩
  · rw [HH.out]
    have hin : x ∈ facL s := by rw [h0]; exact List.mem_cons_self ..
    have H0 := Lib.hid h0
    have HVx := Lib.hid (fun W hS' => HV.out x W hin hS')
    clear hin h0 HF HV
    unfold cA4 at HVx
    unfold cA4
    obtain ⟨hlt, hx2, hB2, hx, hf, hB⟩ := two_boxes (F := #[.int .i64 x.k, .int .i64 x.a, .int .i64 x.b, .int .i64 ((h : Int) - x.a - x.b)]) (TF := 39) hb
    have HB := Lib.hid hB
    have HX := Lib.hid hx
    have q0 := block_cell hf 0
    have q1 := block_cell hf 1
    have q2 := block_cell hf 2
    have q3 := block_cell hf 3
    clear hb hx hx2 hf hB hB2
    go_wp2_with fail
    refine (HVx.out _ (HS.out.keep HB.out)).mono ?_
    rintro e w4 ⟨rfl, hb⟩
    have hx := (hb.block _ (Array.getElem?_eq_some_iff.1 HX.out).1).trans HX.out
    have HB4 := Lib.hid (band HB.out hb)
    have HX4 := Lib.hid hx
    have y0 := block_free hx 0
    have y1 := block_free hx 1
    have y2 := block_free hx 2
    have y3 := block_free hx 3
    have x0 := block_cell hx 0
    have x1 := block_cell hx 1
    have x2 := block_cell hx 2
    have x3 := block_cell hx 3
    clear hb hx q0 q1 q2 q3
    have HR : Hid (VecOut s (.returned (.tuple #[.agg (vecL (turnL l x.k) x h), .int .i64 0]))) := Or.inr ⟨x, r, H0.out, by rw [HL.out, HH.out]⟩
    unfold vecL at HR
    unfold vecL
    generalize px (turnL l x.k) (x.a + x.b) = X1 at HR ⊢
    generalize py (turnL l x.k) (x.a + x.b) = Y1 at HR ⊢
    generalize px (turnL l x.k) h - px (turnL l x.k) x.a = X2 at HR ⊢
    generalize py (turnL l x.k) h - py (turnL l x.k) x.a = Y2 at HR ⊢
    go_wp2
    have hz := store4 HX4.out (.int .i64 X1) (.int .i64 Y1) (.int .i64 X2) (.int .i64 Y2)
    have e0 := block_cell hz 0
    have e1 := block_cell hz 1
    have e2 := block_cell hz 2
    have e3 := block_cell hz 3
    exact bodyPost_ret (v := .tuple #[.agg #[.int .i64 X1, .int .i64 Y1, .int .i64 X2, .int .i64 Y2], .int .i64 0]) (by simp [results, Tryd.results26, go_sem, e0, e1, e2, e3]) rfl ⟨HR.out, below_store4' HB4.out (Nat.le_refl _) _ _ _ _⟩
end Go.Proofs.YtfommfgokpiieaaDoor
