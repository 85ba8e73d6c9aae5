import Derived.Test.YtfommfgokpiieaaDoorG3
namespace Go.Proofs.YtfommfgokpiieaaDoor
open Go.RowKit Go.Shelf

attribute [local go_sem] Oper.semAt_some

theorem facRow_len (s : ByteArray) (k a m : Nat) : (facRow s k a m).length ≤ m := by
  unfold facRow
  rw [List.length_map]
  exact Nat.le_trans (List.length_filter_le _ _) (by simp)
theorem flat_le {α β : Type} (f : α → List β) (c : Nat) : ∀ (l : List α), (∀ x ∈ l, (f x).length ≤ c) → (l.flatMap f).length ≤ l.length * c
  | [], _ => by simp
  | a :: l, h => by
    have h1 := flat_le f c l (fun x hx => h x (List.mem_cons_of_mem _ hx))
    have h2 := h a (List.mem_cons_self ..)
    simp only [List.flatMap_cons, List.length_append, List.length_cons, Nat.add_mul]
    omega
theorem facA_len (s : ByteArray) (k m : Nat) : (facA s k m).length ≤ m * (s.size / 2) := by
  have := flat_le (fun i => facRow s k (i + 1) (s.size / 2 - (i + 1))) (s.size / 2) (List.range m) (fun x _ => Nat.le_trans (facRow_len ..) (by omega))
  rw [List.length_range] at this
  exact this
theorem facL_len (s : ByteArray) (hs : s.size ≤ 24) : (facL s).length ≤ 1000000 := by
  have := flat_le (fun k => facA s k (s.size / 2 - 1)) 144 (List.range s.size) (fun k _ => Nat.le_trans (facA_len ..) (by
    have := Nat.mul_le_mul (show s.size / 2 - 1 ≤ 12 by omega) (show s.size / 2 ≤ 12 by omega)
    omega))
  rw [List.length_range] at this
  unfold facL facK
  omega

theorem ownFrom_box {β : Type} {B b : Nat} {t : TypeId} (f : β → Value) : OwnFrom B (fun s W => Boxed W b t (f s)) := Own.from (boxed_own b t f) B

set_option maxRecDepth 100000 in
set_option maxHeartbeats 4000000 in
theorem factor_bad (s : ByteArray) (l : List UInt8) (w : World) (hl : s.data.toList = l) (hs : s.size ≤ 9223372036854775807) (ho : outB l = false) (hS : StepsAt w) :
    Calls Tryd.prog 24 #[.string s] w fun e w' => e = .returned (.tuple #[.agg zA4, .int .i64 2]) ∧ Below w.heap.size w w' := by
  obtain ⟨w2, hw2e⟩ : ∃ w2, w2 = (w.alloc (.cells zA4 39)).alloc (.cells #[.int .i64 0] 25) := ⟨_, rfl⟩
  have hb2 : Below w.heap.size w w2 := by rw [hw2e]; exact two_le _ _ _
  have B0 : w2.heap[w.heap.size]? = some (.cells zA4 39) := by rw [hw2e]; exact heap_two1 _ _ _
  have B1 : w2.heap[w.heap.size + 1]? = some (.cells #[.int .i64 0] 25) := by rw [hw2e]; exact heap_two2 _ _ _
  have HI := Lib.hid (is_any s l false w2 hl hs ho (hS.keep hb2))
  have Hb2 := Lib.hid hb2
  have HB0 := Lib.hid B0
  have HB1 := Lib.hid B1
  have Hw := Lib.hid hw2e
  have hw1 : ∀ f, Fence.wide.fn f := fun _ => trivial
  have hw2 : Fence.wide.depth = none := rfl
  clear hl ho hS hw2e hb2 B0 B1 hs
  refine callsIn_wide (n := 0).1 ?_
  refine callsIn_of_wp_marks Tryd.func24 rfl trivial ?_ rfl
  simp only [Tryd.ntmps24, List.size_toArray, List.length_cons, List.length_nil, Nat.reduceAdd, Nat.reduceSub, Array.replicate_succ, Array.replicate_zero, List.push_toArray, List.append_toArray, List.nil_append, List.cons_append]
  gi_wp2_with fail
  have Hw' := Hw.out
  unfold zA4 at Hw'
  rw [← Hw']
  clear Hw'
  refine (callsIn_wide.2 HI.out).mono ?_
  rintro e w3 ⟨rfl, hb3⟩
  have hsz2 := Hb2.out.size
  have b0 : w3.heap[w.heap.size]? = some (.cells zA4 39) := (hb3.block _ (Array.getElem?_eq_some_iff.1 HB0.out).1).trans HB0.out
  have b1 : w3.heap[w.heap.size + 1]? = some (.cells #[.int .i64 0] 25) := (hb3.block _ (Array.getElem?_eq_some_iff.1 HB1.out).1).trans HB1.out
  have h0lt := (Array.getElem?_eq_some_iff.1 b0).1
  have h1lt2 := (Array.getElem?_eq_some_iff.1 b1).1
  unfold zA4 at b0
  have f0 := store4 b0 (.int .i64 0) (.int .i64 0) (.int .i64 0) (.int .i64 0)
  have f1 := far4 b1 (b := w.heap.size) (by omega) (.int .i64 0) (.int .i64 0) (.int .i64 0) (.int .i64 0)
  have r0 := far1 f0 (b := w.heap.size + 1) (by omega) (.int .i64 2)
  have r1 := store1 f1 (.int .i64 2)
  have HBl : Hid (Below w.heap.size w (((((w3.setCell ⟨w.heap.size, 0, none⟩ (.int .i64 0)).setCell ⟨w.heap.size, 1, none⟩ (.int .i64 0)).setCell ⟨w.heap.size, 2, none⟩ (.int .i64 0)).setCell ⟨w.heap.size, 3, none⟩ (.int .i64 0)).setCell ⟨w.heap.size + 1, 0, none⟩ (.int .i64 2))) := by
    have hb := band Hb2.out hb3
    have b1 := hb.setCell (p := ⟨w.heap.size, 0, none⟩) (Nat.le_refl _) (.int .i64 0)
    have b2 := b1.setCell (p := ⟨w.heap.size, 1, none⟩) (Nat.le_refl _) (.int .i64 0)
    have b3 := b2.setCell (p := ⟨w.heap.size, 2, none⟩) (Nat.le_refl _) (.int .i64 0)
    have b4 := b3.setCell (p := ⟨w.heap.size, 3, none⟩) (Nat.le_refl _) (.int .i64 0)
    exact b4.setCell (p := ⟨w.heap.size + 1, 0, none⟩) (Nat.le_succ _) (.int .i64 2)
  have HR0 := Lib.hid r0
  have HR1 := Lib.hid r1
  have z0 := block_cell b0 0
  have z1 := block_cell b0 1
  have z2 := block_cell b0 2
  have z3 := block_cell b0 3
  have y0 := block_free b0 0
  have y1 := block_free b0 1
  have y2 := block_free b0 2
  have y3 := block_free b0 3
  have e0 := block_cell b1 0
  have e1 := block_free b1 0
  clear b0 b1 f0 f1 r0 r1 hb3 HB0 HB1 Hb2 Hw HI
  gi_wp2
  have z0 := block_cell HR0.out 0
  have z1 := block_cell HR0.out 1
  have z2 := block_cell HR0.out 2
  have z3 := block_cell HR0.out 3
  have e0 := block_cell HR1.out 0
  exact ⟨.tuple #[.agg zA4, .int .i64 2], by simp [results, Tryd.results24, go_sem, z0, z1, z2, z3, e0, zA4], rfl, HBl.out⟩

set_option maxRecDepth 100000 in
set_option maxHeartbeats 4000000 in
theorem factors_bad (s : ByteArray) (l : List UInt8) (w : World) (hl : s.data.toList = l) (hs : s.size ≤ 9223372036854775807) (ho : outB l = false) (hS : StepsAt w) :
    Calls Tryd.prog 25 #[.string s] w fun e w' => e = .returned (.tuple #[.int .i64 0, .int .i64 2]) ∧ Below w.heap.size w w' := by
  have HI := Lib.hid (is_any s l false w hl hs ho hS)
  clear hl ho hS
  go_enter Tryd.func25, Tryd.ntmps25
  go_wp2_with fail
  refine HI.out.mono ?_
  rintro e w2 ⟨rfl, hb⟩
  have HB := Lib.hid hb
  clear hb
  go_wp2
  go_ret2
  exact ⟨rfl, HB.out⟩

set_option maxRecDepth 100000 in
set_option maxHeartbeats 4000000 in
theorem factors_good (s : ByteArray) (l : List UInt8) (w : World) (hl : s.data.toList = l) (ho : outB l = true) (hS : StepsAt w) :
    Calls Tryd.prog 25 #[.string s] w fun e w' => e = .returned (.tuple #[.int .i64 (facL s).length, .int .i64 0]) ∧ Below w.heap.size w w' := by
  have hw0 := (outB_iff.1 ho).1
  have hs : s.size ≤ 24 := by have := (wordB_iff.1 hw0).1; rw [← hl] at this; exact this
  have HI := Lib.hid (is_any s l true w hl (by omega) ho hS)
  have HWd : Hid (wordB s.data.toList = true) := by simp only [Hid]; rw [hl]; exact hw0
  have HLen := Lib.hid (facL_len s hs)
  have hw1 : ∀ f, Fence.wide.fn f := fun _ => trivial
  have hw2 : Fence.wide.depth = none := rfl
  clear hl ho hS hw0
  refine callsIn_wide (n := 0).1 ?_
  refine callsIn_of_wp_marks Tryd.func25 rfl trivial ?_ rfl
  simp only [Tryd.ntmps25, List.size_toArray, List.length_cons, List.length_nil, Nat.reduceAdd, Nat.reduceSub, Array.replicate_succ, Array.replicate_zero, List.push_toArray, List.append_toArray, List.nil_append, List.cons_append]
  gi_wp2_with fail
  refine (callsIn_wide.2 HI.out).mono ?_
  rintro e w2 ⟨rfl, hb2⟩
  have Hb2 := Lib.hid hb2
  clear hb2
  gi_wp2_with fail
  obtain ⟨w3, hw3⟩ : ∃ w3, w3 = w2.alloc (.cells #[.int .i64 0] 3) := ⟨_, rfl⟩
  rw [← hw3]
  have hb3 : Below w2.heap.size w2 w3 := by rw [hw3]; exact one_le _ _
  have hx3 : Boxed w3 w2.heap.size 3 (.int .i64 0) := by rw [hw3]; exact Boxed.new w2 _ _
  have hs3 : w3.heap.size = w2.heap.size + 1 := by rw [hw3]; simp
  have hs2 := Hb2.out.size
  clear hw3
  refine (callsIn_wide.2 (factorings_any s w3)).mono ?_
  rintro e w4 ⟨rfl, hw4⟩
  have hit : Iter Tryd.prog 59 #[.pointer (some ⟨w3.heap.size, 0, none⟩)] (EF (s.size / 2)) (fun k => k = w3.heap.size) (facL s) w4 :=
    fact_iter s w3.heap.size w4 HWd.out (by rw [hw4]; exact block_cell (heap_alloc_new w3 _) 0)
  have hb4 : Below w3.heap.size w3 w4 := by rw [hw4]; exact one_le _ _
  have hs4 : w4.heap.size = w3.heap.size + 1 := by rw [hw4]; simp
  have HIt := Lib.hid hit
  have Hb4 := Lib.hid (band (band Hb2.out hb3) hb4)
  have HBx : Hid (Boxed w4 w2.heap.size 3 (.int .i64 0)) := (hb4.block _ (by omega)).trans hx3
  have Hs3 := Lib.hid hs3
  have Hs4 := Lib.hid hs4
  clear hit hw4 hb4 hb3 hx3 hs3 hs4
  gi_wp2_with fail
  have hs3 := Hs3.out
  have hs4 := Hs4.out
  refine wp_range (gf := 59) (lb := #[.pointer (some ⟨w3.heap.size, 0, none⟩)]) (α := Fa) rfl (enters_of Tryd.func59 (by kernel_rfl) rfl) HIt.out (Below.refl _ _)
    (fun k => k = w2.heap.size) (fun k h => ⟨fun e => by omega, by omega⟩) (fun k h => by omega) (fun x v => ef_own _ _ x v)
    (fun pre W' => Boxed W' w2.heap.size 3 (.int .i64 (pre.length : Int)))
    (fun _ _ => False)
    (ownFrom_box (fun pre : List Fa => .int .i64 (pre.length : Int))) (fun _ _ _ _ h _ _ => h)
    HBx.out
    (fun v => { tmps := #[.string s, undef, .int .i64 0, .int .i64 0, .pointer (some ⟨w2.heap.size, 0, none⟩), .string s, .bool true, .bool false, .string s, .func (.func 59) #[] #[.pointer (some ⟨w3.heap.size, 0, none⟩)], v, undef, undef, undef], defers := [] }) ?assign ?body ?done ?stop
  case assign =>
    intro l x W K hK
    gi_wp2
    exact hK
  case body =>
    intro l2 pre x v W1 hpre hsz hbx hE _
    have hl : pre.length + 1 ≤ 1000000 := by
      have := hpre.length_le
      have := HLen.out
      simp at *; omega
    have hc := hbx.cell
    have hf := hbx.frozen
    have HBX := Lib.hid (hbx.set (.int .i64 ((pre ++ [x]).length : Int)))
    have e : ((pre ++ [x]).length : Int) = (pre.length : Int) + 1 := by simp
    rw [e] at HBX
    have HG : Hid (roundEnd (fun k => k = w2.heap.size) (fun pre W' => Boxed W' w2.heap.size 3 (.int .i64 (pre.length : Int))) (fun (_ : List Fa) _ => False) (pre ++ [x]) W1 .normal { tmps := #[], defers := [] } (W1.setCell ⟨w2.heap.size, 0, none⟩ (.int .i64 ((pre.length : Int) + 1)))) :=
      ⟨Keep.setCell (T := fun k => k = w2.heap.size) (p := ⟨w2.heap.size, 0, none⟩) (Keep.refl _ _) rfl _, by show Boxed _ _ _ (.int .i64 ((pre ++ [x]).length : Int)); rw [e]; exact HBX.out⟩
    clear hbx hE hpre e
    gi_wp2
    exact HG.out
  case done =>
    rintro D W3 hD hb3 hbx hK
    have hc := hbx.cell
    have hfin : Hid (Below w.heap.size w (W3.putObj D (.deferred none))) := below_put (Hb4.out.trans (hb3.below (fun k hk e => by omega) (by have := Hb4.out.size; omega))) (by have := Hb4.out.size; omega)
    clear hb3
    gi_wp2
    refine ⟨by simp, .inl ⟨_, _, rfl, run_takeDeferred hK, ?_⟩⟩
    exact ⟨_, by simp [results, Tryd.results25, go_sem], rfl, hfin.out⟩
  case stop =>
    rintro D pre W3 hD hb3 hpre hj hK
    exact hj.elim
end Go.Proofs.YtfommfgokpiieaaDoor
