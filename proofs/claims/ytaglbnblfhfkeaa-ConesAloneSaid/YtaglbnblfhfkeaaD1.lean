import Derived.Test.YtaglbnblfhfkeaaD0
import Derived.Test.YtaglbnblfhfkeaaMath2
namespace Go.Proofs.Ytaglbnblfhfkeaa
open Go.RowKit

/-- No number of a vector is far from 0. -/
def near (B : Int) (v : Vec) : Prop := (-B ≤ v.a ∧ v.a ≤ B) ∧ (-B ≤ v.b ∧ v.b ≤ B) ∧ (-B ≤ v.c ∧ v.c ≤ B) ∧ (-B ≤ v.d ∧ v.d ≤ B)

set_option maxHeartbeats 2000000 in
set_option maxRecDepth 100000 in
theorem vstep_any (v : Vec) (j : Nat) (n : Int) (w : World) (hj : j < 4) (hn : -1 ≤ n ∧ n ≤ 1) (hv : near 1000000000 v) :
    Calls Try.prog 110 #[.agg #[.int .i64 (v).a, .int .i64 (v).b, .int .i64 (v).c, .int .i64 (v).d], .int .i64 j, .int .i64 n] w fun e w' => e = .returned (.agg #[.int .i64 (stepTo v j n).a, .int .i64 (stepTo v j n).b, .int .i64 (stepTo v j n).c, .int .i64 (stepTo v j n).d]) ∧ Below w.heap.size w w' := by
  obtain ⟨h1, h2, h3, h4⟩ := hv
  have h5 : j = 0 ∨ j = 1 ∨ j = 2 ∨ j = 3 := by omega
  rcases h5 with rfl | rfl | rfl | rfl
  all_goals
    simp only [stepTo]
    go_enter Try.func110, Try.ntmps110
    go_wp2
  · exact bodyPost_ret (v := .agg #[.int .i64 (stepTo v 0 n).a, .int .i64 (stepTo v 0 n).b, .int .i64 (stepTo v 0 n).c, .int .i64 (stepTo v 0 n).d]) (by simp [results, Try.results110, go_sem, stepTo]) rfl ⟨rfl, below_two _ _ _⟩
  · exact bodyPost_ret (v := .agg #[.int .i64 (stepTo v 1 n).a, .int .i64 (stepTo v 1 n).b, .int .i64 (stepTo v 1 n).c, .int .i64 (stepTo v 1 n).d]) (by simp [results, Try.results110, go_sem, stepTo]) rfl ⟨rfl, below_two _ _ _⟩
  · exact bodyPost_ret (v := .agg #[.int .i64 (stepTo v 2 n).a, .int .i64 (stepTo v 2 n).b, .int .i64 (stepTo v 2 n).c, .int .i64 (stepTo v 2 n).d]) (by simp [results, Try.results110, go_sem, stepTo]) rfl ⟨rfl, below_two _ _ _⟩
  · exact bodyPost_ret (v := .agg #[.int .i64 (stepTo v 3 n).a, .int .i64 (stepTo v 3 n).b, .int .i64 (stepTo v 3 n).c, .int .i64 (stepTo v 3 n).d]) (by simp [results, Try.results110, go_sem, stepTo]) rfl ⟨rfl, below_two _ _ _⟩

theorem dotN_dot (x y : Vec) : dotN x.at' y.at' 4 = Vec.dot x y := by simp [dotN, Vec.dot, Vec.at']
theorem fitsN_fits (x y : Vec) : (fitsN x.at' y.at' 4 = true) ↔ Vec.fits x y := by
  rw [fitsN_iff]
  constructor
  · intro h
    have h0 := h 0 (by omega); have h1 := h 1 (by omega); have h2 := h 2 (by omega); have h3 := h 3 (by omega)
    simp only [Vec.at'] at h0 h1 h2 h3
    simp only [Vec.fits, Vec.fit1]
    refine ⟨⟨?_, ?_⟩, ⟨?_, ?_⟩, ⟨?_, ?_⟩, ?_, ?_⟩ <;> omega
  · rintro ⟨h0, h1, h2, h3⟩ j hj
    simp only [Vec.fit1] at h0 h1 h2 h3
    match j, hj with
    | 0, _ => simp only [Vec.at']; omega
    | 1, _ => simp only [Vec.at']; omega
    | 2, _ => simp only [Vec.at']; omega
    | 3, _ => simp only [Vec.at']; omega

theorem low_mul {x y M : Int} (hx : low x) (hy : -M ≤ y ∧ y ≤ M) : -(2 * M) ≤ x * y ∧ x * y ≤ 2 * M := mul_two hx.1 hx.2 hy.1 hy.2

theorem at_near {B : Int} {v : Vec} (h : near B v) (j : Nat) (hj : j < 4) : -B ≤ v.at' j ∧ v.at' j ≤ B := by
  match j, hj with
  | 0, _ => exact h.1
  | 1, _ => exact h.2.1
  | 2, _ => exact h.2.2.1
  | 3, _ => exact h.2.2.2

/-- vector.dot at a row of a matrix. -/
theorem vdot_row (r v : Vec) (w : World) (hr : low r.a ∧ low r.b ∧ low r.c ∧ low r.d) (hv : near 1000000000 v) :
    Calls Try.prog 59 #[.agg #[.int .i64 (r).a, .int .i64 (r).b, .int .i64 (r).c, .int .i64 (r).d], .agg #[.int .i64 (v).a, .int .i64 (v).b, .int .i64 (v).c, .int .i64 (v).d]] w fun e w' => e = .returned (.int .i64 (Vec.dot r v)) ∧ Below w.heap.size w w' := by
  have := vdot_any r.at' v.at' w (fun j hj => by have := low_mul (low_at hr j) (at_near hv j hj); omega)
  rw [dotN_dot] at this
  exact this

theorem vfits_vec (x y : Vec) (w : World) (r : Bool) (hr : r = true ↔ Vec.fits x y) :
    Calls Try.prog 61 #[.agg #[.int .i64 (x).a, .int .i64 (x).b, .int .i64 (x).c, .int .i64 (x).d], .agg #[.int .i64 (y).a, .int .i64 (y).b, .int .i64 (y).c, .int .i64 (y).d]] w fun e w' => e = .returned (.bool r) ∧ Below w.heap.size w w' := by
  have e : fitsN x.at' y.at' 4 = r := by rw [Bool.eq_iff_iff, fitsN_fits, hr]
  have := vfits_any x.at' y.at' w
  rw [e] at this
  exact this

theorem pidx0 (a b : Int) (w : World) : (Instr.index 96 (.agg #[.int .i64 a, .int .i64 b]) (.int .i64 0)).run Try.prog w = .ok (.int .i64 a) w := by kernel_rfl
theorem pidx1 (a b : Int) (w : World) : (Instr.index 96 (.agg #[.int .i64 a, .int .i64 b]) (.int .i64 1)).run Try.prog w = .ok (.int .i64 b) w := by kernel_rfl
theorem ridx0 (a b : Vec) (w : World) : (Instr.index 62 (.agg #[.int .i64 a.a, .int .i64 a.b, .int .i64 a.c, .int .i64 a.d, .int .i64 b.a, .int .i64 b.b, .int .i64 b.c, .int .i64 b.d]) (.int .i64 0)).run Try.prog w = .ok (.agg #[.int .i64 (a).a, .int .i64 (a).b, .int .i64 (a).c, .int .i64 (a).d]) w := by kernel_rfl
theorem ridx1 (a b : Vec) (w : World) : (Instr.index 62 (.agg #[.int .i64 a.a, .int .i64 a.b, .int .i64 a.c, .int .i64 a.d, .int .i64 b.a, .int .i64 b.b, .int .i64 b.c, .int .i64 b.d]) (.int .i64 1)).run Try.prog w = .ok (.agg #[.int .i64 (b).a, .int .i64 (b).b, .int .i64 (b).c, .int .i64 (b).d]) w := by kernel_rfl

structure TimesAt (w wr : World) (m : Mx) (v : Vec) (k : Nat) : Prop where
  vv : wr.heap[w.heap.size + 1]? = some (.cells #[.int .i64 (v).a, .int .i64 (v).b, .int .i64 (v).c, .int .i64 (v).d] 61)
  res : wr.heap[w.heap.size + 1 + 1]? = some (.cells #[.int .i64 0, .int .i64 0] 96)
  p : wr.heap[w.heap.size + 1 + 1 + 1]? = some (.cells #[.int .i64 (if 0 < k then Vec.dot m.r0 v else 0), .int .i64 (if 1 < k then Vec.dot m.r1 v else 0)] 96)
  below : Below w.heap.size w wr

theorem TimesAt.start (w : World) (m : Mx) (v : Vec) : TimesAt w ((((w.alloc (.cells #[.int .i64 (m).r0.a, .int .i64 (m).r0.b, .int .i64 (m).r0.c, .int .i64 (m).r0.d, .int .i64 (m).r1.a, .int .i64 (m).r1.b, .int .i64 (m).r1.c, .int .i64 (m).r1.d, .int .i64 ((m).n : Int)] 64)).alloc (.cells #[.int .i64 (v).a, .int .i64 (v).b, .int .i64 (v).c, .int .i64 (v).d] 61)).alloc (.cells #[.int .i64 0, .int .i64 0] 96)).alloc (.cells #[.int .i64 0, .int .i64 0] 96)) m v 0 := by
  refine ⟨?_, ?_, ?_, ((below_two _ _ _).alloc (by simp; omega) _).alloc (by simp; omega) _⟩
  · rw [Below.heap_alloc _ _ _ (by simp), Below.heap_alloc _ _ _ (by simp)]; exact heap_two2 _ _ _
  · rw [Below.heap_alloc _ _ _ (by simp)]
    have := heap_alloc_new ((w.alloc (.cells #[.int .i64 (m).r0.a, .int .i64 (m).r0.b, .int .i64 (m).r0.c, .int .i64 (m).r0.d, .int .i64 (m).r1.a, .int .i64 (m).r1.b, .int .i64 (m).r1.c, .int .i64 (m).r1.d, .int .i64 ((m).n : Int)] 64)).alloc (.cells #[.int .i64 (v).a, .int .i64 (v).b, .int .i64 (v).c, .int .i64 (v).d] 61)) (.cells #[.int .i64 0, .int .i64 0] 96)
    simpa using this
  · have := heap_alloc_new (((w.alloc (.cells #[.int .i64 (m).r0.a, .int .i64 (m).r0.b, .int .i64 (m).r0.c, .int .i64 (m).r0.d, .int .i64 (m).r1.a, .int .i64 (m).r1.b, .int .i64 (m).r1.c, .int .i64 (m).r1.d, .int .i64 ((m).n : Int)] 64)).alloc (.cells #[.int .i64 (v).a, .int .i64 (v).b, .int .i64 (v).c, .int .i64 (v).d] 61)).alloc (.cells #[.int .i64 0, .int .i64 0] 96)) (.cells #[.int .i64 0, .int .i64 0] 96)
    simpa using this

theorem TimesAt.set0 {w w1 : World} {m : Mx} {v : Vec} (hv : w1.heap[w.heap.size + 1]? = some (.cells #[.int .i64 (v).a, .int .i64 (v).b, .int .i64 (v).c, .int .i64 (v).d] 61)) (hr : w1.heap[w.heap.size + 1 + 1]? = some (.cells #[.int .i64 0, .int .i64 0] 96))
    {x y : Int} (hp : w1.heap[w.heap.size + 1 + 1 + 1]? = some (.cells #[.int .i64 x, .int .i64 y] 96)) (hy : y = 0) (hb : Below w.heap.size w w1) :
    TimesAt w (w1.setCell ⟨w.heap.size + 1 + 1 + 1, 0, none⟩ (.int .i64 (Vec.dot m.r0 v))) m v 1 := by
  refine ⟨?_, ?_, ?_, hb.setCell (by simp; omega) _⟩
  · rw [heap_setCell_other _ _ _ _ (by simp)]; exact hv
  · rw [heap_setCell_other _ _ _ _ (by simp)]; exact hr
  · rw [heap_setCell_same _ _ 0 _ _ _ hp, hy]; simp
theorem TimesAt.set1 {w w1 : World} {m : Mx} {v : Vec} (hv : w1.heap[w.heap.size + 1]? = some (.cells #[.int .i64 (v).a, .int .i64 (v).b, .int .i64 (v).c, .int .i64 (v).d] 61)) (hr : w1.heap[w.heap.size + 1 + 1]? = some (.cells #[.int .i64 0, .int .i64 0] 96))
    {x y : Int} (hp : w1.heap[w.heap.size + 1 + 1 + 1]? = some (.cells #[.int .i64 x, .int .i64 y] 96)) (hx : x = Vec.dot m.r0 v) (hb : Below w.heap.size w w1) :
    TimesAt w (w1.setCell ⟨w.heap.size + 1 + 1 + 1, 1, none⟩ (.int .i64 (Vec.dot m.r1 v))) m v 2 := by
  refine ⟨?_, ?_, ?_, hb.setCell (by simp; omega) _⟩
  · rw [heap_setCell_other _ _ _ _ (by simp)]; exact hv
  · rw [heap_setCell_other _ _ _ _ (by simp)]; exact hr
  · rw [heap_setCell_same _ _ 1 _ _ _ hp, hx]; simp

theorem prod_cells {w : World} {b : Nat} {x y : Int} {T : TypeId} (h : w.heap[b]? = some (.cells #[.int .i64 x, .int .i64 y] T)) :
    w.cell? ⟨b, 0, none⟩ = some (.int .i64 x) ∧ w.cell? ⟨b, 1, none⟩ = some (.int .i64 y) ∧ ∀ j, w.frozen? ⟨b, j, none⟩ = false :=
  ⟨block_cell h 0, block_cell h 1, block_free h⟩
theorem vecS_cells {w : World} {b : Nat} {v : Vec} {T : TypeId} (h : w.heap[b]? = some (.cells #[.int .i64 (v).a, .int .i64 (v).b, .int .i64 (v).c, .int .i64 (v).d] T)) :
    w.cell? ⟨b, 0, none⟩ = some (.int .i64 v.a) ∧ w.cell? ⟨b, 1, none⟩ = some (.int .i64 v.b) ∧ w.cell? ⟨b, 2, none⟩ = some (.int .i64 v.c) ∧ w.cell? ⟨b, 3, none⟩ = some (.int .i64 v.d) ∧
    ∀ j, w.frozen? ⟨b, j, none⟩ = false :=
  ⟨block_cell h 0, block_cell h 1, block_cell h 2, block_cell h 3, block_free h⟩

set_option maxHeartbeats 4000000 in
set_option maxRecDepth 100000 in
theorem mtimes_any (m : Mx) (v : Vec) (w : World) (hm : m.ok) (hv : near 1000000000 v) :
    Calls Try.prog 84 #[.agg #[.int .i64 (m).r0.a, .int .i64 (m).r0.b, .int .i64 (m).r0.c, .int .i64 (m).r0.d, .int .i64 (m).r1.a, .int .i64 (m).r1.b, .int .i64 (m).r1.c, .int .i64 (m).r1.d, .int .i64 ((m).n : Int)], .agg #[.int .i64 (v).a, .int .i64 (v).b, .int .i64 (v).c, .int .i64 (v).d]] w fun e w' => e = .returned (.agg #[.int .i64 (Vec.dot m.r0 v), .int .i64 (Vec.dot m.r1 v)]) ∧ Below w.heap.size w w' := by
  have i0 := ridx0 m.r0 m.r1
  have i1 := ridx1 m.r0 m.r1
  have H0 := Lib.hid hm.r0
  have H1 := Lib.hid hm.r1
  have HV := Lib.hid hv
  clear hm hv
  go_enter Try.func84, Try.ntmps84
  go_wp2
  go_loopw [10] (fun i wr => ∃ k : Nat, k ≤ 2 ∧ i = .int .i64 k ∧ TimesAt w wr m v k) (fun i _ => 2 - (intOf i).toNat)
  case atStart => exact ⟨0, Nat.zero_le _, rfl, TimesAt.start w m v⟩
  case round =>
    obtain ⟨k, hk, rfl, hT⟩ := hrel
    have c0 := vecS_cells hT.vv
    have c1 := prod_cells hT.res
    have c2 := prod_cells hT.p
    have hs3 : w.heap.size + 1 + 1 + 1 < wr.heap.size := (Array.getElem?_eq_some_iff.1 hT.p).1
    have hs2 : w.heap.size + 1 + 1 < wr.heap.size := by omega
    have hs1 : w.heap.size + 1 < wr.heap.size := by omega
    have HT := Lib.hid hT
    clear hT
    have hk3 : k = 0 ∨ k = 1 ∨ k = 2 := by omega
    rcases hk3 with rfl | rfl | rfl
    · go_wp2_with fail
      refine (vdot_row _ _ _ H0.out HV.out).mono ?_
      rintro e w1 ⟨rfl, hb⟩
      have hp1 := (hb.block _ (by simp; omega)).trans ((Below.heap_alloc _ _ _ hs3).trans HT.out.p)
      have hr1 := (hb.block _ (by simp; omega)).trans ((Below.heap_alloc _ _ _ hs2).trans HT.out.res)
      have hv1 := (hb.block _ (by simp; omega)).trans ((Below.heap_alloc _ _ _ hs1).trans HT.out.vv)
      have HB : Hid (Below w.heap.size w w1) := (HT.out.below.alloc HT.out.below.size _).trans (hb.mono (by have := HT.out.below.size; simp; omega))
      have c3 := prod_cells hp1
      have HP := Lib.hid hp1
      have HR := Lib.hid hr1
      have HV1 := Lib.hid hv1
      clear hb c0 c1 c2 hp1 hr1 hv1
      go_wp2
      exact ⟨⟨1, by omega, rfl, TimesAt.set0 HV1.out HR.out HP.out (by simp) HB.out⟩, by simp [intOf]⟩
    · go_wp2_with fail
      refine (vdot_row _ _ _ H1.out HV.out).mono ?_
      rintro e w1 ⟨rfl, hb⟩
      have hp1 := (hb.block _ (by simp; omega)).trans ((Below.heap_alloc _ _ _ hs3).trans HT.out.p)
      have hr1 := (hb.block _ (by simp; omega)).trans ((Below.heap_alloc _ _ _ hs2).trans HT.out.res)
      have hv1 := (hb.block _ (by simp; omega)).trans ((Below.heap_alloc _ _ _ hs1).trans HT.out.vv)
      have HB : Hid (Below w.heap.size w w1) := (HT.out.below.alloc HT.out.below.size _).trans (hb.mono (by have := HT.out.below.size; simp; omega))
      have c3 := prod_cells hp1
      have HP := Lib.hid hp1
      have HR := Lib.hid hr1
      have HV1 := Lib.hid hv1
      clear hb c0 c1 c2 hp1 hr1 hv1
      go_wp2
      exact ⟨⟨2, by omega, rfl, TimesAt.set1 HV1.out HR.out HP.out (by simp) HB.out⟩, by simp [intOf]⟩
    · have HB : Hid (Below w.heap.size w wr) := HT.out.below
      go_wp2
      exact bodyPost_ret (v := .agg #[.int .i64 (Vec.dot m.r0 v), .int .i64 (Vec.dot m.r1 v)]) (by simp [results, Try.results84, go_sem, c1]) rfl
        ⟨rfl, (HB.out.setCell (by simp; omega) _).setCell (by simp; omega) _⟩

set_option maxHeartbeats 4000000 in
set_option maxRecDepth 100000 in
theorem misMove_any (m : Mx) (v : Vec) (w : World) (r : Bool) (hm : m.ok) (hv : near 1000000000 v) (hr : r = true ↔ isMove m v) :
    Calls Try.prog 71 #[.agg #[.int .i64 (m).r0.a, .int .i64 (m).r0.b, .int .i64 (m).r0.c, .int .i64 (m).r0.d, .int .i64 (m).r1.a, .int .i64 (m).r1.b, .int .i64 (m).r1.c, .int .i64 (m).r1.d, .int .i64 ((m).n : Int)], .agg #[.int .i64 (v).a, .int .i64 (v).b, .int .i64 (v).c, .int .i64 (v).d]] w fun e w' => e = .returned (.bool r) ∧ Below w.heap.size w w' := by
  have HR := Lib.hid hr
  have main := Lib.hid (mtimes_any m v ((w.alloc (.cells #[.int .i64 (m).r0.a, .int .i64 (m).r0.b, .int .i64 (m).r0.c, .int .i64 (m).r0.d, .int .i64 (m).r1.a, .int .i64 (m).r1.b, .int .i64 (m).r1.c, .int .i64 (m).r1.d, .int .i64 ((m).n : Int)] 64)).alloc (.cells #[.int .i64 (v).a, .int .i64 (v).b, .int .i64 (v).c, .int .i64 (v).d] 61)) hm hv)
  clear hm hv hr
  go_enter Try.func71, Try.ntmps71
  go_wp2_with fail
  refine main.out.mono ?_
  rintro e w1 ⟨rfl, hb⟩
  have HB : Hid (Below w.heap.size w w1) := (below_two w _ _).trans (hb.mono (by simp; omega))
  have he := eq_prod
  have hrr : (Vec.dot m.r0 v == 0 && Vec.dot m.r1 v == 0) = r := by
    rw [Bool.eq_iff_iff, HR.out]; simp [isMove]
  have HRR := Lib.hid hrr
  clear hb main hrr
  go_wp2
  go_ret
  exact ⟨by rw [← HRR.out]; rfl, HB.out⟩
end Go.Proofs.Ytaglbnblfhfkeaa
