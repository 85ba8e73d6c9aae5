import Derived.Test.YtaglbnblfhfkeaaD6
import Derived.Test.YtaglbnblfhfkeaaMath3
namespace Go.Proofs.Ytaglbnblfhfkeaa
open Go.RowKit

set_option maxHeartbeats 4000000 in
set_option maxRecDepth 100000 in
theorem vminus_any (u v : Vec) (w : World) (hu : near 1000000000 u) (hv : near 1000000000 v) :
    Calls Try.prog 98 #[.agg #[.int .i64 (u).a, .int .i64 (u).b, .int .i64 (u).c, .int .i64 (u).d], .agg #[.int .i64 (v).a, .int .i64 (v).b, .int .i64 (v).c, .int .i64 (v).d]] w fun e w' => e = .returned (.agg #[.int .i64 (Vec.sub u v).a, .int .i64 (Vec.sub u v).b, .int .i64 (Vec.sub u v).c, .int .i64 (Vec.sub u v).d]) ∧ Below w.heap.size w w' := by
  obtain ⟨⟨a1, a2⟩, ⟨a3, a4⟩, ⟨a5, a6⟩, a7, a8⟩ := hu
  obtain ⟨⟨b1, b2⟩, ⟨b3, b4⟩, ⟨b5, b6⟩, b7, b8⟩ := hv
  have i0 := idx0; have i1 := idx1; have i2 := idx2; have i3 := idx3
  go_enter Try.func98, Try.ntmps98
  go_wp2
  refine wp_loop_rounds 5 ?_
  rw [rounds_succ]
  go_wp2
  rw [rounds_succ]
  go_wp2
  rw [rounds_succ]
  go_wp2
  rw [rounds_succ]
  go_wp2
  rw [rounds_succ]
  go_wp2
  refine bodyPost_ret (v := .agg #[.int .i64 (Vec.sub u v).a, .int .i64 (Vec.sub u v).b, .int .i64 (Vec.sub u v).c, .int .i64 (Vec.sub u v).d]) (by simp [results, Try.results98, go_sem, Vec.sub]) rfl ⟨rfl, ?_⟩
  exact (below_two _ _ _).alloc (by simp; omega) _

/-- No number is below 0. -/
def Whole (v : Vec) : Prop := 0 ≤ v.a ∧ 0 ≤ v.b ∧ 0 ≤ v.c ∧ 0 ≤ v.d
instance (v : Vec) : Decidable (Whole v) := by unfold Whole; exact inferInstance

set_option maxHeartbeats 4000000 in
set_option maxRecDepth 100000 in
theorem whole_yes (v : Vec) (w : World) (h : Whole v) : Calls Try.prog 96 #[.agg #[.int .i64 (v).a, .int .i64 (v).b, .int .i64 (v).c, .int .i64 (v).d]] w fun e w' => e = .returned (.bool true) ∧ Below w.heap.size w w' := by
  obtain ⟨h1, h2, h3, h4⟩ := h
  have i0 := idx0; have i1 := idx1; have i2 := idx2; have i3 := idx3
  have HB := Lib.hid ((Below.refl w.heap.size w).alloc (Nat.le_refl _) (.cells #[.int .i64 (v).a, .int .i64 (v).b, .int .i64 (v).c, .int .i64 (v).d] 61))
  go_enter Try.func96, Try.ntmps96
  go_wp2
  refine wp_loop_rounds 5 ?_
  rw [rounds_succ]
  go_wp2
  rw [rounds_succ]
  go_wp2
  rw [rounds_succ]
  go_wp2
  rw [rounds_succ]
  go_wp2
  rw [rounds_succ]
  go_wp2
  go_ret
  exact ⟨rfl, HB.out⟩

set_option maxHeartbeats 4000000 in
set_option maxRecDepth 100000 in
theorem whole_no (v : Vec) (w : World) (h : ¬ Whole v) : Calls Try.prog 96 #[.agg #[.int .i64 (v).a, .int .i64 (v).b, .int .i64 (v).c, .int .i64 (v).d]] w fun e w' => e = .returned (.bool false) ∧ Below w.heap.size w w' := by
  have h' : (v.a < 0) ∨ (0 ≤ v.a ∧ v.b < 0) ∨ (0 ≤ v.a ∧ 0 ≤ v.b ∧ v.c < 0) ∨ (0 ≤ v.a ∧ 0 ≤ v.b ∧ 0 ≤ v.c ∧ v.d < 0) := by unfold Whole at h; omega
  clear h
  have i0 := idx0; have i1 := idx1; have i2 := idx2; have i3 := idx3
  have HB := Lib.hid ((Below.refl w.heap.size w).alloc (Nat.le_refl _) (.cells #[.int .i64 (v).a, .int .i64 (v).b, .int .i64 (v).c, .int .i64 (v).d] 61))
  rcases h' with h1 | ⟨h1, h2⟩ | ⟨h1, h2, h3⟩ | ⟨h1, h2, h3, h4⟩
  · go_enter Try.func96, Try.ntmps96
    go_wp2
    refine wp_loop_rounds 1 ?_
    rw [rounds_succ]
    go_wp2
    go_ret
    exact ⟨rfl, HB.out⟩
  · go_enter Try.func96, Try.ntmps96
    go_wp2
    refine wp_loop_rounds 2 ?_
    rw [rounds_succ]
    go_wp2
    rw [rounds_succ]
    go_wp2
    go_ret
    exact ⟨rfl, HB.out⟩
  · go_enter Try.func96, Try.ntmps96
    go_wp2
    refine wp_loop_rounds 3 ?_
    rw [rounds_succ]
    go_wp2
    rw [rounds_succ]
    go_wp2
    rw [rounds_succ]
    go_wp2
    go_ret
    exact ⟨rfl, HB.out⟩
  · go_enter Try.func96, Try.ntmps96
    go_wp2
    refine wp_loop_rounds 4 ?_
    rw [rounds_succ]
    go_wp2
    rw [rounds_succ]
    go_wp2
    rw [rounds_succ]
    go_wp2
    rw [rounds_succ]
    go_wp2
    go_ret
    exact ⟨rfl, HB.out⟩

theorem whole_any (v : Vec) (w : World) (r : Bool) (hr : r = true ↔ Whole v) : Calls Try.prog 96 #[.agg #[.int .i64 (v).a, .int .i64 (v).b, .int .i64 (v).c, .int .i64 (v).d]] w fun e w' => e = .returned (.bool r) ∧ Below w.heap.size w w' := by
  cases r
  · exact whole_no v w fun h => by have := hr.2 h; cases this
  · exact whole_yes v w (hr.1 rfl)

theorem slice_vec0 (b : Nat) (w : World) : (Instr.sliceAt 61 (.pointer (some ⟨b, 0, none⟩)) none (some (.int .i64 0)) none).run Try.prog w = .ok (.slice (some ⟨b, 0, none⟩) 0 4) w := by kernel_rfl
theorem slice_vec1 (b : Nat) (w : World) : (Instr.sliceAt 61 (.pointer (some ⟨b, 0, none⟩)) none (some (.int .i64 1)) none).run Try.prog w = .ok (.slice (some ⟨b, 0, none⟩) 1 4) w := by kernel_rfl
theorem slice_vec2 (b : Nat) (w : World) : (Instr.sliceAt 61 (.pointer (some ⟨b, 0, none⟩)) none (some (.int .i64 2)) none).run Try.prog w = .ok (.slice (some ⟨b, 0, none⟩) 2 4) w := by kernel_rfl
theorem slice_vec3 (b : Nat) (w : World) : (Instr.sliceAt 61 (.pointer (some ⟨b, 0, none⟩)) none (some (.int .i64 3)) none).run Try.prog w = .ok (.slice (some ⟨b, 0, none⟩) 3 4) w := by kernel_rfl
theorem slice_vec4 (b : Nat) (w : World) : (Instr.sliceAt 61 (.pointer (some ⟨b, 0, none⟩)) none (some (.int .i64 4)) none).run Try.prog w = .ok (.slice (some ⟨b, 0, none⟩) 4 4) w := by kernel_rfl
theorem slice_vecN {n : Nat} (h : n ≤ 4) (b : Nat) (w : World) : (Instr.sliceAt 61 (.pointer (some ⟨b, 0, none⟩)) none (some (.int .i64 (n : Int))) none).run Try.prog w = .ok (.slice (some ⟨b, 0, none⟩) n 4) w := by
  have e : n = 0 ∨ n = 1 ∨ n = 2 ∨ n = 3 ∨ n = 4 := by omega
  rcases e with rfl | rfl | rfl | rfl | rfl
  · exact slice_vec0 b w
  · exact slice_vec1 b w
  · exact slice_vec2 b w
  · exact slice_vec3 b w
  · exact slice_vec4 b w

theorem vec_ints' {w : World} {b n : Nat} {v : Vec} {T : TypeId} (hn : n ≤ 4) (h : w.heap[b]? = some (.cells #[.int .i64 (v).a, .int .i64 (v).b, .int .i64 (v).c, .int .i64 (v).d] T)) : Ints w (some ⟨b, 0, none⟩) n v.at' := by
  intro j hj
  have e : j = 0 ∨ j = 1 ∨ j = 2 ∨ j = 3 := by omega
  rcases e with rfl | rfl | rfl | rfl
  · exact ⟨b, 0, rfl, block_cell h 0⟩
  · exact ⟨b, 0, rfl, block_cell h 1⟩
  · exact ⟨b, 0, rfl, block_cell h 2⟩
  · exact ⟨b, 0, rfl, block_cell h 3⟩

set_option maxHeartbeats 2000000 in
set_option maxRecDepth 100000 in
theorem mlist_any (m : Mx) (v : Vec) (w : World) (hn4 : m.n ≤ 4) :
    Calls Try.prog 81 #[.agg #[.int .i64 (m).r0.a, .int .i64 (m).r0.b, .int .i64 (m).r0.c, .int .i64 (m).r0.d, .int .i64 (m).r1.a, .int .i64 (m).r1.b, .int .i64 (m).r1.c, .int .i64 (m).r1.d, .int .i64 ((m).n : Int)], .agg #[.int .i64 (v).a, .int .i64 (v).b, .int .i64 (v).c, .int .i64 (v).d]] w fun e w' => ∃ a' cap', e = .returned (.slice a' m.n cap') ∧ Own w' w.heap.size a' m.n cap' v.at' ∧ Below w.heap.size w w' := by
  have sl := slice_vecN hn4
  have Hc := Lib.hid (clone_any (some ⟨w.heap.size + 1, 0, none⟩) 4 m.n v.at' ((w.alloc (.cells #[.int .i64 (m).r0.a, .int .i64 (m).r0.b, .int .i64 (m).r0.c, .int .i64 (m).r0.d, .int .i64 (m).r1.a, .int .i64 (m).r1.b, .int .i64 (m).r1.c, .int .i64 (m).r1.d, .int .i64 ((m).n : Int)] 64)).alloc (.cells #[.int .i64 (v).a, .int .i64 (v).b, .int .i64 (v).c, .int .i64 (v).d] 61)) (by omega) (vec_ints' hn4 (heap_two2 _ _ _)))
  go_enter Try.func81, Try.ntmps81
  go_wp2_with fail
  refine Hc.out.mono ?_
  rintro e w1 ⟨a', cap', rfl, hO, hb⟩
  have HO : Hid (Own w1 w.heap.size a' m.n cap' v.at') := hO.mono (by simp; omega)
  have HB : Hid (Below w.heap.size w w1) := (below_two w _ _).trans (hb.mono (by simp; omega))
  clear hO hb
  go_wp2
  go_ret
  exact ⟨_, _, rfl, HO.out, HB.out⟩

/-- A slice of slices that holds these vectors, the numbers of n columns of each. -/
def VL (w : World) (a : Option Addr) (n : Nat) (l : List Vec) : Prop := ∃ A C, Mat w a l.length A (fun _ => n) C (fun k => (l.getD k Vec.zero).at')
theorem VL.keep {w w' : World} {a : Option Addr} {n : Nat} {l : List Vec} (h : VL w a n l) {B : Nat} (hB : w.heap.size ≤ B) (hb : Below B w w') : VL w' a n l := by
  obtain ⟨A, C, h⟩ := h
  exact ⟨A, C, h.keep hB hb⟩

/-- What holds in lists when k vectors were laid. -/
structure Lists (w wr : World) (m : Mx) (l : List Vec) (k : Nat) : Prop where
  mm : wr.heap[w.heap.size]? = some (.cells #[.int .i64 (m).r0.a, .int .i64 (m).r0.b, .int .i64 (m).r0.c, .int .i64 (m).r0.d, .int .i64 (m).r1.a, .int .i64 (m).r1.b, .int .i64 (m).r1.c, .int .i64 (m).r1.d, .int .i64 ((m).n : Int)] 64)
  out : ∃ cs, wr.heap[w.heap.size + 1]? = some (.cells cs 23) ∧ cs.size = l.length ∧ ∃ (A : Nat → Option Addr) (C : Nat → Nat), (∀ j, j < k → cs[j]? = some (.slice (A j) m.n (C j))) ∧ ∀ j, j < k → Own wr (w.heap.size + 1) (A j) m.n (C j) (l.getD j Vec.zero).at'
  below : Below w.heap.size w wr

theorem Lists.keep {w wr w' : World} {m : Mx} {l : List Vec} {k : Nat} (h : Lists w wr m l k) (hb : Below wr.heap.size wr w') : Lists w w' m l k := by
  obtain ⟨cs, h1, h2, A, C, h3, h4⟩ := h.out
  exact ⟨(hb.block _ (Array.getElem?_eq_some_iff.1 h.mm).1).trans h.mm, ⟨cs, (hb.block _ (Array.getElem?_eq_some_iff.1 h1).1).trans h1, h2, A, C, h3, fun j hj => (h4 j hj).keep hb⟩, h.below.trans (hb.mono h.below.size)⟩

theorem Own.setOther {w : World} {base n cap : Nat} {a : Option Addr} {z : Nat → Int} (h : Own w base a n cap z) {b : Nat} {cs : Array Value} (hb : w.heap[b]? = some (.cells cs 23)) (j : Nat) (v : Value) : Own (w.setCell ⟨b, j, none⟩ v) base a n cap z := by
  refine ⟨h.1, ?_⟩
  rcases h.2 with hn | ⟨g, cap', cur, he, hbg, hg, r⟩
  · exact Or.inl hn
  · refine Or.inr ⟨g, cap', cur, he, hbg, ?_, r⟩
    have hne : g ≠ b := fun e => by subst e; rw [hg] at hb; cases hb
    rw [heap_setCell_other _ _ _ _ (by simpa using hne)]
    exact hg

theorem Lists.set {w wr : World} {m : Mx} {l : List Vec} {k : Nat} {x : Vec} (h : Lists w wr m l k) (hx : l[k]? = some x) {a : Option Addr} {c : Nat} (hO : Own wr (w.heap.size + 1) a m.n c x.at') :
    Lists w (wr.setCell ⟨w.heap.size + 1, k, none⟩ (.slice a m.n c)) m l (k + 1) := by
  obtain ⟨cs, h1, h2, A, C, h3, h4⟩ := h.out
  have hk : k < cs.size := by rw [h2]; exact (List.getElem?_eq_some_iff.1 hx).1
  refine ⟨?_, ⟨cs.setIfInBounds k (.slice a m.n c), ?_, by simpa using h2, fun j => if j = k then a else A j, fun j => if j = k then c else C j, fun j hj => ?_, fun j hj => ?_⟩, h.below.setCell (by simp) _⟩
  · rw [heap_setCell_other _ _ _ _ (by simp)]; exact h.mm
  · rw [heap_setCell_same _ _ k _ _ _ h1]
  · by_cases e : j = k
    · subst e; simp [hk]
    · simp only [e, if_false]
      rw [Array.getElem?_setIfInBounds, if_neg (fun h => e h.symm)]
      exact h3 j (by omega)
  · by_cases e : j = k
    · subst e
      simp only [if_true]
      rw [List.getD_eq_getElem?_getD, hx]
      exact hO.setOther h1 _ _
    · simp only [e, if_false]
      exact (h4 j (by omega)).setOther h1 _ _

theorem Lists.done {w wr : World} {m : Mx} {l : List Vec} (hn4 : m.n ≤ 4) (h : Lists w wr m l l.length) : VL wr (some ⟨w.heap.size + 1, 0, none⟩) m.n l := by
  obtain ⟨cs, h1, h2, A, C, h3, h4⟩ := h.out
  refine ⟨A, C, ⟨fun j hj => ⟨_, _, rfl, ?_⟩, fun j hj => ⟨(h4 j hj).cap.1, by omega⟩, fun j hj => (h4 j hj).ints⟩⟩
  rw [block_cell h1, Nat.zero_add]; exact h3 j hj

set_option maxHeartbeats 4000000 in
set_option maxRecDepth 100000 in
theorem lists_any (m : Mx) (a : Option Addr) (cap : Nat) (l : List Vec) (w : World) (hn4 : m.n ≤ 4) (h : VecsAt w a l) (hl : l.length ≤ 20000000) :
    Calls Try.prog 63 #[.agg #[.int .i64 (m).r0.a, .int .i64 (m).r0.b, .int .i64 (m).r0.c, .int .i64 (m).r0.d, .int .i64 (m).r1.a, .int .i64 (m).r1.b, .int .i64 (m).r1.c, .int .i64 (m).r1.d, .int .i64 ((m).n : Int)], .slice a l.length cap] w fun e w' => ∃ a' cap', e = .returned (.slice a' l.length cap') ∧ VL w' a' m.n l ∧ Below w.heap.size w w' := by
  obtain ⟨i0, hi, hz0, hz1, hz2⟩ := info_parts Try.info23
  have hmk : ∀ W : World, (Instr.makeSlice 22 (.int .i64 (l.length : Int)) (.int .i64 (l.length : Int))).run Try.prog W = .ok (.slice (some ⟨W.heap.size, 0, none⟩) l.length l.length) (W.alloc (.cells (madeCells #[.slice none 0 0] l.length) 23)) := by
    intro W
    have := run_make (P := Try.prog) W 22 23 i0 (.slice none 0 0) Try.underlying22 hi hz0 .i64 .i64 (l.length : Int) (l.length : Int) (by omega) (Int.le_refl _) (by rw [hz2]; omega) (by omega)
    rw [hz1] at this
    simp only [Int.toNat_natCast, Nat.mul_one] at this
    exact this
  have HL : Hid (Lists w ((w.alloc (.cells #[.int .i64 (m).r0.a, .int .i64 (m).r0.b, .int .i64 (m).r0.c, .int .i64 (m).r0.d, .int .i64 (m).r1.a, .int .i64 (m).r1.b, .int .i64 (m).r1.c, .int .i64 (m).r1.d, .int .i64 ((m).n : Int)] 64)).alloc (.cells (madeCells #[.slice none 0 0] l.length) 23)) m l 0) :=
    ⟨heap_two1 _ _ _, ⟨_, heap_two2 _ _ _, size_madeCells _ _, fun _ => none, fun _ => 0, fun j hj => absurd hj (Nat.not_lt_zero _), fun j hj => absurd hj (Nat.not_lt_zero _)⟩, below_two _ _ _⟩
  have H := Lib.hid h
  clear h hi hz0 hz1 hz2
  generalize madeCells #[.slice none 0 0] l.length = cs0 at hmk HL
  go_enter Try.func63, Try.ntmps63
  go_wp2
  go_loopw [13] (fun i wr => ∃ k : Nat, k ≤ l.length ∧ i = .int .i64 k ∧ Lists w wr m l k) (fun i _ => l.length - (intOf i).toNat)
  case atStart => exact ⟨0, Nat.zero_le _, rfl, HL.out⟩
  case round =>
    obtain ⟨k, hk, rfl, hL⟩ := hrel
    clear hmk HL
    have HL := Lib.hid hL
    by_cases hlt : k < l.length
    · obtain ⟨wo, hwo⟩ : ∃ wo : World, wo = wr := ⟨_, rfl⟩
      subst hwo
      obtain ⟨x, hx⟩ : ∃ x, l[k]? = some x := ⟨_, List.getElem?_eq_getElem (by omega)⟩
      obtain ⟨bx, rfl, d0, d1, d2, d3⟩ := (H.out.keep (Nat.le_refl _) hL.below) k x hx
      have HX := Lib.hid hx
      have c0 := matS_cells hL.mm
      have hszm : w.heap.size < wo.heap.size := (Array.getElem?_eq_some_iff.1 hL.mm).1
      have Hc := Lib.hid (mlist_any m x (wo.alloc (.cells #[.int .i64 (x).a, .int .i64 (x).b, .int .i64 (x).c, .int .i64 (x).d] 61)) hn4)
      clear hL hx
      go_wp2_with fail
      refine Hc.out.mono ?_
      rintro e w3 ⟨a', cap', rfl, hO, hb3⟩
      have HL3 := Lib.hid (HL.out.keep (((Below.refl _ wo).alloc (Nat.le_refl _) (.cells #[.int .i64 (x).a, .int .i64 (x).b, .int .i64 (x).c, .int .i64 (x).d] 61)).trans (hb3.mono (by simp))))
      have HO : Hid (Own w3 (w.heap.size + 1) a' m.n cap' x.at') := hO.mono (by simp; omega)
      obtain ⟨cs, h1, h2, _⟩ := HL3.out.out
      have hkc : k < cs.size := by omega
      have hc1 : w3.cell? ⟨w.heap.size + 1, k, none⟩ = some cs[k] := by rw [block_cell h1]; simp [hkc]
      have hf1 : w3.frozen? ⟨w.heap.size + 1, k, none⟩ = false := block_free h1 _
      have HLs := Lib.hid (HL3.out.set HX.out HO.out)
      clear hO hb3 Hc c0 d0 d1 d2 d3 h1 h2
      go_wp2
      go_roundw
      case rel => exact ⟨k + 1, by omega, by go_num, HLs.out⟩
      case measure => simp [intOf]; omega
    · have e : k = l.length := by omega
      subst e
      have HV := Lib.hid (hL.done hn4)
      have HB : Hid (Below w.heap.size w wr) := hL.below
      clear hL
      go_wp2
      go_ret
      exact ⟨_, _, rfl, HV.out, HB.out⟩
end Go.Proofs.Ytaglbnblfhfkeaa
