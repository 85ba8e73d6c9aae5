import Derived.Test.YtgednacoeifclaaS1
namespace Go.Proofs.Ytgednacoeifclaa
open Go.RowKit Go.Shelf

/-- A part's number, turned where the part has an odd number of kinds. -/
def alC (c : Nat → Int) (x : Nat) : Int := if pop x % 2 = 1 then -(c x) else c x
theorem alC_odd {c : Nat → Int} {x : Nat} (h : pop x % 2 = 1) : alC c x = -(c x) := by simp [alC, h]
theorem alC_even {c : Nat → Int} {x : Nat} (h : ¬ pop x % 2 = 1) : alC c x = c x := by simp [alC, h]
theorem alC_abs (c : Nat → Int) (x : Nat) : (alC c x).natAbs = (c x).natAbs := by unfold alC; split <;> simp
theorem sumA_alC (c : Nat → Int) (xs : List Nat) : sumA (alC c) xs = sumA c xs := by simp [sumA, alC_abs]
theorem partsL_lt {s x : Nat} (h : x ∈ partsL s) : x < 64 := List.mem_range.1 (List.mem_filter.1 h).1
theorem kindsL_lt {s x : Nat} (h : x ∈ kindsL s) : x < 6 := List.mem_range.1 (List.mem_filter.1 h).1
theorem pop_le (x : Nat) : pop x ≤ 6 := Nat.le_trans (List.length_filter_le _ _) (by simp)

set_option maxRecDepth 100000 in
set_option maxHeartbeats 4000000 in
theorem alt1_any (nf : Nat) (nb : Array Value) (c : Nat → Int) (L : Nat) (xs : List Nat) (b : Nat) (w : World) (en : ∀ args w, (callFunc nf args).run Try.prog w = .ok (.enter nf args) w) (hL : 1 ≤ L)
    (hc : w.cell? ⟨b, 0, none⟩ = some (.func (.func nf) #[] nb)) (hnum : Num nf nb c L xs w) (hx64 : ∀ x ∈ xs, x < 64) (hA : sumA c xs ≤ 4611686018427387903) : Num 84 #[.pointer (some ⟨b, 0, none⟩)] (alC c) L xs w := by
  intro x hx W hW
  have c0 : W.cell? ⟨b, 0, none⟩ = some (.func (.func nf) #[] nb) := (hW.cell (p := ⟨b, 0, none⟩) (World.block_lt_of_cell? _ _ hc)).trans hc
  have c1 : (W.alloc (.cells #[.int .i64 0, .int .i64 0] 24)).cell? ⟨b, 0, none⟩ = some (.func (.func nf) #[] nb) := cell_kept c0 (World.grownBy_alloc W _ none) (fun r e => by cases e)
  have hcx : (c x).natAbs ≤ 4611686018427387903 := by
    have : (c x).natAbs ≤ sumA c xs := by
      clear hA hc hnum hx64 c0 hW
      unfold sumA
      induction xs with
      | nil => simp at hx
      | cons y ys ih =>
        simp only [List.map_cons, List.sum_cons]
        rcases List.mem_cons.1 hx with rfl | h
        · omega
        · have := ih h; omega
    omega
  have ha := frA_abs (c x) hL
  have Hcx := Lib.hid (Nat.le_trans ha hcx)
  have HNx := Lib.hid (hnum x hx (W.alloc (.cells #[.int .i64 0, .int .i64 0] 24)) (hW.alloc hW.size _))
  have hx := hx64 x hx
  have hp := pop_le x
  have HOdd := Lib.hid (alC_odd (c := c) (x := x))
  have HEven := Lib.hid (alC_even (c := c) (x := x))
  have hneg := frA_neg (c x) L
  have hnegB := frB_neg (c x) L
  clear hnum hx64 hA hc hW hcx hneg hnegB
  generalize alC c x = Y at *
  show Calls Try.prog 84 #[.int .i64 x, .pointer (some ⟨b, 0, none⟩)] W _
  go_enter Try.func84, Try.ntmps84
  go_wp2_with (go_at_fn nf; refine HNx.out.mono ?_; rintro e w1 ⟨rfl, hb1⟩)
  have HB1 : Hid (Below W.heap.size W w1) := (below_one W _).trans (hb1.mono (by simp))
  have hs1 : W.heap.size + 1 ≤ w1.heap.size := by have := hb1.size; simpa using this
  have hr1 : w1.heap[W.heap.size]? = some (.cells #[.int .i64 0, .int .i64 0] 24) := (hb1.block W.heap.size (by simp)).trans (heap_alloc_new W _)
  have HR1 := Lib.hid hr1
  clear hb1 c0 c1 hr1
  have ha2 : -4611686018427387904 ≤ frA (c x) L ∧ frA (c x) L ≤ 4611686018427387904 := by have := Hcx.out; omega
  obtain ⟨A, hAe⟩ : ∃ A, A = frA (c x) L := ⟨_, rfl⟩
  obtain ⟨B, hBe⟩ : ∃ B, B = frB (c x) L := ⟨_, rfl⟩
  have HAe := Lib.hid hAe
  have HBe := Lib.hid hBe
  rw [← hAe] at ha2
  rw [← hAe, ← hBe]
  clear hAe hBe ha
  have hwr : wrap64 (-A) = -A := IntWalk.wrap64_in _ ⟨by omega, by omega⟩
  refine (ones_any x hx _).mono ?_
  rintro e w' ⟨rfl, rfl⟩
  obtain ⟨w2, hw2⟩ : ∃ w2, w2 = w1.alloc (.cells #[.int .i64 A, .int .i64 (B : Int)] 24) := ⟨_, rfl⟩
  have hb2 := heap_alloc_new w1 (.cells #[.int .i64 A, .int .i64 (B : Int)] 24)
  rw [← hw2] at hb2 ⊢
  have hb3 : w2.heap[W.heap.size]? = some (.cells #[.int .i64 0, .int .i64 0] 24) := by rw [hw2]; exact (Below.heap_alloc _ _ _ (by omega)).trans HR1.out
  have HB2 : Hid (Below W.heap.size W w2) := by rw [hw2]; exact HB1.out.alloc (by omega) _
  obtain ⟨q1, q2, q3, q4⟩ := fr_cells hb2
  obtain ⟨r1, r2, r3, r4⟩ := fr_cells hb3
  have hne : ¬ w1.heap.size = W.heap.size := by omega
  have hne2 : ¬ W.heap.size = w1.heap.size := by omega
  clear hw2 hb2 hb3
  by_cases hodd : pop x % 2 = 1
  · have G : (((pop x : Nat) : Int) % 2 == 1) = true := by simp; omega
    have HY : Hid (frA Y L = -A ∧ frB Y L = B) := by rw [Hid, HOdd.out hodd, frA_neg, frB_neg, HAe.out, HBe.out]; exact ⟨rfl, rfl⟩
    clear hodd
    go_wp2
    exact bodyPost_ret (v := .agg #[.int .i64 (-A), .int .i64 (B : Int)]) (by simp [results, Try.results84, go_sem, r1, r2]) rfl ⟨by rw [HY.out.1, HY.out.2], ((HB2.out.setCell (by simp; omega) _).setCell (by simp) _).setCell (by simp) _⟩
  · have G : (((pop x : Nat) : Int) % 2 == 1) = false := by simp; omega
    have HY : Hid (frA Y L = A ∧ frB Y L = B) := by rw [Hid, HEven.out hodd, HAe.out, HBe.out]; exact ⟨rfl, rfl⟩
    clear hodd
    go_wp2
    exact bodyPost_ret (v := .agg #[.int .i64 A, .int .i64 (B : Int)]) (by simp [results, Try.results84, go_sem, r1, r2]) rfl ⟨by rw [HY.out.1, HY.out.2], (HB2.out.setCell (by simp) _).setCell (by simp) _⟩
end Go.Proofs.Ytgednacoeifclaa
