import Derived.Test.YtmbccdjoliegiaaP1
namespace Go.Proofs.Ytmbccdjoliegiaa
open Go.RowKit


theorem eq_arr (a b a' b' : Int) (w : World) : (Op.equalIn 10000 27 (.agg #[.int .i64 a, .int .i64 b]) (.agg #[.int .i64 a', .int .i64 b'])).run Try.prog w = .ok (a == a' && b == b') w := by
  have u3 := Try.underlying3
  have a3 := Try.isAgg3
  have z3 := Try.sizeOf3
  rw [show (10000 : Nat) = 9999 + 1 from rfl, Op.equalIn]
  simp only [Sem.run_bind, run_underlying Try.underlying27, Result.andThen_ok]
  simp only [Std.Legacy.Range.forIn_eq_forIn_range', Std.Legacy.Range.size, Nat.sub_zero, Nat.add_sub_cancel, Nat.div_one, List.range'_succ, List.range'_zero, List.forIn_cons, List.forIn_nil]
  go_simp
  by_cases h1 : a = a' <;> by_cases h2 : b = b' <;> simp [h1, h2]
theorem eql_arr (a b a' b' : Int) (w : World) : (binOp .eql 27 (.agg #[.int .i64 a, .int .i64 b]) (.agg #[.int .i64 a', .int .i64 b'])).run Try.prog w = .ok (.bool (a == a' && b == b')) w := by
  have h := eq_arr a b a' b'
  simp only [binOp]
  simp only [Op.equal, Op.maxDepth, Sem.run_bind, h, Result.andThen_ok, Sem.run_pure]

theorem isP_min (n : Nat) (z : Nat → Int) : isP (min n 11) z = isP n z := by
  by_cases h : n ≤ 11
  · rw [Nat.min_eq_left h]
  · have e1 : isP (min n 11) z = false := by
      cases e : isP (min n 11) z
      · rfl
      · have := isP_iff.1 e; omega
    have e2 : isP n z = false := by
      cases e : isP n z
      · rfl
      · have := isP_iff.1 e; omega
    rw [e1, e2]

set_option maxHeartbeats 4000000 in
set_option maxRecDepth 100000 in
theorem foldsPossible_core (W : World) (a : Option Addr) (n cap : Nat) (z : Nat → Int) (hn : n ≤ cap) (h8 : n * 8 ≤ 140737488355328) (hI : Ints W a n z) :
    Calls Try.prog 3 #[.slice a n cap] W fun e W' => e = .returned (.bool true) ∧ Below W.heap.size W W' := by
  have HI := Lib.hid hI
  have Hl1 := Lib.hid (list_any a cap n z W hn h8 hI)
  clear hI
  cases hP : isP n z
  · have HP : Hid (isP (min n 11) z = false) := by rw [Hid, isP_min]; exact hP
    have HP' := Lib.hid hP
    clear hP
    go_enter Try.func3, Try.ntmps3
    go_wp2_with fail
    refine Hl1.out.mono ?_
    rintro e w1 ⟨a1, c1, rfl, hO1, hb1⟩
    have HB1 := Lib.hid hb1
    have Hq := Lib.hid (possible_bad a1 c1 _ z w1 HP.out (by omega) hO1.ints)
    clear hO1 hb1
    go_wp2_with fail
    refine Hq.out.mono ?_
    rintro e w2 ⟨rfl, hb2⟩
    have HB2 : Hid (Below W.heap.size W w2) := HB1.out.trans (hb2.mono HB1.out.size)
    have Hl2 := Lib.hid (list_any a cap n z w2 hn h8 (HI.out.keep (Nat.le_refl _) HB2.out))
    clear hb2 HB1 Hq
    go_wp2_with fail
    refine Hl2.out.mono ?_
    rintro e w3 ⟨a3, c3, rfl, hO3, hb3⟩
    have HB3 : Hid (Below W.heap.size W w3) := HB2.out.trans (hb3.mono HB2.out.size)
    have Hq3 := Lib.hid (cross_bad a3 c3 _ z w3 HP.out (by omega) hO3.ints)
    clear hO3 hb3 HB2 Hl2
    go_wp2_with fail
    refine Hq3.out.mono ?_
    rintro e w4 ⟨rfl, hb4⟩
    have HB4 : Hid (Below W.heap.size W w4) := HB3.out.trans (hb4.mono HB3.out.size)
    have HB5 : Hid (Below W.heap.size W (w4.alloc (.cells #[.int .i64 0, .int .i64 0] 27))) := HB4.out.alloc HB4.out.size _
    have Hs := Lib.hid (stripL_r false a cap n z _ HP'.out (by omega) (HI.out.keep (Nat.le_refl _) HB5.out))
    have he := eql_arr 0 0 0 0
    clear hb4 HB3 Hq3
    go_wp2_with fail
    refine Hs.out.mono ?_
    rintro e w5 ⟨rfl, rfl⟩
    go_wp2_with fail
    refine (awake_any _).mono ?_
    rintro e w6 ⟨rfl, hb6⟩
    have HB6 : Hid (Below W.heap.size W w6) := HB5.out.trans (hb6.mono HB5.out.size)
    clear hb6
    go_wp2
    go_ret
    exact ⟨rfl, HB6.out⟩
  · have hp := isP_iff.1 hP
    have hmin : min n 11 = n := by omega
    have h7 := hp.2.1
    have h1 := hp.1
    have HP := Lib.hid hP
    rw [hmin] at Hl1
    clear hP hp
    go_enter Try.func3, Try.ntmps3
    go_wp2_with fail
    refine Hl1.out.mono ?_
    rintro e w1 ⟨a1, c1, rfl, hO1, hb1⟩
    have HB1 := Lib.hid hb1
    have Hq := Lib.hid (possible_good a1 c1 _ z w1 HP.out hO1.ints)
    clear hO1 hb1
    go_wp2_with fail
    refine Hq.out.mono ?_
    rintro e w2 ⟨rfl, hb2⟩
    have HB2 : Hid (Below W.heap.size W w2) := HB1.out.trans (hb2.mono HB1.out.size)
    have hl2 := list_any a cap n z w2 hn h8 (HI.out.keep (Nat.le_refl _) HB2.out)
    rw [hmin] at hl2
    have Hl2 := Lib.hid hl2
    have Hm := Lib.hid hmin
    clear hb2 HB1 Hq hl2 hmin
    go_wp2_with fail
    refine Hl2.out.mono ?_
    rintro e w3 ⟨a3, c3, rfl, hO3, hb3⟩
    have HB3 : Hid (Below W.heap.size W w3) := HB2.out.trans (hb3.mono HB2.out.size)
    have Hq3 := Lib.hid (cross_good a3 c3 _ z w3 HP.out hO3.ints)
    clear hO3 hb3 HB2 Hl2
    go_wp2_with fail
    refine Hq3.out.mono ?_
    rintro e w4 ⟨p, q, r, e0, rfl, hf4, he0, hb4⟩
    have HE0 := Lib.hid he0
    clear he0
    have HB4 : Hid (Below W.heap.size W w4) := HB3.out.trans (hb4.mono HB3.out.size)
    have HF4 := Lib.hid hf4
    have HB5 : Hid (Below W.heap.size W (w4.alloc (.cells #[.int .i64 p, .int .i64 q] 27))) := HB4.out.alloc HB4.out.size _
    have Hs := Lib.hid (stripL_r true a cap n z _ HP.out (by omega) (HI.out.keep (Nat.le_refl _) HB5.out))
    have HRC := Lib.hid (rcross2_any a cap n z _ HP.out (HI.out.keep (Nat.le_refl _) HB5.out))
    clear hb4 HB3 Hq3 hf4
    go_wp2_with fail
    refine Hs.out.mono ?_
    rintro e w5 ⟨rfl, rfl⟩
    go_wp2_with fail
    refine HRC.out.mono ?_
    rintro e w6 ⟨p', q', r', e1, rfl, hf6, he1, hb6⟩
    obtain ⟨ep, eq, er⟩ := FindX.unique HF4.out hf6
    subst ep eq er
    have ee : e0 = e1 := HE0.out.trans he1.symm
    subst ee
    clear he1
    have hlt : w4.heap.size < w6.heap.size := by have := hb6.size; simp at this; omega
    have hblk : w6.heap[w4.heap.size]? = some (.cells #[.int .i64 p, .int .i64 q] 27) := (hb6.block _ (by simp)).trans (heap_alloc_new _ _)
    have HK := Lib.hid hblk
    have HB6 : Hid (Below W.heap.size W w6) := HB5.out.trans (hb6.mono HB5.out.size)
    have HB7 : Hid (Below W.heap.size W (w6.alloc (.cells #[.int .i64 p, .int .i64 q] 27))) := HB6.out.alloc HB6.out.size _
    have HRP := Lib.hid (rpossible_any a cap n z _ HP.out (HI.out.keep (Nat.le_refl _) HB7.out))
    have Hpo : Hid (poss n z = !r) := FindP.poss hf6
    clear hf6 hb6 hblk HRC Hs
    go_wp2_with fail
    refine HRP.out.mono ?_
    rintro e w7 ⟨rfl, hb7⟩
    have hk1 : w7.heap[w4.heap.size]? = some (.cells #[.int .i64 p, .int .i64 q] 27) := (hb7.block _ (by simp; omega)).trans ((Below.heap_alloc _ _ _ hlt).trans HK.out)
    have hk2 : w7.heap[w6.heap.size]? = some (.cells #[.int .i64 p, .int .i64 q] 27) := (hb7.block _ (by simp)).trans (heap_alloc_new _ _)
    have x0 := block_cell hk1 0
    have x1 := block_cell hk1 1
    have y0 := block_cell hk2 0
    have y1 := block_cell hk2 1
    simp at x0 x1 y0 y1
    have he := eql_arr p q p q
    simp at he
    have HB8 : Hid (Below W.heap.size W w7) := HB7.out.trans (hb7.mono HB7.out.size)
    clear hb7 hk1 hk2
    have hbb : ∀ b : Bool, (b == b) = true := fun b => by simp
    have hii : (e0 == e0) = true := by simp
    go_wp2_with fail
    refine (awake_any _).mono ?_
    rintro e w8 ⟨rfl, hb8⟩
    have HB9 : Hid (Below W.heap.size W w8) := HB8.out.trans (hb8.mono HB8.out.size)
    clear hb8
    go_wp2
    go_ret
    exact ⟨rfl, HB9.out⟩

end Go.Proofs.Ytmbccdjoliegiaa
