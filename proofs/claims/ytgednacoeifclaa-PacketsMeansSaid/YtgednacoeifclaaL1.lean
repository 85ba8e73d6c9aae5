import Derived.Test.YtgednacoeifclaaR4
namespace Go.Proofs.Ytgednacoeifclaa
open Go.RowKit Go.Shelf

/-- A statement that returns r. -/
def SomeB (r : Bool) (w : World) (e : Ending) (w' : World) : Prop := e = .returned (.bool r) ∧ Below w.heap.size w w'

theorem none_zero (w : World) : Calls Try.prog 22 #[.agg #[.int .i64 0, .int .i64 0]] w fun e w' => e = .returned (.bool true) ∧ Below w.heap.size w w' := by
  go_enter Try.func22, Try.ntmps22
  go_wp2
  go_ret
  exact ⟨rfl, below_one w _⟩

theorem okS_cut {n : Nat} {z : Nat → Int} {s : Int} : okS (min n 8) z s = okS n z s := by
  by_cases h : n ≤ 8
  · rw [show min n 8 = n by omega]
  · rw [okS_no (n := min n 8) (fun h2 => by omega), okS_no (n := n) (fun h2 => by omega)]

theorem frAt {w w' : World} {b : Nat} {x y : Value} {T : TypeId} (h : w.heap[b]? = some (.cells #[x, y] T)) (hb : Below w.heap.size w w') : w'.heap[b]? = some (.cells #[x, y] T) :=
  (hb.block b (Array.getElem?_eq_some_iff.1 h).1).trans h

set_option maxHeartbeats 4000000 in
set_option maxRecDepth 100000 in
theorem done_bad (a : Option Addr) (n cap : Nat) (z : Nat → Int) (s k : Int) (w : World) (h : okS n z s = false ∨ isNumB k = false) (hcap : n ≤ cap) (h8 : n * 8 ≤ 140737488355328) (hz : Ints w a n z) :
    Calls Try.prog 4 #[.slice a n cap, .int .i64 s, .int .i64 k] w fun e w' => SomeB true w e w' := by
  have hl := list_any a cap n z w hcap h8 hz
  have HL := Lib.hid hl
  have HZ := Lib.hid hz
  have H2 : Hid (okS (min n 8) z s = false ∨ isNumB k = false) := by rw [Hid, okS_cut]; exact h
  have H1 := Lib.hid h
  have HRs := Lib.hid (fun W (hW : Below w.heap.size w W) => rset_any a n cap z s W (by omega) (hz.keep (Nat.le_refl _) hW))
  have hm8 : min n 8 ≤ 8 := Nat.min_le_right _ _
  clear hl hz h
  go_enter Try.func4, Try.ntmps4
  go_wp2_with fail
  refine HL.out.mono ?_
  rintro e w1 ⟨a1, c1, rfl, hO1, hb1⟩
  have HD := Lib.hid (fDone_bad a1 (min n 8) c1 z s k w1 H2.out (by omega) hO1.ints)
  have HB1 := Lib.hid hb1
  clear hO1 hb1
  go_wp2_with fail
  refine HD.out.mono ?_
  rintro e w2 ⟨rfl, hb2⟩
  have HB2 := Lib.hid (band HB1.out hb2)
  clear hb2
  have HL2 := Lib.hid (list_any a cap n z (w2.alloc (.cells #[.int .i64 0, .int .i64 0] 24)) hcap h8 (HZ.out.keep (Nat.le_refl _) (HB2.out.alloc HB2.out.size _)))
  go_wp2_with fail
  refine HL2.out.mono ?_
  rintro e w3 ⟨a3, c3, rfl, hO3, hb3⟩
  have HE := Lib.hid (fExact_bad a3 (min n 8) c3 z s k w3 H2.out (by omega) hO3.ints)
  have hq := frAt (heap_alloc_new w2 (.cells #[.int .i64 0, .int .i64 0] 24)) hb3
  have HQ := Lib.hid hq
  have HB3 : Hid (Below w.heap.size w w3) := (HB2.out.alloc HB2.out.size _).trans (hb3.mono (by have := HB2.out.size; simp; omega))
  clear hO3 hb3 hq
  go_wp2_with fail
  refine HE.out.mono ?_
  rintro e w4 ⟨rfl, hb4⟩
  have hq := frAt HQ.out hb4
  have HB4 := Lib.hid (band HB3.out hb4)
  have HRs4 := Lib.hid (HRs.out (w4.alloc (.cells #[.int .i64 0, .int .i64 0] 24)) (HB4.out.alloc HB4.out.size _))
  obtain ⟨W4, hW4⟩ : ∃ W4, W4 = w4.alloc (.cells #[.int .i64 0, .int .i64 0] 24) := ⟨_, rfl⟩
  have hqa := frAt hq (below_one w4 (.cells #[.int .i64 0, .int .i64 0] 24))
  have hqb := heap_alloc_new w4 (.cells #[.int .i64 0, .int .i64 0] 24)
  have HB5 : Hid (Below w.heap.size w W4) := by rw [hW4]; exact HB4.out.alloc HB4.out.size _
  rw [← hW4] at hqa hqb HRs4
  have HWe := Lib.hid hW4
  obtain ⟨q1, q2, _, _⟩ := fr_cells hqa
  obtain ⟨r1, r2, _, _⟩ := fr_cells hqb
  have HQA := Lib.hid hqa
  have HQB := Lib.hid hqb
  clear hb4 hq hqa hqb hW4 HQ
  go_wp2_with fail
  rw [← HWe.out]
  refine HRs4.out.mono ?_
  rintro e w' ⟨rfl, rfl⟩
  cases hs : okS n z s
  · clear hs
    go_wp2_with fail
    refine (none_zero _).mono ?_
    rintro e w5 ⟨rfl, hb5⟩
    obtain ⟨r1, r2, _, _⟩ := fr_cells (frAt HQB.out hb5)
    have HB6 := Lib.hid (band HB5.out hb5)
    clear hb5
    go_wp2_with fail
    refine (none_zero _).mono ?_
    rintro e w6 ⟨rfl, hb6⟩
    have HB7 := Lib.hid (band HB6.out hb6)
    clear hb6
    go_wp2_with fail
    refine (awake_any _).mono ?_
    rintro e w7 ⟨rfl, hb7⟩
    have HB8 := Lib.hid (band HB7.out hb7)
    clear hb7
    go_wp2
    go_ret
    exact ⟨rfl, HB8.out⟩
  · have hk : ¬ (0 ≤ k ∧ k ≤ 8) := by
      have := H1.out
      rw [hs] at this
      rcases this with h | h
      · cases h
      · intro h2; rw [isNumB_iff.2 h2] at h; cases h
    clear hs
    by_cases hk0 : k < 0
    · clear hk
      go_wp2_with fail
      refine (none_zero _).mono ?_
      rintro e w5 ⟨rfl, hb5⟩
      obtain ⟨r1, r2, _, _⟩ := fr_cells (frAt HQB.out hb5)
      have HB6 := Lib.hid (band HB5.out hb5)
      clear hb5
      go_wp2_with fail
      refine (none_zero _).mono ?_
      rintro e w6 ⟨rfl, hb6⟩
      have HB7 := Lib.hid (band HB6.out hb6)
      clear hb6
      go_wp2_with fail
      refine (awake_any _).mono ?_
      rintro e w7 ⟨rfl, hb7⟩
      have HB8 := Lib.hid (band HB7.out hb7)
      clear hb7
      go_wp2
      go_ret
      exact ⟨rfl, HB8.out⟩
    · have hk0' : 0 ≤ k := by omega
      have hk8 : 8 < k := by omega
      have G : decide (8 < k) = true := by simpa using hk8
      clear hk hk0
      go_wp2_with fail
      refine (none_zero _).mono ?_
      rintro e w5 ⟨rfl, hb5⟩
      obtain ⟨r1, r2, _, _⟩ := fr_cells (frAt HQB.out hb5)
      have HB6 := Lib.hid (band HB5.out hb5)
      clear hb5
      go_wp2_with fail
      refine (none_zero _).mono ?_
      rintro e w6 ⟨rfl, hb6⟩
      have HB7 := Lib.hid (band HB6.out hb6)
      clear hb6
      go_wp2_with fail
      refine (awake_any _).mono ?_
      rintro e w7 ⟨rfl, hb7⟩
      have HB8 := Lib.hid (band HB7.out hb7)
      clear hb7
      go_wp2
      go_ret
      exact ⟨rfl, HB8.out⟩

end Go.Proofs.Ytgednacoeifclaa
