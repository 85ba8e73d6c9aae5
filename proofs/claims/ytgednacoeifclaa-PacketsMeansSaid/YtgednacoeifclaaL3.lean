import Derived.Test.YtgednacoeifclaaD6
import Derived.Test.YtgednacoeifclaaL2
namespace Go.Proofs.Ytgednacoeifclaa
open Go.RowKit Go.Shelf

theorem isW_cut {n : Nat} {z : Nat → Int} : isW (min n 8) z = isW n z := by
  by_cases h : n ≤ 8
  · rw [show min n 8 = n by omega]
  · rw [isW_no (n := min n 8) (fun h2 => by omega), isW_no (n := n) (fun h2 => by omega)]

set_option maxHeartbeats 4000000 in
set_option maxRecDepth 100000 in
theorem kinds_bad (a : Option Addr) (n cap : Nat) (z : Nat → Int) (k : Int) (w : World) (h : isW n z = false ∨ isNumB k = false) (hcap : n ≤ cap) (h8 : n * 8 ≤ 140737488355328) (hz : Ints w a n z) :
    Calls Try.prog 5 #[.slice a n cap, .int .i64 k] w fun e w' => SomeB true w e w' := by
  have HL := Lib.hid (list_any a cap n z w hcap h8 hz)
  have H2 : Hid (isW (min n 8) z = false ∨ isNumB k = false) := by rw [Hid, isW_cut]; exact h
  have H1 := Lib.hid h
  have HRs := Lib.hid (fun W (hW : Below w.heap.size w W) => rweights_any a n cap z W (by omega) (hz.keep (Nat.le_refl _) hW))
  have hm8 : min n 8 ≤ 8 := Nat.min_le_right _ _
  clear hz h
  go_enter Try.func5, Try.ntmps5
  go_wp2_with fail
  refine HL.out.mono ?_
  rintro e w1 ⟨a1, c1, rfl, hO1, hb1⟩
  have HD := Lib.hid (fKinds_bad a1 (min n 8) c1 z k w1 H2.out (by omega) hO1.ints)
  have HB1 := Lib.hid hb1
  clear hO1 hb1
  go_wp2_with fail
  refine HD.out.mono ?_
  rintro e w4 ⟨rfl, hb4⟩
  have HB4 := Lib.hid (band HB1.out hb4)
  have HRs4 := Lib.hid (HRs.out (w4.alloc (.cells #[.int .i64 0, .int .i64 0] 24)) (HB4.out.alloc HB4.out.size _))
  obtain ⟨W4, hW4⟩ : ∃ W4, W4 = w4.alloc (.cells #[.int .i64 0, .int .i64 0] 24) := ⟨_, rfl⟩
  have hqb := heap_alloc_new w4 (.cells #[.int .i64 0, .int .i64 0] 24)
  have HB5 : Hid (Below w.heap.size w W4) := by rw [hW4]; exact HB4.out.alloc HB4.out.size _
  rw [← hW4] at hqb HRs4
  have HWe := Lib.hid hW4
  obtain ⟨r1, r2, _, _⟩ := fr_cells hqb
  clear hb4 hqb hW4
  go_wp2_with fail
  rw [← HWe.out]
  refine HRs4.out.mono ?_
  rintro e w' ⟨rfl, rfl⟩
  have fin : (isW n z = false) ∨ (isW n z = true ∧ k < 0) ∨ (isW n z = true ∧ 0 ≤ k ∧ 8 < k) := by
    cases hs : isW n z
    · exact Or.inl rfl
    · right
      have := H1.out
      rw [hs] at this
      rcases this with h | h
      · cases h
      · by_cases hk0 : k < 0
        · exact Or.inl ⟨rfl, hk0⟩
        · refine Or.inr ⟨rfl, by omega, ?_⟩
          rcases Int.lt_or_le 8 k with h8 | h8
          · exact h8
          · rw [isNumB_iff.2 ⟨by omega, h8⟩] at h; cases h
  rcases fin with hs | ⟨hs, hk0⟩ | ⟨hs, hk0, hk8⟩
  · rw [hs]
    clear hs
    go_wp2_with fail
    refine (none_zero _).mono ?_
    rintro e w6 ⟨rfl, hb6⟩
    have HB7 := Lib.hid (band HB5.out hb6)
    clear hb6
    go_wp2_with fail
    refine (awake_any _).mono ?_
    rintro e w7 ⟨rfl, hb7⟩
    have HB8 := Lib.hid (band HB7.out hb7)
    clear hb7
    go_wp2
    go_ret
    exact ⟨rfl, HB8.out⟩
  · rw [hs]
    clear hs
    go_wp2_with fail
    refine (none_zero _).mono ?_
    rintro e w6 ⟨rfl, hb6⟩
    have HB7 := Lib.hid (band HB5.out hb6)
    clear hb6
    go_wp2_with fail
    refine (awake_any _).mono ?_
    rintro e w7 ⟨rfl, hb7⟩
    have HB8 := Lib.hid (band HB7.out hb7)
    clear hb7
    go_wp2
    go_ret
    exact ⟨rfl, HB8.out⟩
  · rw [hs]
    have G : decide (8 < k) = true := by simpa using hk8
    clear hs
    go_wp2_with fail
    refine (none_zero _).mono ?_
    rintro e w6 ⟨rfl, hb6⟩
    have HB7 := Lib.hid (band HB5.out hb6)
    clear hb6
    go_wp2_with fail
    refine (awake_any _).mono ?_
    rintro e w7 ⟨rfl, hb7⟩
    have HB8 := Lib.hid (band HB7.out hb7)
    clear hb7
    go_wp2
    go_ret
    exact ⟨rfl, HB8.out⟩

set_option maxHeartbeats 8000000 in
set_option maxRecDepth 100000 in
theorem kinds_good (a : Option Addr) (n cap : Nat) (z : Nat → Int) (k : Nat) (w : World) (h : isW n z = true) (hk : k ≤ 8) (hcap : n ≤ cap) (h8 : n * 8 ≤ 140737488355328) (hz : Ints w a n z) :
    Calls Try.prog 5 #[.slice a n cap, .int .i64 k] w fun e w' => SomeB true w e w' := by
  have hh := isW_iff.1 h
  have hmn : min n 8 = n := by omega
  have hl := list_any a cap n z w hcap h8 hz
  rw [hmn] at hl
  have HL := Lib.hid hl
  have HRs := Lib.hid (fun W (hW : Below w.heap.size w W) => rweights_r true a n cap z W h (by omega) (hz.keep (Nat.le_refl _) hW))
  have HD := Lib.hid (fun a1 c1 W (hI : Ints W a1 n z) => fKinds_good a1 n c1 z k W h hk hI)
  have HRD := Lib.hid (fun W (hW : Below w.heap.size w W) => rkinds_any a n cap z k W hh.1 hh.2.1 (hz.keep (Nat.le_refl _) hW) hh.2.2 hk)
  have hk0 : (0 : Int) ≤ (k : Int) := by omega
  have hk8 : (k : Int) ≤ 8 := by omega
  have G : decide ((8 : Int) < (k : Int)) = false := by simp; omega
  clear hl hz h hh hmn
  generalize knC z n k = X at *
  generalize LK z n k = L at *
  go_enter Try.func5, Try.ntmps5
  go_wp2_with fail
  refine HL.out.mono ?_
  rintro e w1 ⟨a1, c1, rfl, hO1, hb1⟩
  have HD1 := Lib.hid (HD.out a1 c1 w1 hO1.ints)
  have HB1 := Lib.hid hb1
  clear hO1 hb1
  go_wp2_with fail
  refine HD1.out.mono ?_
  rintro e w4 ⟨rfl, hb4⟩
  obtain ⟨A, hA⟩ : ∃ A, A = frA X L := ⟨_, rfl⟩
  obtain ⟨B, hB⟩ : ∃ B, B = frB X L := ⟨_, rfl⟩
  have HAB : Hid (frA X L = A ∧ frB X L = B) := ⟨hA.symm, hB.symm⟩
  rw [← hA, ← hB]
  clear hA hB
  have HB4 := Lib.hid (band HB1.out hb4)
  have HRs4 := Lib.hid (HRs.out (w4.alloc (.cells #[.int .i64 A, .int .i64 (B : Int)] 24)) (HB4.out.alloc HB4.out.size _))
  obtain ⟨W4, hW4⟩ : ∃ W4, W4 = w4.alloc (.cells #[.int .i64 A, .int .i64 (B : Int)] 24) := ⟨_, rfl⟩
  have hqb := heap_alloc_new w4 (.cells #[.int .i64 A, .int .i64 (B : Int)] 24)
  have HB5 : Hid (Below w.heap.size w W4) := by rw [hW4]; exact HB4.out.alloc HB4.out.size _
  rw [← hW4] at hqb HRs4
  have HWe := Lib.hid hW4
  obtain ⟨r1, r2, _, _⟩ := fr_cells hqb
  have HQB := Lib.hid hqb
  clear hb4 hqb hW4
  go_wp2_with fail
  rw [← HWe.out]
  refine HRs4.out.mono ?_
  rintro e w' ⟨rfl, rfl⟩
  have HRD1 := Lib.hid (HRD.out W4.drew HB5.out.drew)
  go_wp2
  go_region_with (first
    | (go_at_call 32; refine HRD1.out.mono ?_; rintro e w5 ⟨rfl, hb5⟩; rw [HAB.out.1, HAB.out.2]; have hb5' := below_drew1 hb5; obtain ⟨s1, s2, _, _⟩ := fr_cells (frAt HQB.out hb5'); have HB6 := Lib.hid (band HB5.out hb5'); clear hb5 hb5')
    | (go_at_call 23; refine (awake_any _).mono ?_; rintro e w7 ⟨rfl, hb7⟩; have HB8 := Lib.hid (band HB6.out hb7); clear hb7))
  all_goals
    go_wp2
    go_ret
    exact ⟨rfl, HB8.out⟩

theorem kinds_row (w : World) (a : Option Addr) (n cap : Nat) (z : Nat → Int) (hcap : n ≤ cap) (h8 : n * 8 ≤ 140737488355328) (hz : Ints w a n z) (k : Int) (_ : -9223372036854775808 ≤ k ∧ k ≤ 9223372036854775807) :
    Calls Try.prog 5 #[.slice a n cap, .int .i64 k] w fun e w' => SomeB true w e w' := by
  by_cases h : isW n z = true ∧ isNumB k = true
  · have hk := isNumB_iff.1 h.2
    obtain ⟨j, rfl⟩ : ∃ j : Nat, k = j := ⟨k.toNat, by omega⟩
    exact kinds_good a n cap z j w h.1 (by omega) hcap h8 hz
  · refine kinds_bad a n cap z k w ?_ hcap h8 hz
    cases h1 : isW n z
    · exact Or.inl rfl
    · cases h2 : isNumB k
      · exact Or.inr rfl
      · exact absurd ⟨h1, h2⟩ h
end Go.Proofs.Ytgednacoeifclaa
