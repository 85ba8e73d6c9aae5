import Derived.Test.YtgednacoeifclaaL1
namespace Go.Proofs.Ytgednacoeifclaa
open Go.RowKit Go.Shelf

/-- Two blocks with a fraction each. -/
structure TwoAt (W : World) (b d : Nat) (A : Int) (B : Nat) (C : Int) (D : Nat) : Prop where
  h1 : W.heap[b]? = some (.cells #[.int .i64 A, .int .i64 (B : Int)] 24)
  h2 : W.heap[d]? = some (.cells #[.int .i64 C, .int .i64 (D : Int)] 24)
theorem TwoAt.keep {W W' : World} {b d : Nat} {A : Int} {B : Nat} {C : Int} {D : Nat} (h : TwoAt W b d A B C D) (hb : Below W.heap.size W W') : TwoAt W' b d A B C D := ⟨frAt h.h1 hb, frAt h.h2 hb⟩
theorem TwoAt.cells {W : World} {b d : Nat} {A : Int} {B : Nat} {C : Int} {D : Nat} (h : TwoAt W b d A B C D) :
    W.cell? ⟨b, 0, none⟩ = some (.int .i64 A) ∧ W.cell? ⟨b, 1, none⟩ = some (.int .i64 (B : Int)) ∧ W.cell? ⟨d, 0, none⟩ = some (.int .i64 C) ∧ W.cell? ⟨d, 1, none⟩ = some (.int .i64 (D : Int)) :=
  ⟨(fr_cells h.h1).1, (fr_cells h.h1).2.1, (fr_cells h.h2).1, (fr_cells h.h2).2.1⟩

set_option maxHeartbeats 8000000 in
set_option maxRecDepth 100000 in
theorem done_good (a : Option Addr) (n cap : Nat) (z : Nat → Int) (s k : Nat) (w : World) (h : okS n z s = true) (hk : k ≤ 8) (hcap : n ≤ cap) (h8 : n * 8 ≤ 140737488355328) (hz : Ints w a n z) :
    Calls Try.prog 4 #[.slice a n cap, .int .i64 s, .int .i64 k] w fun e w' => SomeB true w e w' := by
  obtain ⟨t, ht, hs2, h1n, hn6, h9⟩ := okS_nat h
  have ht' : s = t := by omega
  subst ht'
  have hmn : min n 8 = n := by omega
  have hl := fun W (hW : Below w.heap.size w W) => list_any a cap n z W hcap h8 (hz.keep (Nat.le_refl _) hW)
  rw [hmn] at hl
  have HL := Lib.hid hl
  have HRs := Lib.hid (fun W (hW : Below w.heap.size w W) => rset_r true a n cap z s W h (by omega) (hz.keep (Nat.le_refl _) hW))
  have HD := Lib.hid (fun a1 c1 W (hI : Ints W a1 n z) => fDone_good a1 n c1 z s k W h hk (by omega) hI)
  have HE := Lib.hid (fun a1 c1 W (hI : Ints W a1 n z) => fExact_good a1 n c1 z s k W h hk (by omega) hI)
  have HRD := Lib.hid (fun W (hW : Below w.heap.size w W) => rdone_any a n cap z s k W hs2 h1n hn6 (hz.keep (Nat.le_refl _) hW) h9 hk)
  have HRE := Lib.hid (fun W (hW : Below w.heap.size w W) => rexact_any a n cap z s k W hs2 h1n hn6 (hz.keep (Nat.le_refl _) hW) h9 hk)
  have hk0 : (0 : Int) ≤ (k : Int) := by omega
  have hk8 : (k : Int) ≤ 8 := by omega
  have G : decide ((8 : Int) < (k : Int)) = false := by simp; omega
  clear hl hz h ht hs2 h9 hmn
  generalize doC z (2 ^ n - 1) s k = X at *
  generalize doC z s s k = Y at *
  generalize (ofS z (2 ^ n - 1)).toNat ^ k = L at *
  go_enter Try.func4, Try.ntmps4
  go_wp2_with fail
  refine (HL.out w (Below.refl _ _)).mono ?_
  rintro e w1 ⟨a1, c1, rfl, hO1, hb1⟩
  have HD1 := Lib.hid (HD.out a1 c1 w1 hO1.ints)
  have HB1 := Lib.hid hb1
  clear hO1 hb1
  go_wp2_with fail
  refine HD1.out.mono ?_
  rintro e w2 ⟨rfl, hb2⟩
  have HB2 := Lib.hid (band HB1.out hb2)
  clear hb2
  obtain ⟨A, hA⟩ : ∃ A, A = frA X L := ⟨_, rfl⟩
  obtain ⟨B, hB⟩ : ∃ B, B = frB X L := ⟨_, rfl⟩
  have HAB : Hid (frA X L = A ∧ frB X L = B) := ⟨hA.symm, hB.symm⟩
  rw [← hA, ← hB]
  clear hA hB
  have HL2 := Lib.hid (HL.out (w2.alloc (.cells #[.int .i64 A, .int .i64 (B : Int)] 24)) (HB2.out.alloc HB2.out.size _))
  go_wp2_with fail
  refine HL2.out.mono ?_
  rintro e w3 ⟨a3, c3, rfl, hO3, hb3⟩
  have HE1 := Lib.hid (HE.out a3 c3 w3 hO3.ints)
  have hq := frAt (heap_alloc_new w2 (.cells #[.int .i64 A, .int .i64 (B : Int)] 24)) hb3
  have HQ := Lib.hid hq
  have HB3 : Hid (Below w.heap.size w w3) := (HB2.out.alloc HB2.out.size _).trans (hb3.mono (by have := HB2.out.size; simp; omega))
  clear hO3 hb3 hq
  go_wp2_with fail
  refine HE1.out.mono ?_
  rintro e w4 ⟨rfl, hb4⟩
  obtain ⟨C, hC⟩ : ∃ C, C = frA Y L := ⟨_, rfl⟩
  obtain ⟨D, hD⟩ : ∃ D, D = frB Y L := ⟨_, rfl⟩
  have HCD : Hid (frA Y L = C ∧ frB Y L = D) := ⟨hC.symm, hD.symm⟩
  rw [← hC, ← hD]
  clear hC hD
  have hq := frAt HQ.out hb4
  have HB4 := Lib.hid (band HB3.out hb4)
  have HRs4 := Lib.hid (HRs.out (w4.alloc (.cells #[.int .i64 C, .int .i64 (D : Int)] 24)) (HB4.out.alloc HB4.out.size _))
  obtain ⟨W4, hW4⟩ : ∃ W4, W4 = w4.alloc (.cells #[.int .i64 C, .int .i64 (D : Int)] 24) := ⟨_, rfl⟩
  have hqa := frAt hq (below_one w4 (.cells #[.int .i64 C, .int .i64 (D : Int)] 24))
  have hqb := heap_alloc_new w4 (.cells #[.int .i64 C, .int .i64 (D : Int)] 24)
  have HB5 : Hid (Below w.heap.size w W4) := by rw [hW4]; exact HB4.out.alloc HB4.out.size _
  rw [← hW4] at hqa hqb HRs4
  have HWe := Lib.hid hW4
  obtain ⟨q1, q2, _, _⟩ := fr_cells hqa
  obtain ⟨r1, r2, _, _⟩ := fr_cells hqb
  have HQA := Lib.hid hqa
  have HQB := Lib.hid hqb
  clear hb4 hq hqa hqb hW4 HQ
  go_wp2_with fail
  rw [← HWe.out]
  refine HRs4.out.mono ?_
  rintro e w' ⟨rfl, rfl⟩
  have HRD1 := Lib.hid (HRD.out W4.drew HB5.out.drew)
  have HT4 : Hid (TwoAt W4 w2.heap.size w4.heap.size A B C D) := ⟨HQA.out, HQB.out⟩
  go_wp2
  go_region_held3 (fun w' => w'.cell? ⟨w2.heap.size, 0, none⟩ = some (.int .i64 A) ∧ w'.cell? ⟨w2.heap.size, 1, none⟩ = some (.int .i64 (B : Int)) ∧ w'.cell? ⟨w4.heap.size, 0, none⟩ = some (.int .i64 C) ∧ w'.cell? ⟨w4.heap.size, 1, none⟩ = some (.int .i64 (D : Int)))
    (first
      | (go_split_ands; exact HT7.out.cells)
      | (go_split_ands; exact HT6.out.cells)
      | (go_split_ands; exact HT5.out.cells)
      | go_keep)
    ((first
      | ((with_reducible refine HRD1.out.mono ?_); rintro e w5 ⟨rfl, hb5⟩; rw [HAB.out.1, HAB.out.2]; have HT5 := Lib.hid (HT4.out.keep (below_drew1 hb5)); have HB6 := Lib.hid (band HB5.out (below_drew1 hb5)); have HRE1 := Lib.hid (HRE.out w5 HB6.out); clear hb5)
      | ((with_reducible refine HRE1.out.mono ?_); rintro e w6 ⟨rfl, hb6⟩; rw [HCD.out.1, HCD.out.2]; have HT6 := Lib.hid (HT5.out.keep hb6); have HB7 := Lib.hid (band HB6.out hb6); clear hb6)
      | ((with_reducible refine (awake_any _).mono ?_); rintro e w7 ⟨rfl, hb7⟩; have HT7 := Lib.hid (HT6.out.keep hb7); have HB8 := Lib.hid (band HB7.out hb7); clear hb7)))
  all_goals
    go_wp2
    go_ret
    exact ⟨rfl, HB8.out⟩

theorem done_core (a : Option Addr) (n cap : Nat) (z : Nat → Int) (s k : Int) (w : World) (hcap : n ≤ cap) (h8 : n * 8 ≤ 140737488355328) (hz : Ints w a n z) :
    Calls Try.prog 4 #[.slice a n cap, .int .i64 s, .int .i64 k] w fun e w' => SomeB true w e w' := by
  by_cases h : okS n z s = true ∧ isNumB k = true
  · have hk := isNumB_iff.1 h.2
    obtain ⟨t, ht, _⟩ := okS_nat h.1
    obtain ⟨j, rfl⟩ : ∃ j : Nat, k = j := ⟨k.toNat, by omega⟩
    subst ht
    exact done_good a n cap z t j w h.1 (by omega) hcap h8 hz
  · refine done_bad a n cap z s k w ?_ hcap h8 hz
    cases h1 : okS n z s
    · exact Or.inl rfl
    · cases h2 : isNumB k
      · exact Or.inr rfl
      · exact absurd ⟨h1, h2⟩ h

theorem done_row (w : World) (a : Option Addr) (n cap : Nat) (z : Nat → Int) (hcap : n ≤ cap) (h8 : n * 8 ≤ 140737488355328) (hz : Ints w a n z) (s : Int) (_ : -9223372036854775808 ≤ s ∧ s ≤ 9223372036854775807) (k : Int) (_ : -9223372036854775808 ≤ k ∧ k ≤ 9223372036854775807) :
    Calls Try.prog 4 #[.slice a n cap, .int .i64 s, .int .i64 k] w fun e w' => SomeB true w e w' := done_core a n cap z s k w hcap h8 hz
end Go.Proofs.Ytgednacoeifclaa
