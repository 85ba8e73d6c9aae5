import Derived.Test.YtgednacoeifclaaR5
namespace Go.Proofs.Ytgednacoeifclaa
open Go.RowKit Go.Shelf

/-- Comparing quotients by whole parts, then by the rests upside down. -/
theorem less_whole {A B C D : Nat} (hB : 0 < B) (hD : 0 < D) (h : A / B ≠ C / D) : decide (A * D < C * B) = decide (A / B < C / D) := by
  have e1 := Nat.div_add_mod A B
  have e2 := Nat.div_add_mod C D
  have h1 := Nat.mod_lt A hB
  have h2 := Nat.mod_lt C hD
  generalize A / B = p at *
  generalize C / D = q at *
  generalize A % B = x at *
  generalize C % D = y at *
  rw [decide_eq_decide]
  rcases Nat.lt_or_gt_of_ne h with hlt | hgt
  · refine ⟨fun _ => hlt, fun _ => ?_⟩
    have h3 : A < (p + 1) * B := by rw [← e1, Nat.add_mul, Nat.mul_comm B p]; omega
    have h4 : (p + 1) * B ≤ q * B := Nat.mul_le_mul_right _ hlt
    have h5 : A * D < q * B * D := Nat.mul_lt_mul_of_pos_right (by omega) hD
    have h6 : q * B * D ≤ C * B := by
      rw [← e2, Nat.add_mul]
      have : q * B * D = D * q * B := by grind
      omega
    omega
  · refine ⟨fun h7 => ?_, fun h7 => by omega⟩
    exfalso
    have h3 : C < (q + 1) * D := by rw [← e2, Nat.add_mul, Nat.mul_comm D q]; omega
    have h4 : (q + 1) * D ≤ p * D := Nat.mul_le_mul_right _ hgt
    have h5 : C * B < p * D * B := Nat.mul_lt_mul_of_pos_right (by omega) hB
    have h6 : p * D * B ≤ A * D := by
      rw [← e1, Nat.add_mul]
      have : p * D * B = B * p * D := by grind
      omega
    omega
theorem less_rest {A B C D : Nat} (h : A / B = C / D) : decide (A * D < C * B) = decide (D * (A % B) < B * (C % D)) := by
  have e1 := Nat.div_add_mod A B
  have e2 := Nat.div_add_mod C D
  rw [← h] at e2
  generalize A / B = p at *
  generalize A % B = x at *
  generalize C % D = y at *
  rw [decide_eq_decide, ← e1, ← e2]
  have a1 : (B * p + x) * D = B * p * D + D * x := by grind
  have a2 : (D * p + y) * B = B * p * D + B * y := by grind
  omega

set_option maxHeartbeats 4000000 in
set_option maxRecDepth 100000 in
theorem rless_any (A B C D : Nat) (w : World) (hA : A ≤ 9223372036854775807) (hB : B ≤ 9223372036854775807) (hC : C ≤ 9223372036854775807) (hD : D ≤ 9223372036854775807) (hB0 : 0 < B) (hD0 : 0 < D) :
    Calls Try.prog 45 #[.agg #[.int .i64 A, .int .i64 B], .agg #[.int .i64 C, .int .i64 D]] w fun e w' => e = .returned (.bool (decide (A * D < C * B))) ∧ Below w.heap.size w w' := by
  obtain ⟨r, hr⟩ : ∃ r, r = decide (A * D < C * B) := ⟨_, rfl⟩
  have HR := Lib.hid hr
  rw [← hr]
  clear hr
  obtain ⟨W, hW⟩ : ∃ W, W = (w.alloc (.cells #[.int .i64 A, .int .i64 B] 24)).alloc (.cells #[.int .i64 C, .int .i64 D] 24) := ⟨_, rfl⟩
  have HBW : Hid (Below w.heap.size w W) := by rw [hW]; exact below_two _ _ _
  have H1 : Hid (W.heap[w.heap.size]? = some (.cells #[.int .i64 A, .int .i64 B] 24)) := by rw [hW]; exact heap_two1 w _ _
  have H2 : Hid (W.heap[w.heap.size + 1]? = some (.cells #[.int .i64 C, .int .i64 D] 24)) := by rw [hW]; exact heap_two2 w _ _
  have HW := Lib.hid hW
  clear hW
  go_enter Try.func45, Try.ntmps45
  go_wp2
  rw [← HW.out]
  go_loopg [] (D + B) (fun m wr => ∃ A B C D : Nat, A ≤ 9223372036854775807 ∧ B ≤ 9223372036854775807 ∧ C ≤ 9223372036854775807 ∧ D ≤ 9223372036854775807 ∧ 0 < B ∧ 0 < D ∧ D + B ≤ m ∧ Hid (r = decide (A * D < C * B)) ∧
    wr.heap[w.heap.size]? = some (.cells #[.int .i64 A, .int .i64 B] 24) ∧ wr.heap[w.heap.size + 1]? = some (.cells #[.int .i64 C, .int .i64 D] 24) ∧ Below w.heap.size w wr)
  case atStart => exact ⟨A, B, C, D, hA, hB, hC, hD, hB0, hD0, Nat.le_refl _, HR, H1.out, H2.out, HBW.out⟩
  case round =>
    clear HR H1 H2 hA hB hC hD hB0 hD0 HW
    obtain ⟨A, B, C, D, hA, hB, hC, hD, hB0, hD0, hm, HR, h1, h2, hbl⟩ := hrel
    obtain ⟨q1, q2, q3, q4⟩ := fr_cells h1
    obtain ⟨s1, s2, s3, s4⟩ := fr_cells h2
    have HA1 := Lib.hid h1
    have HA2 := Lib.hid h2
    have HBL := Lib.hid hbl
    have g1 : ¬ B = 0 := by omega
    have g2 : ¬ D = 0 := by omega
    have G1 : ((B : Int) == 0) = false := by simp; omega
    have G2 : ((D : Int) == 0) = false := by simp; omega
    have HW1 := Lib.hid (less_whole (A := A) (C := C) hB0 hD0)
    have HW2 := Lib.hid (less_rest (A := A) (B := B) (C := C) (D := D))
    have t1 : (A : Int).tdiv (B : Int) = ((A / B : Nat) : Int) := by rw [Int.tdiv_eq_ediv_of_nonneg (by omega)]; omega
    have t2 : (C : Int).tdiv (D : Int) = ((C / D : Nat) : Int) := by rw [Int.tdiv_eq_ediv_of_nonneg (by omega)]; omega
    have t3 : (A : Int).tmod (B : Int) = ((A % B : Nat) : Int) := by rw [Int.tmod_eq_emod_of_nonneg (by omega)]; omega
    have t4 : (C : Int).tmod (D : Int) = ((C % D : Nat) : Int) := by rw [Int.tmod_eq_emod_of_nonneg (by omega)]; omega
    have t1' : (A : Int) / (B : Int) = ((A / B : Nat) : Int) := by omega
    have t2' : (C : Int) / (D : Int) = ((C / D : Nat) : Int) := by omega
    have t3' : (A : Int) % (B : Int) = ((A % B : Nat) : Int) := by omega
    have t4' : (C : Int) % (D : Int) = ((C % D : Nat) : Int) := by omega
    have p1 : A / B ≤ A := Nat.div_le_self _ _
    have p2 : C / D ≤ C := Nat.div_le_self _ _
    have x1 := Nat.mod_lt A hB0
    have y1 := Nat.mod_lt C hD0
    generalize A / B = p at *
    generalize C / D = q at *
    generalize A % B = x at *
    generalize C % D = y at *
    have T := Lib.hid (And.intro t1' (And.intro t2' (And.intro t3' t4')))
    have u1 : IntKind.i64.wrap (p : Int) = p := IntWalk.i64_in _ (by omega)
    have u2 : IntKind.i64.wrap (q : Int) = q := IntWalk.i64_in _ (by omega)
    have u3 : IntKind.i64.wrap (x : Int) = x := IntWalk.i64_in _ (by omega)
    have u4 : IntKind.i64.wrap (y : Int) = y := IntWalk.i64_in _ (by omega)
    clear h1 h2 hbl t1' t2' t3' t4'
    go_wp2
    go_quiet (fail)
    go_wp2
    have HB1 : Hid (Below w.heap.size w (wr.drewN nq)) := below_drewN HBL.out _
    have HC1 : Hid ((wr.drewN nq).heap[w.heap.size]? = some (.cells #[.int .i64 A, .int .i64 B] 24)) := HA1.out
    have HC2 : Hid ((wr.drewN nq).heap[w.heap.size + 1]? = some (.cells #[.int .i64 C, .int .i64 D] 24)) := HA2.out
    clear HA1 HA2 HBL q1 q2 q3 q4 s1 s2 s3 s4
    generalize wr.drewN nq = wq at *
    obtain ⟨q1, q2, q3, q4⟩ := fr_cells HC1.out
    obtain ⟨s1, s2, s3, s4⟩ := fr_cells HC2.out
    go_quiet (fail)
    have HB1' : Hid (Below w.heap.size w (wq.drewN nq)) := below_drewN HB1.out _
    have HC1' : Hid ((wq.drewN nq).heap[w.heap.size]? = some (.cells #[.int .i64 A, .int .i64 B] 24)) := HC1.out
    have HC2' : Hid ((wq.drewN nq).heap[w.heap.size + 1]? = some (.cells #[.int .i64 C, .int .i64 D] 24)) := HC2.out
    clear HB1 HC1 HC2 q1 q2 q3 q4 s1 s2 s3 s4
    generalize wq.drewN nq = wz at *
    obtain ⟨q1, q2, q3, q4⟩ := fr_cells HC1'.out
    obtain ⟨s1, s2, s3, s4⟩ := fr_cells HC2'.out
    clear t1 t2 t3 t4 u1 u2 u3 u4 T
    by_cases hpq : p = q
    · have HL := Lib.hid (HR.out.trans (HW2.out hpq))
      have G3 : ((p : Int) != (q : Int)) = false := by simp [hpq]
      clear hpq HW1 HW2
      by_cases hy : y = 0
      · have hr : Hid (r = false) := by
          rw [Hid, HL.out, hy]
          simp
        have G4 : ((y : Int) == 0) = true := by simp [hy]
        clear hy
        go_wp2
        go_ret
        exact ⟨by rw [hr.out]; rfl, HB1'.out⟩
      · have G4 : ((y : Int) == 0) = false := by simp; omega
        by_cases hx : x = 0
        · have hr : Hid (r = true) := by
            rw [Hid, HL.out, hx]
            have : 0 < B * y := Nat.mul_pos hB0 (by omega)
            simp; omega
          have G5 : ((x : Int) == 0) = true := by simp [hx]
          clear hx hy
          go_wp2
          go_ret
          exact ⟨by rw [hr.out]; rfl, HB1'.out⟩
        · have G5 : ((x : Int) == 0) = false := by simp; omega
          have hx0 : 0 < x := by omega
          have hy0 : 0 < y := by omega
          clear hx hy
          go_wp2
          go_roundg (y + x)
          case measure => omega
          case rel =>
            refine ⟨D, y, B, x, hD, by omega, hB, by omega, hy0, hx0, by omega, HL.out, ?_, ?_, ?_⟩
            · exact (Below.heap_setCell _ _ _ _ (by simp)).trans ((Below.heap_setCell _ _ _ _ (by simp)).trans (set_block (set_block HC1'.out _) _))
            · exact set_block (set_block ((Below.heap_setCell _ _ _ _ (by simp)).trans ((Below.heap_setCell _ _ _ _ (by simp)).trans HC2'.out)) _) _
            · exact (((HB1'.out.setCell (by simp) _).setCell (by simp) _).setCell (by simp) _).setCell (by simp) _
    · have HL := Lib.hid (HR.out.trans (HW1.out hpq))
      have G3 : ((p : Int) != (q : Int)) = true := by simp; omega
      clear hpq HW1 HW2
      go_wp2
      go_ret
      exact ⟨by rw [HL.out]; simp, HB1'.out⟩
end Go.Proofs.Ytgednacoeifclaa
