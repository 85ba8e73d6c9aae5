import Derived.Test.YtgednacoeifclaaN2
namespace Go.Proofs.Ytgednacoeifclaa
open Go.RowKit Go.Shelf

/-- A sum that is told, and that it could be told. -/
def AddOut (X : Int) (L : Nat) (w : World) (e : Ending) (w' : World) : Prop := e = .returned (.tuple #[.agg #[.int .i64 (frA X L), .int .i64 (frB X L : Nat)], .bool true]) ∧ Below w.heap.size w w'

theorem lit_tdiv (H D : Nat) : (H : Int).tdiv (D : Int) = ((H / D : Nat) : Int) := by rw [Int.tdiv_eq_ediv_of_nonneg (by omega)]; exact (Int.natCast_ediv H D).symm
theorem lit_div (H D : Nat) : (H : Int) / (D : Int) = ((H / D : Nat) : Int) := (Int.natCast_ediv H D).symm
/-- Three boxes of 'added' in a later world. -/
structure AdAt (w W : World) (A B : Int) (C D : Nat) : Prop where
  h1 : W.heap[w.heap.size]? = some (.cells #[.int .i64 A, .int .i64 (C : Int)] 24)
  h2 : W.heap[w.heap.size + 1]? = some (.cells #[.int .i64 B, .int .i64 (D : Int)] 24)
  h3 : W.heap[w.heap.size + 1 + 1]? = some (.cells #[.int .i64 0, .int .i64 0] 24)
  hb : Below w.heap.size w W
  hs : W.heap.size = w.heap.size + 3
theorem AdAt.drewN {w W : World} {A B : Int} {C D : Nat} (h : AdAt w W A B C D) (q : Nat) : AdAt w (W.drewN q) A B C D := ⟨h.h1, h.h2, h.h3, below_drewN h.hb q, h.hs⟩
theorem AdAt.cells {w W : World} {A B : Int} {C D : Nat} (h : AdAt w W A B C D) :
    W.cell? ⟨w.heap.size, 0, none⟩ = some (.int .i64 A) ∧ W.cell? ⟨w.heap.size, 1, none⟩ = some (.int .i64 (C : Int)) ∧ W.cell? ⟨w.heap.size + 1, 0, none⟩ = some (.int .i64 B) ∧ W.cell? ⟨w.heap.size + 1, 1, none⟩ = some (.int .i64 (D : Int)) :=
  ⟨(fr_cells h.h1).1, (fr_cells h.h1).2.1, (fr_cells h.h2).1, (fr_cells h.h2).2.1⟩

set_option maxHeartbeats 8000000 in
set_option maxRecDepth 100000 in
theorem added_any (X Y : Int) (L : Nat) (w : World) (hL : 1 ≤ L) (hM : L ≤ 1152921504606846976) (hX : 0 ≤ X ∧ X ≤ 4611686018427387903) (hY : 0 ≤ Y ∧ Y ≤ 4611686018427387903) :
    Calls Try.prog 46 #[.agg #[.int .i64 (frA X L), .int .i64 (frB X L : Nat)], .agg #[.int .i64 (frA Y L), .int .i64 (frB Y L : Nat)], .bool false] w fun e w' => AddOut (X + Y) L w e w' := by
  have HPl := Lib.hid (fun W => rplus_any X Y L W hL (by omega) (by omega) (by omega))
  obtain ⟨d, hd⟩ : ∃ d, d = Nat.gcd (frB X L) (frB Y L) := ⟨_, rfl⟩
  obtain ⟨K, hK, e1, e2, e3⟩ := fr_plus X Y hL hd
  have a1 := (frA_sign (a := X) hL).1.2 hX.1
  have a2 := (frA_sign (a := Y) hL).1.2 hY.1
  have a3 := frA_abs X hL
  have a4 := frA_abs Y hL
  have b1 := frB_le X L
  have b2 := frB_le Y L
  have p1 := frB_pos X hL
  have p2 := frB_pos Y hL
  generalize frA X L = A at *
  generalize frA Y L = B at *
  generalize frB X L = C at *
  generalize frB Y L = D at *
  have dpos : 0 < d := by rw [hd]; exact Nat.gcd_pos_of_pos_left _ p1
  have hdC : d ∣ C := by rw [hd]; exact Nat.gcd_dvd_left _ _
  have hdD : d ∣ D := by rw [hd]; exact Nat.gcd_dvd_right _ _
  have HG : Hid (Nat.gcd C D = d) := hd.symm
  clear hd
  obtain ⟨Z, hZ⟩ : ∃ Z : Nat, Z = C / d * D := ⟨_, rfl⟩
  have hZC : Z / C = D / d := by
    rw [hZ]
    obtain ⟨x, rfl⟩ := hdC
    obtain ⟨y, rfl⟩ := hdD
    rw [Nat.mul_div_cancel_left _ dpos, Nat.mul_div_cancel_left _ dpos, show x * (d * y) = (d * x) * y by rw [Nat.mul_left_comm, Nat.mul_assoc]]
    exact Nat.mul_div_cancel_left _ p1
  have hZD : Z / D = C / d := by rw [hZ]; exact Nat.mul_div_cancel _ p2
  have hc0 : 0 < C / d := Nat.div_pos (Nat.le_of_dvd p1 hdC) dpos
  have he0 : 0 < D / d := Nat.div_pos (Nat.le_of_dvd p2 hdD) dpos
  rw [← hZ] at e1
  have z1 : Z ≤ L := by rw [← e1]; exact Nat.le_mul_of_pos_right _ hK
  have z0 : 1 ≤ Z := by
    rcases Nat.eq_zero_or_pos Z with h | h
    · rw [h] at e1; omega
    · exact h
  have t1 : C / d ≤ 1152921504606846976 / D := (Nat.le_div_iff_mul_le p2).2 (by omega)
  have x1 : A * ((D / d : Nat) : Int) ≤ X := by
    have h0 : 0 ≤ A * ((D / d : Nat) : Int) := Int.mul_nonneg a1 (by omega)
    have h2 : A * ((D / d : Nat) : Int) * 1 ≤ A * ((D / d : Nat) : Int) * K := Int.mul_le_mul_of_nonneg_left (by omega) h0
    omega
  have y1 : B * ((C / d : Nat) : Int) ≤ Y := by
    have h0 : 0 ≤ B * ((C / d : Nat) : Int) := Int.mul_nonneg a2 (by omega)
    have h2 : B * ((C / d : Nat) : Int) * 1 ≤ B * ((C / d : Nat) : Int) * K := Int.mul_le_mul_of_nonneg_left (by omega) h0
    omega
  have hq1 : C / d ≤ C := Nat.div_le_self _ _
  have hq2 : D / d ≤ D := Nat.div_le_self _ _
  have c1 : (C : Int).tdiv (d : Int) = ((C / d : Nat) : Int) := by rw [Int.tdiv_eq_ediv_of_nonneg (by omega)]; omega
  have c1' : (C : Int) / (d : Int) = ((C / d : Nat) : Int) := by omega
  have g1 : (1152921504606846976 : Int).tdiv (D : Int) = ((1152921504606846976 / D : Nat) : Int) := lit_tdiv 1152921504606846976 D
  have g1' : (1152921504606846976 : Int) / (D : Int) = ((1152921504606846976 / D : Nat) : Int) := lit_div 1152921504606846976 D
  have zc : (Z : Int).tdiv (C : Int) = ((D / d : Nat) : Int) := by rw [Int.tdiv_eq_ediv_of_nonneg (by omega), ← hZC]; omega
  have zc' : (Z : Int) / (C : Int) = ((D / d : Nat) : Int) := by rw [← hZC]; omega
  have zd : (Z : Int).tdiv (D : Int) = ((C / d : Nat) : Int) := by rw [Int.tdiv_eq_ediv_of_nonneg (by omega), ← hZD]; omega
  have zd' : (Z : Int) / (D : Int) = ((C / d : Nat) : Int) := by rw [← hZD]; omega
  have t0 : 1152921504606846976 / D ≤ 1152921504606846976 := Nat.div_le_self _ _
  clear hZC hZD hdC hdD
  generalize C / d = c at *
  generalize D / d = e at *
  generalize 1152921504606846976 / D = q at *
  have r1 : A ≤ (9223372036854775807 : Int) / (e : Int) := (Int.le_ediv_iff_mul_le (by omega)).2 (by omega)
  have r2 : B ≤ (9223372036854775807 : Int) / (c : Int) := (Int.le_ediv_iff_mul_le (by omega)).2 (by omega)
  have r3 : (9223372036854775807 : Int) / (e : Int) ≤ 9223372036854775807 := Int.ediv_le_self _ (by omega)
  have r4 : (9223372036854775807 : Int) / (c : Int) ≤ 9223372036854775807 := Int.ediv_le_self _ (by omega)
  have s1 : (9223372036854775807 : Int).tdiv (e : Int) = (9223372036854775807 : Int) / (e : Int) := Int.tdiv_eq_ediv_of_nonneg (by omega)
  have s2 : (9223372036854775807 : Int).tdiv (c : Int) = (9223372036854775807 : Int) / (c : Int) := Int.tdiv_eq_ediv_of_nonneg (by omega)
  generalize (9223372036854775807 : Int) / (e : Int) = E at *
  generalize (9223372036854775807 : Int) / (c : Int) = F at *
  have G2 : ((d : Int) == 0) = false := by simp; omega
  have GC : ((C : Int) == 0) = false := by simp; omega
  have GD : ((D : Int) == 0) = false := by simp; omega
  have Gc : ((c : Int) == 0) = false := by simp; omega
  have Ge : ((e : Int) == 0) = false := by simp; omega
  have nd : ¬ d = 0 := by omega
  have nC : ¬ C = 0 := by omega
  have nD : ¬ D = 0 := by omega
  have nc : ¬ c = 0 := by omega
  have ne : ¬ e = 0 := by omega
  have vc : IntKind.i64.wrap (c : Int) = c := IntWalk.i64_in _ (by omega)
  have ve : IntKind.i64.wrap (e : Int) = e := IntWalk.i64_in _ (by omega)
  have vq : IntKind.i64.wrap (q : Int) = q := IntWalk.i64_in _ (by omega)
  have vz : IntKind.i64.wrap ((c : Int) * (D : Int)) = Z := by rw [hZ, ← Int.natCast_mul]; exact IntWalk.i64_in _ (by have := hZ; omega)
  have vE : IntKind.i64.wrap E = E := IntWalk.i64_in _ (by omega)
  have vF : IntKind.i64.wrap F = F := IntWalk.i64_in _ (by omega)
  have R := Lib.hid (And.intro c1 (And.intro g1 (And.intro zc (And.intro zd (And.intro vc (And.intro ve (And.intro vq (And.intro vz (And.intro vE (And.intro vF (And.intro s1 s2)))))))))))
  have R' := Lib.hid (And.intro c1' (And.intro g1' (And.intro zc' zd')))
  have hC9 : C ≤ 9223372036854775807 := by omega
  have hD9 : D ≤ 9223372036854775807 := by omega
  clear c1 g1 zc zd vc ve vq vz vE vF s1 s2 c1' g1' zc' zd' hZ e1 e2 e3 x1 y1 hX hY a3 a4
  obtain ⟨W, hW⟩ : ∃ W, W = ((w.alloc (.cells #[.int .i64 A, .int .i64 (C : Int)] 24)).alloc (.cells #[.int .i64 B, .int .i64 (D : Int)] 24)).alloc (.cells #[.int .i64 0, .int .i64 0] 24) := ⟨_, rfl⟩
  have HAd : Hid (AdAt w W A B C D) := ⟨by rw [hW]; exact heap_three0 w _ _ _, by rw [hW]; exact heap_three1 w _ _ _, by rw [hW]; exact heap_three w _ _ _, by rw [hW]; exact (((Below.refl _ _).alloc (Nat.le_refl _) _).alloc (by simp) _).alloc (by simp; omega) _, by rw [hW]; simp⟩
  have HW := Lib.hid hW
  clear hW
  go_enter Try.func46, Try.ntmps46
  go_wp2
  rw [← HW.out]
  obtain ⟨q1, q2, q3, q4⟩ := HAd.out.cells
  go_quiet (fail)
  have HAd1 := Lib.hid (HAd.out.drewN nq)
  clear HAd HW q1 q2 q3 q4
  generalize W.drewN nq = W1 at *
  go_wp2
  go_loopw [8, 9] (fun x y wr => ∃ p q : Nat, p ≤ 9223372036854775807 ∧ q ≤ 9223372036854775807 ∧ x = .int .i64 p ∧ y = .int .i64 q ∧ Hid (Nat.gcd p q = d) ∧ AdAt w wr A B C D) (fun _ y _ => (intOf y).toNat)
  case atStart => exact ⟨C, D, hC9, hD9, rfl, rfl, HG, HAd1.out⟩
  case round =>
    obtain ⟨p, y, hp, hy, rfl, rfl, hg, hAd⟩ := hrel
    have HAd2 := Lib.hid hAd
    clear hAd
    by_cases h0 : y = 0
    · subst h0
      have hg0 : Hid (p = d) := by have := hg.out; rw [Nat.gcd_zero_right] at this; exact this
      have G : (((0 : Nat) : Int) != 0) = false := rfl
      rw [hg0.out]
      obtain ⟨q1, q2, q3, q4⟩ := HAd2.out.cells
      obtain ⟨c1, g1, zc, zd, vc, ve, vq, vz, vE, vF, s1, s2⟩ := R.out
      have u1 : decide (c ≤ q) = true := by simp; omega
      have u1' : decide ((q : Int) < (c : Int)) = false := by simp; omega
      have u1'' : decide (q < c) = false := by simp; omega
      go_wp2
      go_quiet (fail)
      have HAd3 := Lib.hid (HAd2.out.drewN nq)
      clear HAd2 q1 q2 q3 q4
      generalize wr.drewN nq = wa at *
      obtain ⟨q1, q2, q3, q4⟩ := HAd3.out.cells
      go_wp2
      go_quiet (fail)
      have HAd4 := Lib.hid (HAd3.out.drewN nq)
      clear HAd3 q1 q2 q3 q4
      generalize wa.drewN nq = wb at *
      obtain ⟨q1, q2, q3, q4⟩ := HAd4.out.cells
      have o1 : decide (E < A) = false := by simp; omega
      have o2 : decide (F < B) = false := by simp; omega
      go_wp2
      go_quiet (fail)
      have HAd5 := Lib.hid (HAd4.out.drewN nq)
      clear HAd4 q1 q2 q3 q4
      generalize wb.drewN nq = wc at *
      obtain ⟨q1, q2, q3, q4⟩ := HAd5.out.cells
      clear c1 g1 zc zd vc ve vq vz vE vF s1 s2 o1 o2
      go_wp2_with fail
      refine (HPl.out wc).mono ?_
      rintro e' w4 ⟨rfl, hb4⟩
      obtain ⟨s1, s2, s3, s4⟩ := fr_cells ((hb4.block (w.heap.size + 1 + 1) (by have := HAd5.out.hs; omega)).trans HAd5.out.h3)
      have HB4 : Hid (Below w.heap.size w w4) := HAd5.out.hb.trans (hb4.mono (by have := HAd5.out.hs; omega))
      clear hb4
      go_wp2
      exact bodyPost_ret (v := .tuple #[.agg #[.int .i64 (frA (X + Y) L), .int .i64 (frB (X + Y) L : Nat)], .bool true]) (by simp [results, Try.results46, go_sem, s1, s2]) rfl ⟨rfl, (HB4.out.setCell (by simp; omega) _).setCell (by simp; omega) _⟩
    · have G : ((y : Int) != 0) = true := by simp; omega
      have G3 : ((y : Int) == 0) = false := by simp; omega
      have hlt := Nat.mod_lt p (Nat.pos_of_ne_zero h0)
      have ht : ((p : Int).tmod (y : Int)) = ((p % y : Nat) : Int) := by rw [Int.tmod_eq_emod_of_nonneg (by omega)]; omega
      have hs : Hid (Nat.gcd y (p % y) = d) := (gcd_step p y).trans hg.out
      have HT := Lib.hid ht
      have HLt := Lib.hid hlt
      clear ht hlt
      go_wp2
      go_quiet (fail)
      have HAd3 := Lib.hid (HAd2.out.drewN nq)
      go_wp2
      go_roundw
      case rel => exact ⟨y, p % y, hy, by have := HLt.out; omega, rfl, by first | rfl | (rw [HT.out]) | go_num, hs, HAd3.out⟩
      case measure => simp [intOf]; have := HLt.out; omega
end Go.Proofs.Ytgednacoeifclaa
