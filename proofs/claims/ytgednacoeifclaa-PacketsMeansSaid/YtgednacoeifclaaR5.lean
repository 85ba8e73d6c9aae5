import Derived.Test.YtgednacoeifclaaR4
namespace Go.Proofs.Ytgednacoeifclaa
open Go.RowKit Go.Shelf

theorem rwhole_any (x : Int) (w : World) : Calls Try.prog 53 #[.int .i64 x] w fun e w' => QOut x 1 w e w' := by
  have h := fr_one x
  have H := Lib.hid h
  clear h
  go_enter Try.func53, Try.ntmps53
  go_wp2
  exact bodyPost_ret (v := .agg #[.int .i64 x, .int .i64 1]) (by simp [results, Try.results53, go_sem]) rfl ⟨by rw [H.out.1, H.out.2]; rfl, below_one w _⟩

set_option maxHeartbeats 4000000 in
set_option maxRecDepth 100000 in
theorem rplus_any (a b : Int) (L : Nat) (w : World) (hL : 1 ≤ L) (hM : L ≤ 4611686018427387903) (ha : a.natAbs ≤ 4611686018427387903) (hb : b.natAbs ≤ 4611686018427387903) :
    Calls Try.prog 55 #[.agg #[.int .i64 (frA a L), .int .i64 (frB a L : Nat)], .agg #[.int .i64 (frA b L), .int .i64 (frB b L : Nat)]] w fun e w' => QOut (a + b) L w e w' := by
  obtain ⟨d, hd⟩ : ∃ d, d = Nat.gcd (frB a L) (frB b L) := ⟨_, rfl⟩
  obtain ⟨K, hK, e1, e2, e3⟩ := fr_plus a b hL hd
  have a1 := frA_abs a hL
  have a2 := frA_abs b hL
  have b1 := frB_le a L
  have b2 := frB_le b L
  have p1 := frB_pos a hL
  have p2 := frB_pos b hL
  generalize frA a L = A at *
  generalize frA b L = B at *
  generalize frB a L = C at *
  generalize frB b L = D at *
  have dpos : 0 < d := by rw [hd]; exact Nat.gcd_pos_of_pos_left _ p1
  have hdC : d ∣ C := by rw [hd]; exact Nat.gcd_dvd_left _ _
  have hdD : d ∣ D := by rw [hd]; exact Nat.gcd_dvd_right _ _
  have HG : Hid (Nat.gcd C D = d) := hd.symm
  clear hd
  obtain ⟨X, hX⟩ : ∃ X : Int, X = A * ((D / d : Nat) : Int) := ⟨_, rfl⟩
  obtain ⟨Y, hY⟩ : ∃ Y : Int, Y = B * ((C / d : Nat) : Int) := ⟨_, rfl⟩
  obtain ⟨Z, hZ⟩ : ∃ Z : Nat, Z = C / d * D := ⟨_, rfl⟩
  have hZC : Z / C = D / d := by
    rw [hZ]
    obtain ⟨x, rfl⟩ := hdC
    obtain ⟨y, rfl⟩ := hdD
    have hx : 0 < x := by rcases Nat.eq_zero_or_pos x with h | h; (subst h; omega); exact h
    rw [Nat.mul_div_cancel_left _ dpos, Nat.mul_div_cancel_left _ dpos, show x * (d * y) = (d * x) * y by rw [Nat.mul_left_comm, Nat.mul_assoc]]
    exact Nat.mul_div_cancel_left _ p1
  have hZD : Z / D = C / d := by rw [hZ]; exact Nat.mul_div_cancel _ p2
  rw [← hX] at e2
  rw [← hY] at e3
  rw [← hZ] at e1
  have x1 : X.natAbs ≤ a.natAbs := by
    rw [← e2, Int.natAbs_mul, Int.natAbs_natCast]; exact Nat.le_mul_of_pos_right _ hK
  have y1 : Y.natAbs ≤ b.natAbs := by
    rw [← e3, Int.natAbs_mul, Int.natAbs_natCast]; exact Nat.le_mul_of_pos_right _ hK
  have z1 : Z ≤ L := by rw [← e1]; exact Nat.le_mul_of_pos_right _ hK
  have z0 : 1 ≤ Z := by
    rcases Nat.eq_zero_or_pos Z with h | h
    · rw [h] at e1; omega
    · exact h
  have hs := fr_same (a := X + Y) (b := a + b) (L := Z) (K := L) z0 hL (by
    rw [← e1, ← e2, ← e3, Int.natCast_mul]; grind)
  have HS := Lib.hid hs
  have hC8 : C ≤ 4611686018427387903 := by omega
  have hD8 : D ≤ 4611686018427387903 := by omega
  have c1 : (C : Int).tdiv (d : Int) = ((C / d : Nat) : Int) := by rw [Int.tdiv_eq_ediv_of_nonneg (by omega)]; omega
  have zc : (Z : Int).tdiv (C : Int) = ((D / d : Nat) : Int) := by rw [Int.tdiv_eq_ediv_of_nonneg (by omega), ← hZC]; omega
  have zd : (Z : Int).tdiv (D : Int) = ((C / d : Nat) : Int) := by rw [Int.tdiv_eq_ediv_of_nonneg (by omega), ← hZD]; omega
  have hq1 : C / d ≤ C := Nat.div_le_self _ _
  have hq2 : D / d ≤ D := Nat.div_le_self _ _
  clear hZC hZD hdC hdD
  generalize C / d = c at *
  generalize D / d = e at *
  have G : ¬ d = 0 := by omega
  have G2 : ((d : Int) == 0) = false := by simp; omega
  have GC : ((C : Int) == 0) = false := by simp; omega
  have GD : ((D : Int) == 0) = false := by simp; omega
  have GC' : ¬ C = 0 := by omega
  have GD' : ¬ D = 0 := by omega
  have v1 : IntKind.i64.wrap (c : Int) = c := IntWalk.i64_in _ (by omega)
  have v2 : IntKind.i64.wrap (e : Int) = e := IntWalk.i64_in _ (by omega)
  have v3 : IntKind.i64.wrap (A * (e : Int)) = X := by rw [← hX]; exact IntWalk.i64_in _ (by omega)
  have v4 : IntKind.i64.wrap (B * (c : Int)) = Y := by rw [← hY]; exact IntWalk.i64_in _ (by omega)
  have v5 : IntKind.i64.wrap ((c : Int) * (D : Int)) = Z := by rw [hZ, ← Int.natCast_mul]; exact IntWalk.i64_in _ (by have := hZ; omega)
  have v6 : IntKind.i64.wrap (X + Y) = X + Y := IntWalk.i64_in _ (by omega)
  have HF := Lib.hid (fun w => rfrac_any (X + Y) Z w (by omega) (by omega) (by omega) z0)
  have HdA : C ≤ 9223372036854775807 := by omega
  have HdB : D ≤ 9223372036854775807 := by omega
  have R := Lib.hid (And.intro c1 (And.intro zc (And.intro zd (And.intro v1 (And.intro v2 (And.intro v3 (And.intro v4 (And.intro v5 v6))))))))
  clear c1 zc zd v1 v2 v3 v4 v5 v6 hX hY hZ e1 e2 e3 hs x1 y1 z1 hq1 hq2 a1 a2 ha hb b1 b2 hC8 hD8
  go_enter Try.func55, Try.ntmps55
  go_wp2_with fail
  obtain ⟨W, hW⟩ : ∃ W, W = ((w.alloc (.cells #[.int .i64 A, .int .i64 (C : Int)] 24)).alloc (.cells #[.int .i64 B, .int .i64 (D : Int)] 24)).alloc (.cells #[.int .i64 0, .int .i64 0] 24) := ⟨_, rfl⟩
  rw [← hW]
  have HBW : Hid (Below w.heap.size w W) := by rw [hW]; exact (((Below.refl _ _).alloc (Nat.le_refl _) _).alloc (by simp) _).alloc (by simp; omega) _
  have hs1 : W.heap.size = w.heap.size + 3 := by rw [hW]; simp
  obtain ⟨qa1, qa2, qa3, qa4⟩ := fr_cells (w := W) (b := w.heap.size) (by rw [hW]; exact heap_three0 w _ _ _)
  obtain ⟨qb1, qb2, qb3, qb4⟩ := fr_cells (w := W) (b := w.heap.size + 1) (by rw [hW]; exact heap_three1 w _ _ _)
  have hbk := heap_three w (.cells #[.int .i64 A, .int .i64 (C : Int)] 24) (.cells #[.int .i64 B, .int .i64 (D : Int)] 24) (.cells #[.int .i64 0, .int .i64 0] 24)
  rw [← hW] at hbk
  have HBK := Lib.hid hbk
  clear hbk hW
  obtain ⟨c1, zc, zd, v1, v2, v3, v4, v5, v6⟩ := R.out
  have u1 : wrap64 ((C : Int) / (d : Int)) = c := by rw [← Int.tdiv_eq_ediv_of_nonneg (by omega), c1]; exact (IntWalk.i64_left _).symm.trans v1
  have u5 := (IntWalk.i64_left _).symm.trans v5
  have HGc : Hid (∀ q, Calls Try.prog 76 #[.int .i64 C, .int .i64 D] (W.drewN q) fun e w' => e = .returned (.int .i64 (d : Int)) ∧ ∃ m, w' = (W.drewN q).drewN m) := fun q => by
    have h := rgcd_any C D (W.drewN q) HdA HdB
    rw [HG.out] at h
    exact h
  go_quiet ((go_at_call 76; exact Calls.quiet_of (HGc.out _)))
  obtain ⟨W1, hW1⟩ : ∃ W1, W1 = W.drewN nq := ⟨_, rfl⟩
  have HBW1 : Hid (Below w.heap.size w W1) := by rw [hW1]; exact below_drewN HBW.out _
  have hs3 : W1.heap.size = w.heap.size + 3 := by rw [hW1]; exact hs1
  have ra1 : W1.cell? ⟨w.heap.size, 0, none⟩ = some (.int .i64 A) := by rw [hW1]; exact qa1
  have ra2 : W1.cell? ⟨w.heap.size, 1, none⟩ = some (.int .i64 (C : Int)) := by rw [hW1]; exact qa2
  have rb1 : W1.cell? ⟨w.heap.size + 1, 0, none⟩ = some (.int .i64 B) := by rw [hW1]; exact qb1
  have rb2 : W1.cell? ⟨w.heap.size + 1, 1, none⟩ = some (.int .i64 (D : Int)) := by rw [hW1]; exact qb2
  have HBK1 : Hid (W1.heap[w.heap.size + 1 + 1]? = some (.cells #[.int .i64 0, .int .i64 0] 24)) := by rw [hW1]; exact HBK.out
  rw [← hW1]
  clear hW1 qa1 qa2 qb1 qb2 qa3 qa4 qb3 qb4 c1 u1 u5 HBW HBK
  have w1' : wrap64 ((Z : Int) / (C : Int)) = e := by rw [← Int.tdiv_eq_ediv_of_nonneg (by omega), zc]; exact (IntWalk.i64_left _).symm.trans v2
  have w2' : wrap64 ((Z : Int) / (D : Int)) = c := by rw [← Int.tdiv_eq_ediv_of_nonneg (by omega), zd]; exact (IntWalk.i64_left _).symm.trans v1
  have w3' := (IntWalk.i64_left _).symm.trans v3
  have w4' := (IntWalk.i64_left _).symm.trans v4
  have w6' := (IntWalk.i64_left _).symm.trans v6
  go_wp2
  go_still_tail 16, (by kernel_rfl)
  change wpList _ _ _ _ _ W1.drew
  clear zc zd v1 v2 v3 v4 v5 v6 w1' w2' w3' w4' w6' ra1 ra2 rb1 rb2
  have HBW2 : Hid (Below w.heap.size w W1.drew) := HBW1.out.drew
  have hs2 : W1.drew.heap.size = w.heap.size + 3 := hs3
  have HBK2 : Hid (W1.drew.heap[w.heap.size + 1 + 1]? = some (.cells #[.int .i64 0, .int .i64 0] 24)) := HBK1.out
  clear HBW1 hs3 HBK1
  generalize W1.drew = W2 at *
  go_wp2_with fail
  refine (HF.out W2).mono ?_
  rintro e' w2 ⟨rfl, hb2⟩
  obtain ⟨q1, q2, q3, q4⟩ := fr_cells ((hb2.block (w.heap.size + 1 + 1) (by omega)).trans HBK2.out)
  have HB2 : Hid (Below w.heap.size w w2) := HBW2.out.trans (hb2.mono (by omega))
  clear hb2
  rw [HS.out.1, HS.out.2]
  go_wp2
  exact bodyPost_ret (v := .agg #[.int .i64 (frA (a + b) L), .int .i64 (frB (a + b) L : Nat)]) (by simp [results, Try.results55, go_sem, q1, q2]) rfl ⟨rfl, (HB2.out.setCell (by simp; omega) _).setCell (by simp; omega) _⟩
end Go.Proofs.Ytgednacoeifclaa
