import Derived.Test.YtgednacoeifclaaP5
import Derived.Test.YtgednacoeifclaaR7
namespace Go.Proofs.Ytgednacoeifclaa
open Go.RowKit Go.Shelf

set_option maxHeartbeats 4000000 in
set_option maxRecDepth 100000 in
theorem rminus_any (X Y : Int) (L : Nat) (w : World) (hL : 1 ≤ L) (hM : L ≤ 4611686018427387903) (ha : X.natAbs ≤ 4611686018427387903) (hb : Y.natAbs ≤ 4611686018427387903) :
    Calls Try.prog 70 #[.agg #[.int .i64 (frA X L), .int .i64 (frB X L : Nat)], .agg #[.int .i64 (frA Y L), .int .i64 (frB Y L : Nat)]] w fun e w' => QOut (X - Y) L w e w' := by
  have hP := fun W => rplus_any X (-Y) L W hL hM ha (by omega)
  rw [frA_neg, frB_neg, show X + -Y = X - Y by omega] at hP
  have hy := frA_abs Y hL
  have HP := Lib.hid hP
  clear hP
  generalize frA Y L = B at *
  generalize frB Y L = D at *
  generalize X - Y = Z at *
  obtain ⟨A, hA⟩ : ∃ A, A = frA X L := ⟨_, rfl⟩
  obtain ⟨C, hC⟩ : ∃ C, C = frB X L := ⟨_, rfl⟩
  rw [← hA, ← hC] at HP ⊢
  clear hA hC
  have hwr : wrap64 (-B) = -B := IntWalk.wrap64_in _ ⟨by omega, by omega⟩
  have hwr2 : IntKind.i64.wrap (-B) = -B := IntWalk.i64_in _ (by omega)
  go_enter Try.func70, Try.ntmps70
  go_wp2_with fail
  refine (HP.out _).mono ?_
  rintro e w4 ⟨rfl, hb4⟩
  obtain ⟨s1, s2, s3, s4⟩ := fr_cells ((hb4.block (w.heap.size + 1 + 1) (by simp)).trans (heap_three w _ _ _))
  have HB4 : Hid (Below w.heap.size w w4) := ((below_two w _ _).alloc (by simp; omega) _).trans (hb4.mono (by simp; omega))
  clear hb4
  go_wp2
  exact bodyPost_ret (v := .agg #[.int .i64 (frA Z L), .int .i64 (frB Z L : Nat)]) (by simp [results, Try.results70, go_sem, s1, s2]) rfl ⟨rfl, (HB4.out.setCell (by simp; omega) _).setCell (by simp; omega) _⟩

set_option maxHeartbeats 8000000 in
set_option maxRecDepth 100000 in
theorem added_less (X Y : Int) (L : Nat) (w : World) (hL : 1 ≤ L) (hM : L ≤ 1152921504606846976) (hX : 0 ≤ X ∧ X ≤ 4611686018427387903) (hY : 0 ≤ Y ∧ Y ≤ 4611686018427387903) :
    Calls Try.prog 46 #[.agg #[.int .i64 (frA X L), .int .i64 (frB X L : Nat)], .agg #[.int .i64 (frA Y L), .int .i64 (frB Y L : Nat)], .bool true] w fun e w' => AddOut (X - Y) L w e w' := by
  have HPl := Lib.hid (fun W => rminus_any X Y L W hL (by omega) (by omega) (by omega))
  obtain ⟨d, hd⟩ : ∃ d, d = Nat.gcd (frB X L) (frB Y L) := ⟨_, rfl⟩
  obtain ⟨K, hK, e1, e2, e3⟩ := fr_plus X Y hL hd
  have a1 := (frA_sign (a := X) hL).1.2 hX.1
  have a2 := (frA_sign (a := Y) hL).1.2 hY.1
  have a3 := frA_abs X hL
  have a4 := frA_abs Y hL
  have b1 := frB_le X L
  have b2 := frB_le Y L
  have p1 := frB_pos X hL
  have p2 := frB_pos Y hL
  generalize frA X L = A at *
  generalize frA Y L = B at *
  generalize frB X L = C at *
  generalize frB Y L = D at *
  have dpos : 0 < d := by rw [hd]; exact Nat.gcd_pos_of_pos_left _ p1
  have hdC : d ∣ C := by rw [hd]; exact Nat.gcd_dvd_left _ _
  have hdD : d ∣ D := by rw [hd]; exact Nat.gcd_dvd_right _ _
  have HG : Hid (Nat.gcd C D = d) := hd.symm
  clear hd
  obtain ⟨Z, hZ⟩ : ∃ Z : Nat, Z = C / d * D := ⟨_, rfl⟩
  have hZC : Z / C = D / d := by
    rw [hZ]
    obtain ⟨x, rfl⟩ := hdC
    obtain ⟨y, rfl⟩ := hdD
    rw [Nat.mul_div_cancel_left _ dpos, Nat.mul_div_cancel_left _ dpos, show x * (d * y) = (d * x) * y by rw [Nat.mul_left_comm, Nat.mul_assoc]]
    exact Nat.mul_div_cancel_left _ p1
  have hZD : Z / D = C / d := by rw [hZ]; exact Nat.mul_div_cancel _ p2
  have hc0 : 0 < C / d := Nat.div_pos (Nat.le_of_dvd p1 hdC) dpos
  have he0 : 0 < D / d := Nat.div_pos (Nat.le_of_dvd p2 hdD) dpos
  rw [← hZ] at e1
  have z1 : Z ≤ L := by rw [← e1]; exact Nat.le_mul_of_pos_right _ hK
  have z0 : 1 ≤ Z := by
    rcases Nat.eq_zero_or_pos Z with h | h
    · rw [h] at e1; omega
    · exact h
  have t1 : C / d ≤ 1152921504606846976 / D := (Nat.le_div_iff_mul_le p2).2 (by omega)
  have x1 : A * ((D / d : Nat) : Int) ≤ X := by
    have h0 : 0 ≤ A * ((D / d : Nat) : Int) := Int.mul_nonneg a1 (by omega)
    have h2 : A * ((D / d : Nat) : Int) * 1 ≤ A * ((D / d : Nat) : Int) * K := Int.mul_le_mul_of_nonneg_left (by omega) h0
    omega
  have y1 : B * ((C / d : Nat) : Int) ≤ Y := by
    have h0 : 0 ≤ B * ((C / d : Nat) : Int) := Int.mul_nonneg a2 (by omega)
    have h2 : B * ((C / d : Nat) : Int) * 1 ≤ B * ((C / d : Nat) : Int) * K := Int.mul_le_mul_of_nonneg_left (by omega) h0
    omega
  have hq1 : C / d ≤ C := Nat.div_le_self _ _
  have hq2 : D / d ≤ D := Nat.div_le_self _ _
  have c1 : (C : Int).tdiv (d : Int) = ((C / d : Nat) : Int) := by rw [Int.tdiv_eq_ediv_of_nonneg (by omega)]; omega
  have c1' : (C : Int) / (d : Int) = ((C / d : Nat) : Int) := by omega
  have g1 : (1152921504606846976 : Int).tdiv (D : Int) = ((1152921504606846976 / D : Nat) : Int) := lit_tdiv 1152921504606846976 D
  have g1' : (1152921504606846976 : Int) / (D : Int) = ((1152921504606846976 / D : Nat) : Int) := lit_div 1152921504606846976 D
  have zc : (Z : Int).tdiv (C : Int) = ((D / d : Nat) : Int) := by rw [Int.tdiv_eq_ediv_of_nonneg (by omega), ← hZC]; omega
  have zc' : (Z : Int) / (C : Int) = ((D / d : Nat) : Int) := by rw [← hZC]; omega
  have zd : (Z : Int).tdiv (D : Int) = ((C / d : Nat) : Int) := by rw [Int.tdiv_eq_ediv_of_nonneg (by omega), ← hZD]; omega
  have zd' : (Z : Int) / (D : Int) = ((C / d : Nat) : Int) := by rw [← hZD]; omega
  have t0 : 1152921504606846976 / D ≤ 1152921504606846976 := Nat.div_le_self _ _
  clear hZC hZD hdC hdD
  generalize C / d = c at *
  generalize D / d = e at *
  generalize 1152921504606846976 / D = q at *
  have r1 : A ≤ (9223372036854775807 : Int) / (e : Int) := (Int.le_ediv_iff_mul_le (by omega)).2 (by omega)
  have r2 : B ≤ (9223372036854775807 : Int) / (c : Int) := (Int.le_ediv_iff_mul_le (by omega)).2 (by omega)
  have r3 : (9223372036854775807 : Int) / (e : Int) ≤ 9223372036854775807 := Int.ediv_le_self _ (by omega)
  have r4 : (9223372036854775807 : Int) / (c : Int) ≤ 9223372036854775807 := Int.ediv_le_self _ (by omega)
  have s1 : (9223372036854775807 : Int).tdiv (e : Int) = (9223372036854775807 : Int) / (e : Int) := Int.tdiv_eq_ediv_of_nonneg (by omega)
  have s2 : (9223372036854775807 : Int).tdiv (c : Int) = (9223372036854775807 : Int) / (c : Int) := Int.tdiv_eq_ediv_of_nonneg (by omega)
  generalize (9223372036854775807 : Int) / (e : Int) = E at *
  generalize (9223372036854775807 : Int) / (c : Int) = F at *
  have G2 : ((d : Int) == 0) = false := by simp; omega
  have GC : ((C : Int) == 0) = false := by simp; omega
  have GD : ((D : Int) == 0) = false := by simp; omega
  have Gc : ((c : Int) == 0) = false := by simp; omega
  have Ge : ((e : Int) == 0) = false := by simp; omega
  have nd : ¬ d = 0 := by omega
  have nC : ¬ C = 0 := by omega
  have nD : ¬ D = 0 := by omega
  have nc : ¬ c = 0 := by omega
  have ne : ¬ e = 0 := by omega
  have vc : IntKind.i64.wrap (c : Int) = c := IntWalk.i64_in _ (by omega)
  have ve : IntKind.i64.wrap (e : Int) = e := IntWalk.i64_in _ (by omega)
  have vq : IntKind.i64.wrap (q : Int) = q := IntWalk.i64_in _ (by omega)
  have vz : IntKind.i64.wrap ((c : Int) * (D : Int)) = Z := by rw [hZ, ← Int.natCast_mul]; exact IntWalk.i64_in _ (by have := hZ; omega)
  have vE : IntKind.i64.wrap E = E := IntWalk.i64_in _ (by omega)
  have vF : IntKind.i64.wrap F = F := IntWalk.i64_in _ (by omega)
  have R := Lib.hid (And.intro c1 (And.intro g1 (And.intro zc (And.intro zd (And.intro vc (And.intro ve (And.intro vq (And.intro vz (And.intro vE (And.intro vF (And.intro s1 s2)))))))))))
  have R' := Lib.hid (And.intro c1' (And.intro g1' (And.intro zc' zd')))
  have hC9 : C ≤ 9223372036854775807 := by omega
  have hD9 : D ≤ 9223372036854775807 := by omega
  clear c1 g1 zc zd vc ve vq vz vE vF s1 s2 c1' g1' zc' zd' hZ e1 e2 e3 x1 y1 hX hY a3 a4
  obtain ⟨W, hW⟩ : ∃ W, W = ((w.alloc (.cells #[.int .i64 A, .int .i64 (C : Int)] 24)).alloc (.cells #[.int .i64 B, .int .i64 (D : Int)] 24)).alloc (.cells #[.int .i64 0, .int .i64 0] 24) := ⟨_, rfl⟩
  have HAd : Hid (AdAt w W A B C D) := ⟨by rw [hW]; exact heap_three0 w _ _ _, by rw [hW]; exact heap_three1 w _ _ _, by rw [hW]; exact heap_three w _ _ _, by rw [hW]; exact (((Below.refl _ _).alloc (Nat.le_refl _) _).alloc (by simp) _).alloc (by simp; omega) _, by rw [hW]; simp⟩
  have HW := Lib.hid hW
  clear hW
  go_enter Try.func46, Try.ntmps46
  go_wp2
  rw [← HW.out]
  obtain ⟨q1, q2, q3, q4⟩ := HAd.out.cells
  go_quiet (fail)
  have HAd1 := Lib.hid (HAd.out.drewN nq)
  clear HAd HW q1 q2 q3 q4
  generalize W.drewN nq = W1 at *
  go_wp2
  go_loopw [8, 9] (fun x y wr => ∃ p q : Nat, p ≤ 9223372036854775807 ∧ q ≤ 9223372036854775807 ∧ x = .int .i64 p ∧ y = .int .i64 q ∧ Hid (Nat.gcd p q = d) ∧ AdAt w wr A B C D) (fun _ y _ => (intOf y).toNat)
  case atStart => exact ⟨C, D, hC9, hD9, rfl, rfl, HG, HAd1.out⟩
  case round =>
    obtain ⟨p, y, hp, hy, rfl, rfl, hg, hAd⟩ := hrel
    have HAd2 := Lib.hid hAd
    clear hAd
    by_cases h0 : y = 0
    · subst h0
      have hg0 : Hid (p = d) := by have := hg.out; rw [Nat.gcd_zero_right] at this; exact this
      have G : (((0 : Nat) : Int) != 0) = false := rfl
      rw [hg0.out]
      obtain ⟨q1, q2, q3, q4⟩ := HAd2.out.cells
      obtain ⟨c1, g1, zc, zd, vc, ve, vq, vz, vE, vF, s1, s2⟩ := R.out
      have u1 : decide (c ≤ q) = true := by simp; omega
      have u1' : decide ((q : Int) < (c : Int)) = false := by simp; omega
      have u1'' : decide (q < c) = false := by simp; omega
      go_wp2
      go_quiet (fail)
      have HAd3 := Lib.hid (HAd2.out.drewN nq)
      clear HAd2 q1 q2 q3 q4
      generalize wr.drewN nq = wa at *
      obtain ⟨q1, q2, q3, q4⟩ := HAd3.out.cells
      go_wp2
      go_quiet (fail)
      have HAd4 := Lib.hid (HAd3.out.drewN nq)
      clear HAd3 q1 q2 q3 q4
      generalize wa.drewN nq = wb at *
      obtain ⟨q1, q2, q3, q4⟩ := HAd4.out.cells
      have o1 : decide (E < A) = false := by simp; omega
      have o2 : decide (F < B) = false := by simp; omega
      go_wp2
      go_quiet (fail)
      have HAd5 := Lib.hid (HAd4.out.drewN nq)
      clear HAd4 q1 q2 q3 q4
      generalize wb.drewN nq = wc at *
      obtain ⟨q1, q2, q3, q4⟩ := HAd5.out.cells
      clear c1 g1 zc zd vc ve vq vz vE vF s1 s2 o1 o2
      go_wp2_with fail
      refine (HPl.out wc).mono ?_
      rintro e' w4 ⟨rfl, hb4⟩
      obtain ⟨s1, s2, s3, s4⟩ := fr_cells ((hb4.block (w.heap.size + 1 + 1) (by have := HAd5.out.hs; omega)).trans HAd5.out.h3)
      have HB4 : Hid (Below w.heap.size w w4) := HAd5.out.hb.trans (hb4.mono (by have := HAd5.out.hs; omega))
      clear hb4
      go_wp2
      exact bodyPost_ret (v := .tuple #[.agg #[.int .i64 (frA (X - Y) L), .int .i64 (frB (X - Y) L : Nat)], .bool true]) (by simp [results, Try.results46, go_sem, s1, s2]) rfl ⟨rfl, (HB4.out.setCell (by simp; omega) _).setCell (by simp; omega) _⟩
    · have G : ((y : Int) != 0) = true := by simp; omega
      have G3 : ((y : Int) == 0) = false := by simp; omega
      have hlt := Nat.mod_lt p (Nat.pos_of_ne_zero h0)
      have ht : ((p : Int).tmod (y : Int)) = ((p % y : Nat) : Int) := by rw [Int.tmod_eq_emod_of_nonneg (by omega)]; omega
      have hs : Hid (Nat.gcd y (p % y) = d) := (gcd_step p y).trans hg.out
      have HT := Lib.hid ht
      have HLt := Lib.hid hlt
      clear ht hlt
      go_wp2
      go_quiet (fail)
      have HAd3 := Lib.hid (HAd2.out.drewN nq)
      go_wp2
      go_roundw
      case rel => exact ⟨y, p % y, hy, by have := HLt.out; omega, rfl, by first | rfl | (rw [HT.out]) | go_num, hs, HAd3.out⟩
      case measure => simp [intOf]; have := HLt.out; omega

theorem parts_subl {s u : Nat} (h : u &&& s = u) : (partsL u).Sublist (partsL s) := by
  unfold partsL
  have e : (List.range 64).filter (fun t => t &&& u == t) = ((List.range 64).filter (fun t => t &&& s == t)).filter (fun t => t &&& u == t) := by
    rw [List.filter_filter]
    refine List.filter_congr fun t _ => ?_
    by_cases ht : t &&& u = t
    · simp [ht, sub_trans ht h]
    · simp [ht]
  rw [e]
  exact List.filter_sublist
theorem shC_vC {z : Nat → Int} {n t L : Nat} (ht : t < 2 ^ n) (hn : n ≤ 6) (h9 : ∀ j, j < n → 1 ≤ z j ∧ z j ≤ 9) : shC z 0 L t = vC z L t := by
  unfold shC vC
  by_cases h0 : t = 0
  · simp [h0]
  · have ho := of_pos ht hn h0 h9
    have e : partsL (t &&& 0) = [0] := by rw [Nat.and_zero]; decide +kernel
    simp only [h0, if_false]
    rw [e]
    have e2 : (((ofS z t).toNat : Nat) : Int) = ofS z t := by omega
    simp only [sumC, List.map_cons, List.map_nil, List.sum_cons, List.sum_nil, stC, pop_zero, show kindsL 0 = [] by decide +kernel, stN_nil, Nat.zero_add, Nat.pow_one, e2, Int.one_mul, Int.add_zero]
theorem wait_mX {z : Nat → Int} {n s L : Nat} (hs : s < 2 ^ n) (hn : n ≤ 6) (h9 : ∀ j, j < n → 1 ≤ z j ∧ z j ≤ 9) : waitC z s 0 L = mX z L s := by
  unfold waitC mX
  rw [sumC_congr fun t ht => alC_congr (shC_vC (partsL_lt2 hs ht) hn h9)]
theorem mX_scale {z : Nat → Int} {D K s : Nat} (hD : DOk z D s) : mX z D s * K = mX z (D * K) s := by
  unfold mX
  rw [Int.neg_mul, Int.mul_comm, ← sumC_mul]
  refine congrArg (- ·) (sumC_congr fun t ht => ?_)
  rw [Int.mul_comm, alC_mulr _ (fun _ => (K : Int))]
  refine alC_congr ?_
  unfold vC
  by_cases h0 : t = 0
  · simp [h0]
  · simp only [h0, if_false]
    obtain ⟨q, hq⟩ := hD t ht h0
    rw [Int.natCast_mul, hq]
    by_cases hz : ofS z t = 0
    · rw [hz]; simp
    · rw [Int.mul_ediv_cancel_left _ hz, Int.mul_assoc, Int.mul_ediv_cancel_left _ hz]

/-- What is known of the averages of all sets, over one denominator. -/
structure MeanF (n : Nat) (z : Nat → Int) (L : Nat) (M : Nat → Int) : Prop where
  L1 : 1 ≤ L
  LM : L ≤ 1152921504606846976
  ok : ∀ s, s < 2 ^ n → ∃ K, MeanOk n z s 0 K ∧ frA (waitC z s 0 K * ofS z (2 ^ n - 1)) K = frA (M s) L ∧ frB (waitC z s 0 K * ofS z (2 ^ n - 1)) K = frB (M s) L
  rg : ∀ s, s < 2 ^ n → 0 ≤ M s ∧ M s ≤ 4611686018427387903 ∧ M s ≤ 400 * (L : Int)
  mo : ∀ s u, s < 2 ^ n → u &&& s = u → M u ≤ M s
  tw : ∀ a b, a < 2 ^ n → b < 2 ^ n → M (a ||| b) ≤ M a + M b
  on : ∀ i, i < n → M (2 ^ i) * z i = ofS z (2 ^ n - 1) * L
  al : ofS z (2 ^ n - 1) * M (2 ^ n - 1) ≤ 9223372036854775807
theorem full_sub {n s : Nat} (hs : s < 2 ^ n) : s &&& (2 ^ n - 1) = s := by
  rw [Nat.and_two_pow_sub_one_eq_mod]; exact Nat.mod_eq_of_lt hs
theorem meanF_any {z : Nat → Int} {n : Nat} (h1n : 1 ≤ n) (hn : n ≤ 6) (h9 : ∀ j, j < n → 1 ≤ z j ∧ z j ≤ 9) : ∃ L D, MeanF n z L (mX z D) ∧ (D : Int) = L * ofS z (2 ^ n - 1) ∧ DOk z D (2 ^ n - 1) ∧ D ≤ 1152921504606846976 := by
  have hf := full_lt hn
  have hf64 := lt64 hf hn
  have hf0 : 2 ^ n - 1 ≠ 0 := by
    have : 2 ^ 1 ≤ 2 ^ n := Nat.pow_le_pow_right (by decide) h1n
    omega
  obtain ⟨L, L2, hB⟩ := big_any hf hn h9
  have hal := on_eq (z := z) hf h9
  have hof := of_pos hf hn hf0 h9
  have hdL : DOk z L (2 ^ n - 1) := fun t ht ht0 => by
    rw [← on_eq (partsL_lt2 hf ht) h9]; exact Int.natCast_dvd_natCast.2 (hB.dv t ht ht0)
  have hdD : DOk z (L2 * on z (2 ^ n - 1)) (2 ^ n - 1) := fun t ht ht0 => by
    rw [← on_eq (partsL_lt2 hf ht) h9]; exact Int.natCast_dvd_natCast.2 (hB.kv t ht ht0)
  have hv : ∀ D : Nat, ∀ t ∈ partsL (2 ^ n - 1), t ≠ 0 → vC z D t = (D : Int) / (on z t : Nat) := fun D t ht h0 => by
    unfold vC; rw [if_neg h0, on_eq (partsL_lt2 hf ht) h9]
  have hev : ∀ D : Nat, sumC (vC z D) (evens (2 ^ n - 1)) = sumC (fun t => (D : Int) / (on z t : Nat)) (evens (2 ^ n - 1)) := fun D => sumC_congr fun t ht => hv D t (evens_in ht).1 (evens_in ht).2.1
  have hod : ∀ D : Nat, sumC (vC z D) (odds (2 ^ n - 1)) = sumC (fun t => (D : Int) / (on z t : Nat)) (odds (2 ^ n - 1)) := fun D => sumC_congr fun t ht => hv D t (odds_in ht).1 (odds_ne ht)
  have hv0 : ∀ D : Nat, vC z D 0 = 0 := fun D => by unfold vC; simp
  have hm : ∀ D : Nat, mX z D (2 ^ n - 1) = sumC (fun t => (D : Int) / (on z t : Nat)) (odds (2 ^ n - 1)) - sumC (fun t => (D : Int) / (on z t : Nat)) (evens (2 ^ n - 1)) := fun D => by
    unfold mX
    rw [al_two (hv0 D), show (partsL (2 ^ n - 1)).filter isEvn = evens (2 ^ n - 1) from rfl, show (partsL (2 ^ n - 1)).filter isOdd = odds (2 ^ n - 1) from rfl, hev, hod]
    omega
  have hpos : ∀ D : Nat, ∀ t ∈ partsL (2 ^ n - 1), 0 ≤ vC z D t := fun D t ht => by
    unfold vC
    by_cases h0 : t = 0
    · simp [h0]
    · simp only [h0, if_false]; exact Int.ediv_nonneg (by omega) (by have := (of_pos (partsL_lt2 hf ht) hn h0 h9).1; omega)
  have hsa : ∀ D : Nat, (sumA (vC z D) (partsL (2 ^ n - 1)) : Int) = sumC (fun t => (D : Int) / (on z t : Nat)) (evens (2 ^ n - 1)) + sumC (fun t => (D : Int) / (on z t : Nat)) (odds (2 ^ n - 1)) := fun D => by
    rw [sumA_pos (hpos D), sum_two (hv0 D), show (partsL (2 ^ n - 1)).filter isEvn = evens (2 ^ n - 1) from rfl, show (partsL (2 ^ n - 1)).filter isOdd = odds (2 ^ n - 1) from rfl, hev, hod]
  have hE0 : ∀ D : Nat, 0 ≤ sumC (fun t => (D : Int) / (on z t : Nat)) (evens (2 ^ n - 1)) := fun D => by
    rw [← hev]; exact sum_pos fun t ht => hpos D t (evens_in ht).1
  have hsu := hB.su
  have hsk := hB.sk
  have hm4 := hB.m4
  have hme := hB.me
  have hKM := hB.KM
  have hK1 := hB.K1
  have hon1 : 1 ≤ on z (2 ^ n - 1) := by omega
  have hL2le : L2 ≤ L2 * on z (2 ^ n - 1) := Nat.le_mul_of_pos_right _ hon1
  obtain ⟨D, hDe⟩ : ∃ D, D = L2 * on z (2 ^ n - 1) := ⟨_, rfl⟩
  rw [← hDe] at hdD hsk hm4 hme hKM
  have hmf := hm D
  have hfe := hE0 D
  have hmore := fun s (hs : s < 2 ^ n) => mX_more hn h9 (2 ^ n - 1) s hf (full_sub hs) hdD
  have hmp := fun s (hs : s < 2 ^ n) => mX_pos hn h9 s hs (hdD.sub (full_sub hs))
  have hDi : (D : Int) = L2 * ofS z (2 ^ n - 1) := by rw [hDe, Int.natCast_mul, hal]
  refine ⟨L2, D, ⟨hK1, by omega, fun s hs => ?_, fun s hs => ?_, fun s u hs hu => mX_more hn h9 s u hs hu (hdD.sub (full_sub hs)), fun a b ha hb => ?_, fun i hi => ?_, ?_⟩, hDi, hdD, hKM⟩
  · have hss := full_sub hs
    have heq : waitC z s 0 L * ofS z (2 ^ n - 1) * (L2 : Int) = mX z D s * (L : Int) := by
      rw [wait_mX hs hn h9, Int.mul_assoc, Int.mul_comm (ofS z (2 ^ n - 1)), ← hDi, mX_scale (hdL.sub hss), mX_scale (hdD.sub hss), Nat.mul_comm]
    have hfr := fr_same (a := waitC z s 0 L * ofS z (2 ^ n - 1)) (b := mX z D s) hB.L1 hK1 heq
    refine ⟨L, ⟨hB.L1, by have := hB.LM; omega, fun x hx h0 once ho => ?_, ?_, ?_⟩, hfr.1, hfr.2⟩
    · have e : once = 0 := by
        have := partsL_sub ho
        rw [Nat.and_zero, Nat.and_zero] at this; exact this.symm
      subst e
      refine StOk.of ?_
      rw [pop_zero, Nat.zero_add, Nat.pow_one]
      have := hdL x (parts_sub hss hx) h0
      have hp := (of_pos (partsL_lt2 hs hx) hn h0 h9).1
      have e2 : (((ofS z x).toNat : Nat) : Int) = ofS z x := by omega
      rw [← e2] at this
      exact Int.natCast_dvd_natCast.1 this
    · have e : sumA (shC z 0 L) (partsL s) = sumA (vC z L) (partsL s) := by
        unfold sumA
        exact congrArg List.sum (List.map_congr_left fun t ht => by rw [shC_vC (partsL_lt2 hs ht) hn h9])
      rw [e]
      have h1 := sumA_sub (vC z L) (parts_subl hss)
      have h2 := hsa L
      omega
    · rw [hfr.1]
      have h1 := frA_abs (mX z D s) hK1
      have h2 := hmp s hs
      have h3 := hmore s hs
      omega
  · have h2 := hmp s hs
    have h3 := hmore s hs
    omega
  · exact mX_both hn h9 (a ||| b) a b (Nat.or_lt_two_pow ha hb) rfl (hdD.sub (full_sub (Nat.or_lt_two_pow ha hb)))
  · rw [mX_one (by omega)]
    have hd := hdD (2 ^ i) (List.mem_filter.2 ⟨List.mem_range.2 (lt64 (two_lt hi) hn), by rw [full_sub (two_lt hi)]; simp⟩) (Nat.pos_iff_ne_zero.1 (Nat.pow_pos (by decide)))
    rw [of_two (by omega)] at hd
    rw [Int.ediv_mul_cancel hd, hDi, Int.mul_comm]
  · rw [hmf, ← hal]
    exact hme
theorem MeanF.mean {n : Nat} {z : Nat → Int} {L : Nat} {M : Nat → Int} (h : MeanF n z L M) (a : Option Addr) (cap s : Nat) (w : World) (hs : okS n z s = true) (hn : n ≤ 140737488351232) (hz : Ints w a n z) :
    Calls Try.prog 18 #[.slice a n cap, .int .i64 s] w fun e w' => FrOut (M s) L w e w' := by
  obtain ⟨t, ht, hs2, _⟩ := okS_nat hs
  have ht' : s = t := by omega
  subst ht'
  obtain ⟨K, hk, e1, e2⟩ := h.ok s hs2
  have hm := fMean_good a n cap z s K w hs hn hz hk
  unfold FrOut at hm ⊢
  rw [e1, e2] at hm
  exact hm
end Go.Proofs.Ytgednacoeifclaa
