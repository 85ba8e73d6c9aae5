import Derived.Test.YtlmjddlpenmpkaaL4
namespace Go.Proofs.Ytlmjddlpenmpkaa
open Go.RowKit Go.Shelf

theorem u64_mod (x : Int) (q : Nat) (hq : 0 < q) (hq2 : q ≤ 1000) : ∃ m : Nat, m < q ∧ wrap64 ((IntKind.u64.wrap x).tmod (q : Int)) = (m : Int) := by
  have h0 := u64_pos x
  rw [Int.tmod_eq_emod_of_nonneg h0]
  have h1 := Int.emod_nonneg (IntKind.u64.wrap x) (show (q : Int) ≠ 0 by omega)
  have h2 := Int.emod_lt_of_pos (IntKind.u64.wrap x) (show (0 : Int) < (q : Int) by omega)
  rw [IntWalk.wrap64_in _ ⟨by omega, by omega⟩]
  exact ⟨(IntKind.u64.wrap x % (q : Int)).toNat, by omega, by omega⟩

theorem wrap_full {n : Nat} (hn : n ≤ 6) : wrap64 (wrap64 ((2 : Int) ^ n) - 1) = ((2 ^ n - 1 : Nat) : Int) := by
  rw [wrap_pow6 hn]
  have h := pow_6 hn
  generalize 2 ^ n = P at *
  rw [IntWalk.wrap64_in _ ⟨by omega, by omega⟩]
  omega
/-- The sum of 1 / k over 60. -/
def harm (n : Nat) : Nat → Int
  | 0 => 0
  | k + 1 => harm n k + ((n * 60 / (k + 1) : Nat) : Int)
/-- All kinds of n with the same weight c. -/
def eqB (n c : Nat) : Bool :=
  let L := 60 * c
  let X := waitC (fun _ => (c : Int)) (2 ^ n - 1) 0 L * ofS (fun _ => (c : Int)) (2 ^ n - 1)
  (partsL (2 ^ n - 1)).all (fun x => x == 0 || (partsL (x &&& 0)).all fun once => L % (ofS (fun _ => (c : Int)) x).toNat ^ (pop once + 1) == 0) &&
  decide (sumA (shC (fun _ => (c : Int)) 0 L) (partsL (2 ^ n - 1)) ≤ 4611686018427387903) && decide ((frA X L).natAbs ≤ 9223372036854775807) &&
  decide (0 ≤ X) && decide (X ≤ 400 * (L : Int)) && decide ((frA X L).natAbs ≤ 1000000) && decide (frB X L ≤ 1000000) && decide (0 ≤ harm n n) && decide (harm n n ≤ 1000000) && (frA X L * 60 == harm n n * (frB X L : Nat))
theorem eq_all : (List.range 6).all (fun n => (List.range 9).all fun c => eqB (n + 1) (c + 1)) = true := by decide +kernel

set_option maxHeartbeats 4000000 in
set_option maxRecDepth 100000 in
theorem equal_row (w : World) (n : Int) (_ : -9223372036854775808 ≤ n ∧ n ≤ 9223372036854775807) (c : Int) (_ : -9223372036854775808 ≤ c ∧ c ≤ 9223372036854775807) :
    Calls Try.prog 11 #[.int .i64 n, .int .i64 c] w fun e w' => SomeB true w e w' := by
  obtain ⟨N, hN, eN⟩ := u64_mod n 6 (by decide) (by decide)
  obtain ⟨C, hC, eC⟩ := u64_mod c 9 (by decide) (by decide)
  have e1 : wrap64 (1 + (N : Int)) = ((N + 1 : Nat) : Int) := by rw [IntWalk.wrap64_in _ ⟨by omega, by omega⟩]; omega
  have e2 : wrap64 (1 + (C : Int)) = ((C + 1 : Nat) : Int) := by rw [IntWalk.wrap64_in _ ⟨by omega, by omega⟩]; omega
  have EN : Hid (wrap64 (1 + wrap64 ((IntKind.u64.wrap n).tmod 6)) = ((N + 1 : Nat) : Int)) := by unfold Hid; rw [show (6 : Int) = ((6 : Nat) : Int) from rfl, eN, e1]
  have EC : Hid (wrap64 (1 + wrap64 ((IntKind.u64.wrap c).tmod 9)) = ((C + 1 : Nat) : Int)) := by unfold Hid; rw [show (9 : Int) = ((9 : Nat) : Int) from rfl, eC, e2]
  have hB := List.all_eq_true.1 (List.all_eq_true.1 eq_all N (List.mem_range.2 hN)) C (List.mem_range.2 hC)
  have hN1 : 1 ≤ N + 1 ∧ N + 1 ≤ 6 := by omega
  have hC1 : 1 ≤ C + 1 ∧ C + 1 ≤ 9 := by omega
  clear e1 e2 eN eC hN hC
  generalize N + 1 = N1 at *
  generalize C + 1 = C1 at *
  simp only [eqB, Bool.and_eq_true, decide_eq_true_eq, beq_iff_eq] at hB
  obtain ⟨⟨⟨⟨⟨⟨⟨⟨⟨k1, k2⟩, k3⟩, k4⟩, k5⟩, k6⟩, k7⟩, k8⟩, k9⟩, k10⟩ := hB
  obtain ⟨L, hL⟩ : ∃ L, L = 60 * C1 := ⟨_, rfl⟩
  obtain ⟨X, hX⟩ : ∃ X, X = waitC (fun _ => (C1 : Int)) (2 ^ N1 - 1) 0 L * ofS (fun _ => (C1 : Int)) (2 ^ N1 - 1) := ⟨_, rfl⟩
  rw [← hL] at k1 k2 k3 k4 k5 k6 k7 k10
  have hok : MeanOk N1 (fun _ => (C1 : Int)) (2 ^ N1 - 1) 0 L := by
    refine ⟨by omega, by omega, fun x hx h0 once ho => ?_, k2, k3⟩
    have h := List.all_eq_true.1 k1 x hx
    have hb : (x == 0) = false := by simpa using h0
    rw [hb, Bool.false_or] at h
    exact StOk.of (Nat.dvd_of_mod_eq_zero (by simpa using List.all_eq_true.1 h once ho))
  rw [← hX] at k3 k4 k5 k6 k7 k10
  have h9 : ∀ j, j < N1 → 1 ≤ (C1 : Int) ∧ (C1 : Int) ≤ 9 := fun j _ => by omega
  have hp := pow_6 hN1.2
  have hokS : okS N1 (fun _ => (C1 : Int)) ((2 ^ N1 - 1 : Nat) : Int) = true := okS_iff.2 ⟨⟨hN1.1, hN1.2, h9⟩, by omega, by
    have e : (2 : Int) ^ N1 = ((2 ^ N1 : Nat) : Int) := by simp
    rw [e]; omega⟩
  have HM : Hid (∀ a1 c1 W, Ints W a1 N1 (fun _ => (C1 : Int)) → Calls Try.prog 18 #[.slice a1 N1 c1, .int .i64 ((2 ^ N1 - 1 : Nat) : Int)] W fun e w' => FrOut X L W e w') := fun a1 c1 W hI => by
    rw [hX]; exact fMean_good a1 N1 c1 _ (2 ^ N1 - 1) L W hokS (by omega) hI hok
  have HRt : Hid (∀ W, Calls Try.prog 44 #[.agg #[.int .i64 (frA X L), .int .i64 (frB X L : Nat)], .int .i64 ((400 : Nat) : Int)] W fun e w' => e = .returned (.bool true) ∧ Below W.heap.size W w') := fun W => right_fr X L 400 W k4 (by omega) (by omega) (by omega) (by omega) (by omega)
  have HMin := Lib.hid (wrap_full hN1.2)
  have hA : (0 : Int) ≤ frA X L := (frA_sign (by omega)).1.2 k4
  have HF : Hid ((frA X L * 60 == harm N1 N1 * (frB X L : Nat)) = true) := by simpa [Hid] using k10
  have hAb : frA X L ≤ 1000000 := by omega
  have hBb : frB X L ≤ 1000000 := k7
  have hHb : 0 ≤ harm N1 N1 ∧ harm N1 N1 ≤ 1000000 := ⟨k8, k9⟩
  have HStep : Hid (∀ k, 0 ≤ harm N1 k ∧ harm N1 k ≤ 360 * (k : Int)) := by
    intro k
    induction k with
    | zero => simp [harm]
    | succ k ih =>
      have h1 : N1 * 60 / (k + 1) ≤ N1 * 60 := Nat.div_le_self _ _
      simp only [harm]
      generalize N1 * 60 / (k + 1) = q at h1 ⊢
      omega
  clear k1 k2 k3 k4 k5 k6 k7 k8 k9 k10 hX hL hok hokS hp h9
  obtain ⟨i0, hi, hz0, hz1, hz2⟩ := info_parts Try.info3
  go_enter Try.func11, Try.ntmps11
  go_wp2
  rw [EN.out, EC.out]
  go_loopw [5, 6, 7, 21] (fun s5 s6 _ i wr => ∃ k : Nat, k ≤ N1 ∧ i = .int .i64 k ∧ s6 = .int .i64 (harm N1 k) ∧ wr.ownsRow w.heap.size 3 1 s5 k ((List.range k).map fun _ => .int .i64 (C1 : Int)) ∧ Below w.heap.size w wr) (fun _ _ _ i _ => N1 - (intOf i).toNat)
  case atStart => exact ⟨0, Nat.zero_le _, rfl, rfl, World.ownsRow_nil _ _ _ _, Below.refl _ _⟩
  case round =>
    obtain ⟨k, hk, rfl, rfl, hown, hbl⟩ := hrel
    have HO := Lib.hid hown
    have HBL := Lib.hid hbl
    have hsz := hbl.size
    have hS := HStep.out k
    clear hown hbl
    by_cases hlt : k < N1
    · have hS1 : harm N1 (k + 1) = harm N1 k + ((N1 * 60 / (k + 1) : Nat) : Int) := rfl
      have HS1 := Lib.hid hS1
      have hq : N1 * 60 / (k + 1) ≤ N1 * 60 := Nat.div_le_self _ _
      have ht : ((N1 : Int) * 60) / ((k : Int) + 1) = ((N1 * 60 / (k + 1) : Nat) : Int) := by
        rw [show ((N1 : Int) * 60) = ((N1 * 60 : Nat) : Int) by omega, show ((k : Int) + 1) = ((k + 1 : Nat) : Int) by omega, ← Int.natCast_ediv]
      clear hS1
      generalize N1 * 60 / (k + 1) = q at *
      generalize harm N1 k = S at *
      have hk1 : ¬ ((k : Int) + 1 = 0) := by omega
      go_wp2_with (at_builtin; refine wpList_append_own _ rfl _ _ 22 rfl w.heap.size 3 i0 (.int .i64 0) 1 8 Try.underlying22 hi hz0 hz1 hz2 rfl (by decide) _ _ _ rfl (HO.out.alloc _) ⟨wr.heap.size, 0, none⟩ 1 1 [.int .i64 (C1 : Int)] rfl rfl (one_new _ _ _) (one_ok _ rfl) (by unfold maxLen; omega) (by omega) (by simp; omega) ?_)
      intro v' w1 hown hgrow _
      have hb1 : Below w.heap.size wr w1 := ((Below.refl _ wr).alloc hsz _).grown hgrow (by simp; omega) (fun j hj => (World.ownsRow.lt HO.out j hj).1)
      have HB1 := Lib.hid (HBL.out.trans hb1)
      have HO1 : Hid (w1.ownsRow w.heap.size 3 1 v' (k + 1) ((List.range (k + 1)).map fun _ => .int .i64 (C1 : Int))) := by
        unfold Hid
        rw [show ((List.range (k + 1)).map fun _ => Value.int .i64 (C1 : Int)) = ((List.range k).map fun _ => Value.int .i64 (C1 : Int)) ++ [.int .i64 (C1 : Int)] by rw [List.range_succ, List.map_append]; rfl]
        exact hown
      clear hown hgrow hb1
      go_wp2
      go_roundw
      case rel => exact ⟨k + 1, by omega, by go_num, by rw [HS1.out], HO1.out, HB1.out⟩
      case measure => simp [intOf]; omega
    · have e : k = N1 := by omega
      have HO2 : Hid (wr.ownsRow w.heap.size 3 1 u5 N1 ((List.range N1).map fun _ => .int .i64 (C1 : Int))) := by rw [← e]; exact HO
      have HSk : Hid (harm N1 k = harm N1 N1) := by rw [Hid, e]
      have hge : (N1 : Int) ≤ k := by omega
      clear e HO
      obtain ⟨a1, c1, rfl, hOw⟩ := own_mk (z := fun _ => (C1 : Int)) HO2.out
      have HI := Lib.hid hOw.ints
      clear hOw HO2
      rw [HSk.out]
      generalize harm N1 N1 = S at *
      go_wp2_with fail
      rw [HMin.out]
      refine (HM.out a1 c1 wr HI.out).mono ?_
      rintro e w2 ⟨rfl, hb2⟩
      obtain ⟨A, hAe⟩ : ∃ A, A = frA X L := ⟨_, rfl⟩
      obtain ⟨B, hBe⟩ : ∃ B, B = frB X L := ⟨_, rfl⟩
      rw [← hAe, ← hBe] at HRt HF
      rw [← hAe] at hA hAb
      rw [← hBe] at hBb
      rw [← hAe, ← hBe]
      clear hAe hBe
      have HB2 : Hid (Below w.heap.size w w2) := HBL.out.trans (hb2.mono hsz)
      clear hb2
      have HB3 : Hid (Below w.heap.size w (w2.alloc (.cells #[.int .i64 A, .int .i64 (B : Int)] 24))) := HB2.out.alloc HB2.out.size _
      obtain ⟨W3, hW3⟩ : ∃ W3, W3 = w2.alloc (.cells #[.int .i64 A, .int .i64 (B : Int)] 24) := ⟨_, rfl⟩
      have hq : W3.heap[w2.heap.size]? = some (.cells #[.int .i64 A, .int .i64 (B : Int)] 24) := by rw [hW3]; exact heap_alloc_new w2 _
      rw [← hW3] at HB3
      have HQ := Lib.hid hq
      have HWe := Lib.hid hW3
      clear hq hW3
      go_wp2_with fail
      rw [← HWe.out]
      refine (HRt.out W3).mono ?_
      rintro e w4 ⟨rfl, hb4⟩
      obtain ⟨q1, q2, _, _⟩ := fr_cells (frAt HQ.out hb4)
      have HB4 := Lib.hid (band HB3.out hb4)
      clear hb4
      have m1 : 0 ≤ A * 60 ∧ A * 60 ≤ 60000000 := by omega
      have m2 : 0 ≤ S * (B : Int) ∧ S * (B : Int) ≤ 1000000000000 := by
        constructor
        · exact Int.mul_nonneg hHb.1 (by omega)
        · calc S * (B : Int) ≤ 1000000 * (B : Int) := Int.mul_le_mul_of_nonneg_right hHb.2 (by omega)
            _ ≤ 1000000 * 1000000 := Int.mul_le_mul_of_nonneg_left (by omega) (by omega)
            _ = 1000000000000 := by decide
      have v1 : wrap64 (S * (B : Int)) = S * (B : Int) := IntWalk.wrap64_in _ ⟨by omega, by omega⟩
      have v2 := HF.out
      go_wp2_with fail
      refine (awake_any _).mono ?_
      rintro e w5 ⟨rfl, hb5⟩
      have HB5 := Lib.hid (band HB4.out hb5)
      clear hb5
      go_wp2
      go_ret
      exact ⟨rfl, HB5.out⟩
end Go.Proofs.Ytlmjddlpenmpkaa
