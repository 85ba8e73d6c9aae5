import Derived.Test.YtgednacoeifclaaR2
namespace Go.Proofs.Ytgednacoeifclaa
open Go.RowKit Go.Shelf

/-- The parts of a set that are less than t. -/
def subTo (s t : Nat) : List Nat := (List.range t).filter fun u => u &&& s == u
theorem subTo_yes {s t : Nat} (h : t &&& s = t) : subTo s (t + 1) = subTo s t ++ [t] := by simp [subTo, List.range_succ, h]
theorem subTo_no {s t : Nat} (h : ¬ t &&& s = t) : subTo s (t + 1) = subTo s t := by simp [subTo, List.range_succ, h]
theorem subTo_end {s n : Nat} (hs : s < 2 ^ n) (hn : n ≤ 6) : subTo s (2 ^ n) = partsL s := by
  obtain ⟨p1, p2⟩ := pow_6 hn
  have gen : ∀ m, 2 ^ n ≤ m → subTo s m = subTo s (2 ^ n) := by
    intro m
    induction m with
    | zero => intro h; omega
    | succ m ih =>
      intro h
      by_cases e : 2 ^ n = m + 1
      · rw [e]
      · rw [subTo_no (fun h2 => by have := Nat.and_le_right (n := m) (m := s); omega), ih (by omega)]
  exact (gen 64 p2).symm
theorem sdiff_zero {t s : Nat} : sdiff t s = 0 ↔ t &&& s = t := by
  unfold sdiff
  have := Nat.and_le_left (n := t) (m := s)
  omega
theorem subTo_len (s t : Nat) : (subTo s t).length ≤ t := Nat.le_trans (List.length_filter_le _ _) (by simp)
theorem woC_full {z : Nat → Int} {n t : Nat} (ht : t < 2 ^ n) (hn : n ≤ 6) : ofS z (2 ^ n - 1) - ofS z t = ofS z (sdiff (2 ^ n - 1) t) := by
  have hp := pow_6 hn
  have h : t &&& (2 ^ n - 1) = t := by rw [Nat.and_two_pow_sub_one_eq_mod]; exact Nat.mod_eq_of_lt ht
  have := ofS_diff z (s := 2 ^ n - 1) (t := t) (by omega) (by omega) h
  omega

set_option maxHeartbeats 4000000 in
set_option maxRecDepth 100000 in
theorem rdone_any (a : Option Addr) (n cap : Nat) (z : Nat → Int) (s k : Nat) (w : World) (hs : s < 2 ^ n) (h1n : 1 ≤ n) (hn : n ≤ 6) (hz : Ints w a n z) (h9 : ∀ j, j < n → 1 ≤ z j ∧ z j ≤ 9) (hk : k ≤ 8) :
    Calls Try.prog 28 #[.slice a n cap, .int .i64 s, .int .i64 k] w fun e w' => QOut (doC z (2 ^ n - 1) s k) ((ofS z (2 ^ n - 1)).toNat ^ k) w e w' := by
  obtain ⟨p1, p2⟩ := pow_6 hn
  have hfull := full_lt hn
  have hall0 : 2 ^ n - 1 ≠ 0 := by
    have : 2 ^ 1 ≤ 2 ^ n := Nat.pow_le_pow_right (by decide) h1n
    omega
  have hof := of_pos hfull hn hall0 h9
  have hs64 := lt64 hs hn
  have HSum : Hid (∀ t : Nat, t < 2 ^ n → ∀ W, Below w.heap.size w W → Calls Try.prog 47 #[.slice a n cap, .int .i64 t] W fun e w' => e = .returned (.int .i64 (ofS z t)) ∧ W = w') := fun t ht W hW => rsum_any a n cap z t W ht hn (hz.keep (Nat.le_refl _) hW) h9
  have HOfb : Hid (∀ t : Nat, t < 2 ^ n → 0 ≤ ofS z t ∧ ofS z t ≤ 54) := fun t ht => by have := of_bd ht h9; omega
  have HFull : Hid (∀ t : Nat, t < 2 ^ n → ofS z (2 ^ n - 1) - ofS z t = ofS z (sdiff (2 ^ n - 1) t)) := fun t ht => woC_full ht hn
  have HWo := Lib.hid (woC_abs (z := z) hfull h9 hk)
  have HEnd := Lib.hid (subTo_end hs hn)
  have hwp := wrap_pow6 hn
  have hP : ∃ P, P = 2 ^ n := ⟨_, rfl⟩
  have hA1 : 1 ≤ (ofS z (2 ^ n - 1)).toNat := by omega
  have hpA := pow54n (m := (ofS z (2 ^ n - 1)).toNat) (by omega) hk
  have hpA1 : 1 ≤ (ofS z (2 ^ n - 1)).toNat ^ k := Nat.one_le_pow _ _ hA1
  have HPA : Hid (∀ W, Calls Try.prog 60 #[.int .i64 (ofS z (2 ^ n - 1)), .int .i64 k] W fun e w' => e = .returned (.int .i64 (((ofS z (2 ^ n - 1)).toNat ^ k : Nat) : Int)) ∧ W = w') := fun W => by
    have h := rpower_any (ofS z (2 ^ n - 1)).toNat k W (by omega) (fun j hj => by have := pow54n (m := (ofS z (2 ^ n - 1)).toNat) (k := j) (by omega) (by omega); omega)
    rw [show (((ofS z (2 ^ n - 1)).toNat : Nat) : Int) = ofS z (2 ^ n - 1) by omega] at h
    exact h
  have HPo : Hid (∀ t : Nat, t < 2 ^ n → ∀ W, Calls Try.prog 60 #[.int .i64 (ofS z (sdiff (2 ^ n - 1) t)), .int .i64 k] W fun e w' => e = .returned (.int .i64 (woC z (2 ^ n - 1) k t)) ∧ W = w') := fun t ht W => by
    have hb := of_bd (z := z) (Nat.lt_of_le_of_lt (sdiff_le (2 ^ n - 1) t) hfull) h9
    have h := rpower_any (ofS z (sdiff (2 ^ n - 1) t)).toNat k W (by omega) (fun j hj => by have := pow54n (m := (ofS z (sdiff (2 ^ n - 1) t)).toNat) (k := j) (by omega) (by omega); omega)
    rw [show (((ofS z (sdiff (2 ^ n - 1) t)).toNat : Nat) : Int) = ofS z (sdiff (2 ^ n - 1) t) by omega] at h
    exact h
  have HFr : Hid (∀ (X : Int) (W : World), X.natAbs ≤ 4627325525704704 → Calls Try.prog 54 #[.int .i64 X, .int .i64 (((ofS z (2 ^ n - 1)).toNat ^ k : Nat) : Int)] W fun e w' => QOut X ((ofS z (2 ^ n - 1)).toNat ^ k) W e w') := fun X W hX => rfrac_any X _ W (by omega) (by omega) (by omega) hpA1
  have HW0 : Hid (Below w.heap.size w (w.alloc (.cells #[.int .i64 0, .int .i64 0] 24))) := below_one _ _
  have e2n : (2 : Int) ^ n = ((2 ^ n : Nat) : Int) := by simp
  have HS0 := Lib.hid (HSum.out (2 ^ n - 1) hfull (w.alloc (.cells #[.int .i64 0, .int .i64 0] 24)) HW0.out)
  have HMin : Hid (wrap64 (wrap64 ((2 : Int) ^ n) - 1) = ((2 ^ n - 1 : Nat) : Int)) := by unfold Hid; rw [hwp, IntWalk.wrap64_in _ ⟨by omega, by omega⟩]; omega
  have HE2 := Lib.hid e2n
  have HWP : Hid (wrap64 ((2 : Int) ^ n) = (2 : Int) ^ n) := by rw [Hid, hwp, e2n]
  unfold doC
  rw [← HEnd.out]
  clear hz h9 hs hpA hpA1 hA1 hP HEnd e2n hwp
  go_enter Try.func28, Try.ntmps28
  go_wp2_with fail
  rw [HMin.out]
  refine HS0.out.mono ?_
  rintro e w' ⟨rfl, rfl⟩
  obtain ⟨W0, hW0⟩ : ∃ W0, W0 = w.alloc (.cells #[.int .i64 0, .int .i64 0] 24) := ⟨_, rfl⟩
  rw [← hW0] at HW0 ⊢
  have hr0 : W0.heap[w.heap.size]? = some (.cells #[.int .i64 0, .int .i64 0] 24) := by rw [hW0]; exact heap_alloc_new w _
  have hs0 : W0.heap.size = w.heap.size + 1 := by rw [hW0]; simp
  have HR0 := Lib.hid hr0
  clear hW0 hr0 HS0
  go_wp2
  go_loop [8, 9, 10, 20] (fun s8 _ _ i => ∃ t : Nat, t ≤ 2 ^ n ∧ i = .int .i64 t ∧ s8 = .int .i64 (sumC (alC (woC z (2 ^ n - 1) k)) (subTo s t))) (fun _ _ _ i => 2 ^ n - (intOf i).toNat)
  case atStart => exact ⟨0, Nat.zero_le _, rfl, rfl⟩
  case round =>
    obtain ⟨t, ht, rfl, rfl⟩ := hrel
    by_cases hlt : t < 2 ^ n
    · have hlt' : (t : Int) < wrap64 ((2 : Int) ^ n) := by rw [HWP.out, HE2.out]; omega
      have ht64 : t < 64 := by omega
      have hand := andNot_nat ht64 hs64
      by_cases hsub : t &&& s = t
      · have G : (((sdiff t s : Nat) : Int) != 0) = false := by rw [sdiff_zero.2 hsub]; rfl
        have HN : Hid (subTo s (t + 1) = subTo s t ++ [t]) := subTo_yes hsub
        have hb1 := HOfb.out t hlt
        have hSb : (sumC (alC (woC z (2 ^ n - 1) k)) (subTo s t)).natAbs ≤ 4627325525704704 := by
          have h1 := sumC_abs (alC (woC z (2 ^ n - 1) k)) (subTo s t)
          rw [sumA_alC] at h1
          have h2 := sumA_le (c := woC z (2 ^ n - 1) k) HWo.out (subTo s t)
          have h3 := subTo_len s t
          have h4 : (subTo s t).length * 72301961339136 ≤ 64 * 72301961339136 := Nat.mul_le_mul_right _ (by omega)
          omega
        have hXb := HWo.out t
        have HSn := Lib.hid (sumC_snoc (alC (woC z (2 ^ n - 1) k)) (subTo s t) t)
        have HSt := Lib.hid (HSum.out t hlt W0 HW0.out)
        have HPt := Lib.hid (HPo.out t hlt)
        have HFt := Lib.hid (HFull.out t hlt)
        have HOdd := Lib.hid (alC_odd (c := woC z (2 ^ n - 1) k) (x := t))
        have HEven := Lib.hid (alC_even (c := woC z (2 ^ n - 1) k) (x := t))
        clear hsub
        generalize sumC (alC (woC z (2 ^ n - 1) k)) (subTo s t) = S at *
        obtain ⟨X, hX⟩ : ∃ X, X = woC z (2 ^ n - 1) k t := ⟨_, rfl⟩
        rw [← hX] at hXb HPt HOdd HEven
        clear hX
        have hSb' : -4627325525704704 ≤ S ∧ S ≤ 4627325525704704 := by omega
        have hXb' : -72301961339136 ≤ X ∧ X ≤ 72301961339136 := by omega
        clear hSb hXb
        cases hodd : oddB t
        · have HO := Lib.hid hodd
          have HR : Hid (sumC (alC (woC z (2 ^ n - 1) k)) (subTo s (t + 1)) = S + X) := by
            rw [Hid, HN.out, HSn.out, HEven.out (by have := hodd; unfold oddB at this; simpa using this)]
          clear hodd
          go_wp2_with (first | (go_at_call 47; refine HSt.out.mono ?_; rintro e w' ⟨rfl, rfl⟩) | (go_at_call 60; rw [HFt.out]; refine (HPt.out _).mono ?_; rintro e w' ⟨rfl, rfl⟩) | (go_at_call 61; refine (rodd_any t _ ht64).mono ?_; rintro e w' ⟨rfl, rfl⟩; rw [HO.out]))
          go_round
          case rel => exact ⟨t + 1, by omega, by go_num, by rw [HR.out]⟩
          case measure => simp [intOf]; omega
        · have HO := Lib.hid hodd
          have HR : Hid (sumC (alC (woC z (2 ^ n - 1) k)) (subTo s (t + 1)) = S + -X) := by
            rw [Hid, HN.out, HSn.out, HOdd.out (by have := hodd; unfold oddB at this; simpa using this)]
          clear hodd
          go_wp2_with (first | (go_at_call 47; refine HSt.out.mono ?_; rintro e w' ⟨rfl, rfl⟩) | (go_at_call 60; rw [HFt.out]; refine (HPt.out _).mono ?_; rintro e w' ⟨rfl, rfl⟩) | (go_at_call 61; refine (rodd_any t _ ht64).mono ?_; rintro e w' ⟨rfl, rfl⟩; rw [HO.out]))
          go_round
          case rel => exact ⟨t + 1, by omega, by go_num, by rw [HR.out]⟩
          case measure => simp [intOf]; omega
      · have hz : sdiff t s ≠ 0 := fun h => hsub (sdiff_zero.1 h)
        have G : (((sdiff t s : Nat) : Int) != 0) = true := by simp; omega
        have HN : Hid (subTo s (t + 1) = subTo s t) := subTo_no hsub
        clear hsub hz
        generalize sdiff t s = D at *
        go_wp2
        go_round
        case rel => exact ⟨t + 1, by omega, by go_num, by rw [HN.out]⟩
        case measure => simp [intOf]; omega
    · have e : t = 2 ^ n := by omega
      have hge : wrap64 ((2 : Int) ^ n) ≤ (t : Int) := by rw [HWP.out, HE2.out]; omega
      have HF : Hid (sumC (alC (woC z (2 ^ n - 1) k)) (subTo s t) = sumC (alC (woC z (2 ^ n - 1) k)) (subTo s (2 ^ n))) := by rw [Hid, e]
      have hSb : (sumC (alC (woC z (2 ^ n - 1) k)) (subTo s t)).natAbs ≤ 4627325525704704 := by
        have h1 := sumC_abs (alC (woC z (2 ^ n - 1) k)) (subTo s t)
        rw [sumA_alC] at h1
        have h2 := sumA_le (c := woC z (2 ^ n - 1) k) HWo.out (subTo s t)
        have h3 := subTo_len s t
        have h4 : (subTo s t).length * 72301961339136 ≤ 64 * 72301961339136 := Nat.mul_le_mul_right _ (by omega)
        omega
      have HFt := Lib.hid (fun W => HFr.out (sumC (alC (woC z (2 ^ n - 1) k)) (subTo s t)) W hSb)
      clear e hSb
      generalize sumC (alC (woC z (2 ^ n - 1) k)) (subTo s t) = S at *
      obtain ⟨L, hL⟩ : ∃ L, L = (ofS z (2 ^ n - 1)).toNat ^ k := ⟨_, rfl⟩
      have HL := Lib.hid hL
      rw [← hL] at HPA HFt
      clear hL
      go_wp2_with (first | (go_at_call 60; refine (HPA.out _).mono ?_; rintro e w' ⟨rfl, rfl⟩))
      refine (HFt.out _).mono ?_
      rintro e w4 ⟨rfl, hb4⟩
      obtain ⟨q1, q2, q3, q4⟩ := fr_cells ((hb4.block w.heap.size (by omega)).trans HR0.out)
      have HB4 : Hid (Below w.heap.size w w4) := HW0.out.trans (hb4.mono (by omega))
      clear hb4
      go_wp2
      exact bodyPost_ret (v := .agg #[.int .i64 (frA S L), .int .i64 (frB S L : Nat)]) (by simp [results, Try.results28, go_sem, q1, q2]) rfl ⟨by rw [← HF.out, ← HL.out], (HB4.out.setCell (by simp) _).setCell (by simp) _⟩
end Go.Proofs.Ytgednacoeifclaa
