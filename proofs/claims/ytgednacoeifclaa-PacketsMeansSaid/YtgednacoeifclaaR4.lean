import Derived.Test.YtgednacoeifclaaR3
namespace Go.Proofs.Ytgednacoeifclaa
open Go.RowKit Go.Shelf

/-- The cards of a set, to the power of the number of packets; turned where the rest of s has an odd number of kinds. -/
def pwC (z : Nat → Int) (k t : Nat) : Int := (((ofS z t).toNat ^ k : Nat) : Int)
def exC (z : Nat → Int) (s k t : Nat) : Int := if pop (sdiff s t) % 2 = 1 then -(pwC z k t) else pwC z k t
theorem exC_odd {z : Nat → Int} {s k t : Nat} (h : pop (sdiff s t) % 2 = 1) : exC z s k t = -(pwC z k t) := by simp [exC, h]
theorem exC_even {z : Nat → Int} {s k t : Nat} (h : ¬ pop (sdiff s t) % 2 = 1) : exC z s k t = pwC z k t := by simp [exC, h]
theorem exC_absq {z : Nat → Int} {s k t : Nat} : (exC z s k t).natAbs = (pwC z k t).natAbs := by unfold exC; split <;> simp
theorem exC_abs {z : Nat → Int} {n x k : Nat} (hx : x < 2 ^ n) (h9 : ∀ j, j < n → 1 ≤ z j ∧ z j ≤ 9) (hk : k ≤ 8) (s : Nat) : (exC z s k x).natAbs ≤ 72301961339136 := by
  have hof := of_bd hx h9
  have := pow54n (m := (ofS z x).toNat) (by omega) hk
  rw [exC_absq]
  unfold pwC
  omega
theorem subTo_in {s t x : Nat} (h : x ∈ subTo s t) : x < t := List.mem_range.1 (List.mem_filter.1 h).1
theorem sumA_le2 {c : Nat → Int} {M : Nat} : ∀ {xs : List Nat}, (∀ x ∈ xs, (c x).natAbs ≤ M) → sumA c xs ≤ xs.length * M
  | [], _ => by simp [sumA]
  | x :: xs, h => by
    have := sumA_le2 (c := c) (M := M) (xs := xs) (fun y hy => h y (List.mem_cons_of_mem _ hy))
    have h1 := h x (List.mem_cons_self ..)
    simp only [sumA, List.map_cons, List.sum_cons, List.length_cons, Nat.add_mul] at this ⊢
    omega
def revB (s : Nat) : Bool := ((partsL s).map (sdiff s) == (partsL s).reverse) && (partsL s).all fun t => sdiff s (sdiff s t) == t
theorem rev_all : (List.range 64).all revB = true := by decide +kernel
theorem sumC_reverse (c : Nat → Int) (xs : List Nat) : sumC c xs.reverse = sumC c xs := by
  unfold sumC
  rw [List.map_reverse, List.sum_reverse]
theorem exC_sum {z : Nat → Int} {s k : Nat} (hs : s < 64) : sumC (exC z s k) (partsL s) = doC z s s k := by
  have h := List.all_eq_true.1 rev_all s (List.mem_range.2 hs)
  simp only [revB, Bool.and_eq_true, beq_iff_eq, List.all_eq_true] at h
  have e : sumC (exC z s k) (partsL s) = sumC (alC (woC z s k)) ((partsL s).map (sdiff s)) := by
    unfold sumC
    rw [List.map_map]
    refine congrArg List.sum (List.map_congr_left fun t ht => ?_)
    have h2 := h.2 t ht
    simp only [Function.comp, exC, alC, woC, pwC, h2]
  rw [e, h.1, sumC_reverse]
  rfl

set_option maxHeartbeats 4000000 in
set_option maxRecDepth 100000 in
theorem rexact_any0 (a : Option Addr) (n cap : Nat) (z : Nat → Int) (s k : Nat) (w : World) (hs : s < 2 ^ n) (h1n : 1 ≤ n) (hn : n ≤ 6) (hz : Ints w a n z) (h9 : ∀ j, j < n → 1 ≤ z j ∧ z j ≤ 9) (hk : k ≤ 8) :
    Calls Try.prog 29 #[.slice a n cap, .int .i64 s, .int .i64 k] w fun e w' => QOut (sumC (exC z s k) (partsL s)) ((ofS z (2 ^ n - 1)).toNat ^ k) w e w' := by
  obtain ⟨p1, p2⟩ := pow_6 hn
  have hfull := full_lt hn
  have hall0 : 2 ^ n - 1 ≠ 0 := by
    have : 2 ^ 1 ≤ 2 ^ n := Nat.pow_le_pow_right (by decide) h1n
    omega
  have hof := of_pos hfull hn hall0 h9
  have hs64 := lt64 hs hn
  have HSum : Hid (∀ t : Nat, t < 2 ^ n → ∀ W, Below w.heap.size w W → Calls Try.prog 47 #[.slice a n cap, .int .i64 t] W fun e w' => e = .returned (.int .i64 (ofS z t)) ∧ W = w') := fun t ht W hW => rsum_any a n cap z t W ht hn (hz.keep (Nat.le_refl _) hW) h9
  have HOfb : Hid (∀ t : Nat, t < 2 ^ n → 0 ≤ ofS z t ∧ ofS z t ≤ 54) := fun t ht => by have := of_bd ht h9; omega
  have HWo : Hid (∀ x : Nat, x < 2 ^ n → (exC z s k x).natAbs ≤ 72301961339136) := fun x hx => exC_abs hx h9 hk s
  have HEnd := Lib.hid (subTo_end hs hn)
  have hwp := wrap_pow6 hn
  have hP : ∃ P, P = 2 ^ n := ⟨_, rfl⟩
  have hA1 : 1 ≤ (ofS z (2 ^ n - 1)).toNat := by omega
  have hpA := pow54n (m := (ofS z (2 ^ n - 1)).toNat) (by omega) hk
  have hpA1 : 1 ≤ (ofS z (2 ^ n - 1)).toNat ^ k := Nat.one_le_pow _ _ hA1
  have HPA : Hid (∀ W, Calls Try.prog 60 #[.int .i64 (ofS z (2 ^ n - 1)), .int .i64 k] W fun e w' => e = .returned (.int .i64 (((ofS z (2 ^ n - 1)).toNat ^ k : Nat) : Int)) ∧ W = w') := fun W => by
    have h := rpower_any (ofS z (2 ^ n - 1)).toNat k W (by omega) (fun j hj => by have := pow54n (m := (ofS z (2 ^ n - 1)).toNat) (k := j) (by omega) (by omega); omega)
    rw [show (((ofS z (2 ^ n - 1)).toNat : Nat) : Int) = ofS z (2 ^ n - 1) by omega] at h
    exact h
  have HPo : Hid (∀ t : Nat, t < 2 ^ n → ∀ W, Calls Try.prog 60 #[.int .i64 (ofS z t), .int .i64 k] W fun e w' => e = .returned (.int .i64 (pwC z k t)) ∧ W = w') := fun t ht W => by
    have hb := of_bd (z := z) ht h9
    have h := rpower_any (ofS z t).toNat k W (by omega) (fun j hj => by have := pow54n (m := (ofS z t).toNat) (k := j) (by omega) (by omega); omega)
    rw [show (((ofS z t).toNat : Nat) : Int) = ofS z t by omega] at h
    exact h
  have HFr : Hid (∀ (X : Int) (W : World), X.natAbs ≤ 4627325525704704 → Calls Try.prog 54 #[.int .i64 X, .int .i64 (((ofS z (2 ^ n - 1)).toNat ^ k : Nat) : Int)] W fun e w' => QOut X ((ofS z (2 ^ n - 1)).toNat ^ k) W e w') := fun X W hX => rfrac_any X _ W (by omega) (by omega) (by omega) hpA1
  have HW0 : Hid (Below w.heap.size w (w.alloc (.cells #[.int .i64 0, .int .i64 0] 24))) := below_one _ _
  have e2n : (2 : Int) ^ n = ((2 ^ n : Nat) : Int) := by simp
  have HS0 := Lib.hid (HSum.out (2 ^ n - 1) hfull (w.alloc (.cells #[.int .i64 0, .int .i64 0] 24)) HW0.out)
  have HMin : Hid (wrap64 (wrap64 ((2 : Int) ^ n) - 1) = ((2 ^ n - 1 : Nat) : Int)) := by unfold Hid; rw [hwp, IntWalk.wrap64_in _ ⟨by omega, by omega⟩]; omega
  have HE2 := Lib.hid e2n
  have HWP : Hid (wrap64 ((2 : Int) ^ n) = (2 : Int) ^ n) := by rw [Hid, hwp, e2n]
  rw [← HEnd.out]
  clear hz h9 hs hpA hpA1 hA1 hP HEnd e2n hwp
  go_enter Try.func29, Try.ntmps29
  go_wp2_with fail
  rw [HMin.out]
  refine HS0.out.mono ?_
  rintro e w' ⟨rfl, rfl⟩
  obtain ⟨W0, hW0⟩ : ∃ W0, W0 = w.alloc (.cells #[.int .i64 0, .int .i64 0] 24) := ⟨_, rfl⟩
  rw [← hW0] at HW0 ⊢
  have hr0 : W0.heap[w.heap.size]? = some (.cells #[.int .i64 0, .int .i64 0] 24) := by rw [hW0]; exact heap_alloc_new w _
  have hs0 : W0.heap.size = w.heap.size + 1 := by rw [hW0]; simp
  have HR0 := Lib.hid hr0
  clear hW0 hr0 HS0
  go_wp2
  go_loop [8, 9, 10, 20] (fun s8 _ _ i => ∃ t : Nat, t ≤ 2 ^ n ∧ i = .int .i64 t ∧ s8 = .int .i64 (sumC (exC z s k) (subTo s t))) (fun _ _ _ i => 2 ^ n - (intOf i).toNat)
  case atStart => exact ⟨0, Nat.zero_le _, rfl, rfl⟩
  case round =>
    obtain ⟨t, ht, rfl, rfl⟩ := hrel
    by_cases hlt : t < 2 ^ n
    · have hlt' : (t : Int) < wrap64 ((2 : Int) ^ n) := by rw [HWP.out, HE2.out]; omega
      have ht64 : t < 64 := by omega
      have hand := andNot_nat ht64 hs64
      by_cases hsub : t &&& s = t
      · have G : (((sdiff t s : Nat) : Int) != 0) = false := by rw [sdiff_zero.2 hsub]; rfl
        have HN : Hid (subTo s (t + 1) = subTo s t ++ [t]) := subTo_yes hsub
        have hb1 := HOfb.out t hlt
        have hSb : (sumC (exC z s k) (subTo s t)).natAbs ≤ 4627325525704704 := by
          have h1 := sumC_abs (exC z s k) (subTo s t)
          have h2 := sumA_le2 (c := exC z s k) (xs := subTo s t) (fun x hx => HWo.out x (by have := subTo_in hx; omega))
          have h3 := subTo_len s t
          have h4 : (subTo s t).length * 72301961339136 ≤ 64 * 72301961339136 := Nat.mul_le_mul_right _ (by omega)
          omega
        have hXb : (pwC z k t).natAbs ≤ 72301961339136 := by have := HWo.out t hlt; rw [exC_absq] at this; exact this
        have hand2 := andNot_nat hs64 ht64
        have hsd64 : sdiff s t < 64 := Nat.lt_of_le_of_lt (sdiff_le _ _) hs64
        have HSn := Lib.hid (sumC_snoc (exC z s k) (subTo s t) t)
        have HSt := Lib.hid (HSum.out t hlt W0 HW0.out)
        have HPt := Lib.hid (HPo.out t hlt)
        have HOdd := Lib.hid (exC_odd (z := z) (s := s) (k := k) (t := t))
        have HEven := Lib.hid (exC_even (z := z) (s := s) (k := k) (t := t))
        clear hsub
        generalize sumC (exC z s k) (subTo s t) = S at *
        obtain ⟨X, hX⟩ : ∃ X, X = pwC z k t := ⟨_, rfl⟩
        rw [← hX] at hXb HPt HOdd HEven
        clear hX
        have hSb' : -4627325525704704 ≤ S ∧ S ≤ 4627325525704704 := by omega
        have hXb' : -72301961339136 ≤ X ∧ X ≤ 72301961339136 := by omega
        clear hSb hXb
        cases hodd : oddB (sdiff s t)
        · have HO := Lib.hid hodd
          have HR : Hid (sumC (exC z s k) (subTo s (t + 1)) = S + X) := by
            rw [Hid, HN.out, HSn.out, HEven.out (by have := hodd; unfold oddB at this; simpa using this)]
          clear hodd
          go_wp2_with (first | (go_at_call 47; refine HSt.out.mono ?_; rintro e w' ⟨rfl, rfl⟩) | (go_at_call 60; refine (HPt.out _).mono ?_; rintro e w' ⟨rfl, rfl⟩) | (go_at_call 61; refine (rodd_any (sdiff s t) _ hsd64).mono ?_; rintro e w' ⟨rfl, rfl⟩; rw [HO.out]))
          go_round
          case rel => exact ⟨t + 1, by omega, by go_num, by rw [HR.out]⟩
          case measure => simp [intOf]; omega
        · have HO := Lib.hid hodd
          have HR : Hid (sumC (exC z s k) (subTo s (t + 1)) = S + -X) := by
            rw [Hid, HN.out, HSn.out, HOdd.out (by have := hodd; unfold oddB at this; simpa using this)]
          clear hodd
          go_wp2_with (first | (go_at_call 47; refine HSt.out.mono ?_; rintro e w' ⟨rfl, rfl⟩) | (go_at_call 60; refine (HPt.out _).mono ?_; rintro e w' ⟨rfl, rfl⟩) | (go_at_call 61; refine (rodd_any (sdiff s t) _ hsd64).mono ?_; rintro e w' ⟨rfl, rfl⟩; rw [HO.out]))
          go_round
          case rel => exact ⟨t + 1, by omega, by go_num, by rw [HR.out]⟩
          case measure => simp [intOf]; omega
      · have hz : sdiff t s ≠ 0 := fun h => hsub (sdiff_zero.1 h)
        have G : (((sdiff t s : Nat) : Int) != 0) = true := by simp; omega
        have HN : Hid (subTo s (t + 1) = subTo s t) := subTo_no hsub
        clear hsub hz
        generalize sdiff t s = D at *
        go_wp2
        go_round
        case rel => exact ⟨t + 1, by omega, by go_num, by rw [HN.out]⟩
        case measure => simp [intOf]; omega
    · have e : t = 2 ^ n := by omega
      have hge : wrap64 ((2 : Int) ^ n) ≤ (t : Int) := by rw [HWP.out, HE2.out]; omega
      have HF : Hid (sumC (exC z s k) (subTo s t) = sumC (exC z s k) (subTo s (2 ^ n))) := by rw [Hid, e]
      have hSb : (sumC (exC z s k) (subTo s t)).natAbs ≤ 4627325525704704 := by
        have h1 := sumC_abs (exC z s k) (subTo s t)
        have h2 := sumA_le2 (c := exC z s k) (xs := subTo s t) (fun x hx => HWo.out x (by have := subTo_in hx; omega))
        have h3 := subTo_len s t
        have h4 : (subTo s t).length * 72301961339136 ≤ 64 * 72301961339136 := Nat.mul_le_mul_right _ (by omega)
        omega
      have HFt := Lib.hid (fun W => HFr.out (sumC (exC z s k) (subTo s t)) W hSb)
      clear e hSb
      generalize sumC (exC z s k) (subTo s t) = S at *
      obtain ⟨L, hL⟩ : ∃ L, L = (ofS z (2 ^ n - 1)).toNat ^ k := ⟨_, rfl⟩
      have HL := Lib.hid hL
      rw [← hL] at HPA HFt
      clear hL
      go_wp2_with (first | (go_at_call 60; refine (HPA.out _).mono ?_; rintro e w' ⟨rfl, rfl⟩))
      refine (HFt.out _).mono ?_
      rintro e w4 ⟨rfl, hb4⟩
      obtain ⟨q1, q2, q3, q4⟩ := fr_cells ((hb4.block w.heap.size (by omega)).trans HR0.out)
      have HB4 : Hid (Below w.heap.size w w4) := HW0.out.trans (hb4.mono (by omega))
      clear hb4
      go_wp2
      exact bodyPost_ret (v := .agg #[.int .i64 (frA S L), .int .i64 (frB S L : Nat)]) (by simp [results, Try.results29, go_sem, q1, q2]) rfl ⟨by rw [← HF.out, ← HL.out], (HB4.out.setCell (by simp) _).setCell (by simp) _⟩

theorem rexact_any (a : Option Addr) (n cap : Nat) (z : Nat → Int) (s k : Nat) (w : World) (hs : s < 2 ^ n) (h1n : 1 ≤ n) (hn : n ≤ 6) (hz : Ints w a n z) (h9 : ∀ j, j < n → 1 ≤ z j ∧ z j ≤ 9) (hk : k ≤ 8) :
    Calls Try.prog 29 #[.slice a n cap, .int .i64 s, .int .i64 k] w fun e w' => QOut (doC z s s k) ((ofS z (2 ^ n - 1)).toNat ^ k) w e w' := by
  have h := rexact_any0 a n cap z s k w hs h1n hn hz h9 hk
  rw [exC_sum (lt64 hs hn)] at h
  exact h
end Go.Proofs.Ytgednacoeifclaa
