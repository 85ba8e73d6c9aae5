import Derived.Test.YtgednacoeifclaaD4
namespace Go.Proofs.Ytgednacoeifclaa
open Go.RowKit Go.Shelf

set_option maxHeartbeats 400000 in
theorem rgcd_any (a b : Nat) (w : World) (ha : a ≤ 9223372036854775807) (hb : b ≤ 9223372036854775807) :
    Calls Try.prog 76 #[.int .i64 a, .int .i64 b] w fun e w' => e = .returned (.int .i64 (Nat.gcd a b : Nat)) ∧ ∃ q, w' = w.drewN q := by
  go_enter Try.func76, Try.ntmps76
  go_wp2
  go_loopw [0, 1] (fun x y wr => ∃ p q : Nat, p ≤ 9223372036854775807 ∧ q ≤ 9223372036854775807 ∧ x = .int .i64 p ∧ y = .int .i64 q ∧ Hid (Nat.gcd p q = Nat.gcd a b) ∧ ∃ n, wr = w.drewN n) (fun _ y _ => (intOf y).toNat)
  case atStart => exact ⟨a, b, ha, hb, rfl, rfl, rfl, 0, rfl⟩
  case round =>
    obtain ⟨p, q, hp, hq, rfl, rfl, hg, n, rfl⟩ := hrel
    by_cases h0 : q = 0
    · subst h0
      have hg0 : Hid (p = Nat.gcd a b) := by have := hg.out; rw [Nat.gcd_zero_right] at this; exact this
      have G : (((0 : Nat) : Int) != 0) = false := rfl
      go_wp2
      go_ret
      exact ⟨by rw [← hg0.out]; rfl, _, rfl⟩
    · have G : ((q : Int) != 0) = true := by simp; omega
      have G2 : ((q : Int) == 0) = false := by simp; omega
      have hlt := Nat.mod_lt p (Nat.pos_of_ne_zero h0)
      have ht : ((p : Int).tmod (q : Int)) = ((p % q : Nat) : Int) := by rw [Int.tmod_eq_emod_of_nonneg (by omega)]; omega
      have hs : Hid (Nat.gcd q (p % q) = Nat.gcd a b) := (gcd_step p q).trans hg.out
      have HT := Lib.hid ht
      have HL := Lib.hid hlt
      clear ht hlt
      go_wp2
      go_quiet (fail)
      go_wp2
      go_roundw
      case rel => exact ⟨q, p % q, hq, by have := HL.out; omega, rfl, by first | rfl | (rw [HT.out]) | go_num, hs, _, World.drewN_drewN _ _ _⟩
      case measure => simp [intOf]; have := HL.out; omega

set_option maxHeartbeats 1000000 in
theorem rfrac_any (a : Int) (b : Nat) (w : World) (h0 : -9223372036854775807 ≤ a) (h2 : a ≤ 9223372036854775807) (hb : b ≤ 9223372036854775807) (h1 : 1 ≤ b) :
    Calls Try.prog 54 #[.int .i64 a, .int .i64 b] w fun e w' => QOut a b w e w' := by
  obtain ⟨g, hg⟩ : ∃ g, g = Nat.gcd a.natAbs b := ⟨_, rfl⟩
  have gpos : 0 < g := by rw [hg]; exact fr_gpos a h1
  have e1 : a.tdiv (g : Int) = frA a b := by rw [hg]; exact tdiv_dvd _ _ (fr_dvd a b)
  have e2 : (b : Int).tdiv (g : Int) = ((frB a b : Nat) : Int) := by rw [Int.tdiv_eq_ediv_of_nonneg (by omega), hg, ← Int.natCast_ediv]; rfl
  have b1 := frA_bd (a := a) (M := 9223372036854775807) h1 h0 h2
  have b2 := frB_le a b
  have hgle : g ≤ b := by rw [hg]; exact Nat.gcd_le_right _ (by omega)
  have G : ¬ g = 0 := by omega
  have e3 : a / (g : Int) = frA a b := by rw [hg]; rfl
  have e4 : (b : Int) / (g : Int) = ((frB a b : Nat) : Int) := by rw [hg, ← Int.natCast_ediv]; rfl
  have HG : Hid (Nat.gcd a.natAbs b = g) := hg.symm
  clear hg
  unfold QOut
  generalize frA a b = A at *
  generalize frB a b = B at *
  have E3 : Hid (wrap64 (a / (g : Int)) = A) := by rw [e3]; exact IntWalk.wrap64_in _ ⟨by omega, by omega⟩
  have E4 : Hid (wrap64 ((b : Int) / (g : Int)) = (B : Int)) := by rw [e4]; exact IntWalk.wrap64_in _ ⟨by omega, by omega⟩
  clear e3 e4
  have G2 : ((g : Int) == 0) = false := by simp; omega
  have E1 := Lib.hid e1
  have E2 := Lib.hid e2
  clear e1 e2
  by_cases hs : 0 ≤ a
  · obtain ⟨n, rfl⟩ : ∃ n : Nat, a = n := ⟨a.toNat, by omega⟩
    rw [Int.natAbs_natCast] at HG
    go_enter Try.func54, Try.ntmps54
    go_wp2_with fail
    refine (rgcd_any n b _ (by omega) (by omega)).mono ?_
    rintro e w' ⟨rfl, q, rfl⟩
    rw [HG.out]
    go_wp2_with fail
    go_region
    all_goals
      go_wp2
      have r1 := E1.out
      have r2 := E2.out
      have r3 := E3.out
      have r4 := E4.out
      exact bodyPost_ret (v := .agg #[.int .i64 A, .int .i64 (B : Int)]) (by simp [results, Try.results54, go_sem, r3, r4]) rfl ⟨rfl, by first | exact (below_drewN (below_one w _) _).drew | exact ((below_drewN (below_one w _) _).setCell (Nat.le_refl _) _).setCell (Nat.le_refl _) _ | exact Below.setCell (p := ⟨w.heap.size, 1, none⟩) (Below.setCell (p := ⟨w.heap.size, 0, none⟩) (below_drewN (below_one w _) _) (Nat.le_refl _) _) (Nat.le_refl _) _⟩
  · obtain ⟨n, rfl⟩ : ∃ n : Nat, a = -(n : Int) := ⟨(-a).toNat, by omega⟩
    rw [Int.natAbs_neg, Int.natAbs_natCast] at HG
    have hn1 : 0 < n := by omega
    have E6 : Hid (wrap64 (-((n : Int) / (g : Int))) = A) := by
      have h := E1.out
      rw [Int.neg_tdiv, Int.tdiv_eq_ediv_of_nonneg (by omega)] at h
      rw [Hid, h]; exact IntWalk.wrap64_in _ ⟨by omega, by omega⟩
    go_enter Try.func54, Try.ntmps54
    go_wp2_with fail
    refine (rgcd_any n b _ (by omega) (by omega)).mono ?_
    rintro e w' ⟨rfl, q, rfl⟩
    rw [HG.out]
    go_wp2_with fail
    go_region
    all_goals
      go_wp2
      have r1 := E1.out
      have r2 := E2.out
      have r3 := E3.out
      have r4 := E4.out
      have r5 := E6.out
      exact bodyPost_ret (v := .agg #[.int .i64 A, .int .i64 (B : Int)]) (by simp [results, Try.results54, go_sem, r4, r5]) rfl ⟨rfl, by first | exact (below_drewN (below_one w _) _).drew | exact ((below_drewN (below_one w _) _).setCell (Nat.le_refl _) _).setCell (Nat.le_refl _) _ | exact Below.setCell (p := ⟨w.heap.size, 1, none⟩) (Below.setCell (p := ⟨w.heap.size, 0, none⟩) (below_drewN (below_one w _) _) (Nat.le_refl _) _) (Nat.le_refl _) _⟩

set_option maxHeartbeats 1000000 in
theorem rpower_any (n k : Nat) (w : World) (hk : k ≤ 1000) (hb : ∀ j, j ≤ k → n ^ j ≤ 4611686018427387903) :
    Calls Try.prog 60 #[.int .i64 n, .int .i64 k] w fun e w' => e = .returned (.int .i64 ((n ^ k : Nat) : Int)) ∧ w = w' := by
  have HB := Lib.hid hb
  clear hb
  go_enter Try.func60, Try.ntmps60
  go_wp2
  go_loop [5, 7] (fun p i => ∃ j : Nat, j ≤ k ∧ i = .int .i64 j ∧ p = .int .i64 ((n ^ j : Nat) : Int)) (fun _ i => k - (intOf i).toNat)
  case atStart => exact ⟨0, Nat.zero_le _, rfl, by simp⟩
  case round =>
    obtain ⟨j, hj, rfl, rfl⟩ := hrel
    by_cases hlt : j < k
    · have e : n ^ (j + 1) = n ^ j * n := Nat.pow_succ ..
      have h1 := HB.out (j + 1) (by omega)
      obtain ⟨P, hP⟩ : ∃ P, P = n ^ j := ⟨_, rfl⟩
      have HP := Lib.hid hP
      rw [← hP] at e ⊢
      clear hP
      have u : wrap64 ((P : Int) * (n : Int)) = ((n ^ (j + 1) : Nat) : Int) := by rw [e, ← Int.natCast_mul]; exact IntWalk.wrap64_in _ ⟨by omega, by omega⟩
      have v := (IntWalk.i64_left _).trans u
      clear e h1
      go_wp2
      go_round
      case rel => exact ⟨j + 1, by omega, by go_num, by first | rfl | (rw [u])⟩
      case measure => simp [intOf]; omega
    · have e : j = k := by omega
      subst e
      go_wp2
      go_ret
      exact ⟨rfl, rfl⟩

/-- Taking the lowest kind away. -/
def lessB (t : Nat) : Bool := t == 0 || (bits .and .i64 (t : Int) ((t : Int) - 1) == ((t &&& (t - 1) : Nat) : Int) && decide ((t &&& (t - 1)) < t) && (pop t == pop (t &&& (t - 1)) + 1))
theorem less_all : (List.range 64).all lessB = true := by decide +kernel
theorem less_at {t : Nat} (ht : t < 64) (h0 : t ≠ 0) : bits .and .i64 (t : Int) ((t : Int) - 1) = ((t &&& (t - 1) : Nat) : Int) ∧ (t &&& (t - 1)) < t ∧ pop t = pop (t &&& (t - 1)) + 1 := by
  have := List.all_eq_true.1 less_all t (List.mem_range.2 ht)
  have hb : (t == 0) = false := by simpa using h0
  simp only [lessB, hb, Bool.false_or, Bool.and_eq_true, decide_eq_true_eq, beq_iff_eq] at this
  exact ⟨this.1.1, this.1.2, this.2⟩
def oddB (s : Nat) : Bool := pop s % 2 == 1

set_option maxHeartbeats 1000000 in
theorem rodd_any (s : Nat) (w : World) (hs : s < 64) :
    Calls Try.prog 61 #[.int .i64 s] w fun e w' => e = .returned (.bool (oddB s)) ∧ w = w' := by
  have hp6 := pop_le s
  go_enter Try.func61, Try.ntmps61
  go_wp2
  go_loop [0, 3] (fun t c => ∃ x m : Nat, x < 64 ∧ t = .int .i64 x ∧ c = .int .i64 m ∧ Hid (m + pop x = pop s)) (fun t _ => (intOf t).toNat)
  case atStart => exact ⟨s, 0, hs, rfl, rfl, by simp [Hid]⟩
  case round =>
    obtain ⟨x, m, hx, rfl, rfl, hr⟩ := hrel
    have hm6 : m ≤ 6 := by have := hr.out; omega
    by_cases h0 : x = 0
    · subst h0
      have hm : Hid (m = pop s) := by have := hr.out; have e : pop 0 = 0 := by decide +kernel
                                      rw [e] at this; exact this
      have hms : m ≤ 6 := hm6
      have HG : Hid ((((m : Nat) : Int) % 2 == 1) = oddB s) := by
        unfold Hid oddB; rw [← hm.out, Bool.eq_iff_iff]; simp; omega
      have h00 : ¬ (0 : Int) < ((0 : Nat) : Int) := by omega
      go_wp2
      go_ret
      exact ⟨by rw [← HG.out]; rfl, rfl⟩
    · obtain ⟨e1, e2, e3⟩ := less_at hx h0
      have HE1 := Lib.hid e1
      have HN : Hid ((m + 1) + pop (x &&& (x - 1)) = pop s) := by have := hr.out; unfold Hid; omega
      have hpos : (0 : Int) < (x : Int) := by omega
      clear e1 e3
      go_wp2
      go_round
      case rel => exact ⟨x &&& (x - 1), m + 1, by omega, by rw [HE1.out], by go_num, HN⟩
      case measure => simp [intOf, HE1.out]; omega
end Go.Proofs.Ytgednacoeifclaa
