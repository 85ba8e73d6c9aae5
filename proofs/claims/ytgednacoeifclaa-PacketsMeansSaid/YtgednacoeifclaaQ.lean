import Derived.Test.YtgednacoeifclaaMem
/-
  Fractions in lowest terms: plain facts.
-/
namespace Go.Proofs.Ytgednacoeifclaa

/-- The numerator and the denominator of a / L in lowest terms. -/
def frA (a : Int) (L : Nat) : Int := a / ((Nat.gcd a.natAbs L : Nat) : Int)
def frB (a : Int) (L : Nat) : Nat := L / Nat.gcd a.natAbs L

theorem fr_gpos (a : Int) {L : Nat} (h : 0 < L) : 0 < Nat.gcd a.natAbs L := Nat.gcd_pos_of_pos_right _ h
theorem fr_dvd (a : Int) (L : Nat) : ((Nat.gcd a.natAbs L : Nat) : Int) ∣ a := Int.ofNat_dvd_left.2 (Nat.gcd_dvd_left _ _)
theorem frA_mul (a : Int) (L : Nat) : frA a L * ((Nat.gcd a.natAbs L : Nat) : Int) = a := Int.ediv_mul_cancel (fr_dvd a L)
theorem frB_mul (a : Int) (L : Nat) : frB a L * Nat.gcd a.natAbs L = L := Nat.div_mul_cancel (Nat.gcd_dvd_right _ _)
theorem frB_pos (a : Int) {L : Nat} (h : 0 < L) : 0 < frB a L := by
  have := frB_mul a L
  rcases Nat.eq_zero_or_pos (frB a L) with h0 | h0
  · rw [h0] at this; omega
  · exact h0
theorem frB_le (a : Int) (L : Nat) : frB a L ≤ L := Nat.div_le_self _ _
theorem frA_abs (a : Int) {L : Nat} (h : 0 < L) : (frA a L).natAbs ≤ a.natAbs := by
  have h1 := frA_mul a L
  have h2 : (frA a L).natAbs * Nat.gcd a.natAbs L = a.natAbs := by
    have := congrArg Int.natAbs h1
    rw [Int.natAbs_mul] at this
    simpa using this
  have h3 := fr_gpos a h
  calc (frA a L).natAbs ≤ (frA a L).natAbs * Nat.gcd a.natAbs L := Nat.le_mul_of_pos_right _ h3
    _ = a.natAbs := h2
theorem frA_bd {a : Int} {L : Nat} {M : Int} (h : 0 < L) (h1 : -M ≤ a) (h2 : a ≤ M) : -M ≤ frA a L ∧ frA a L ≤ M := by
  have := frA_abs a h
  omega
theorem frA_neg (a : Int) (L : Nat) : frA (-a) L = - frA a L := by
  unfold frA
  rw [Int.natAbs_neg]
  exact Int.neg_ediv_of_dvd (fr_dvd a L)
theorem frB_neg (a : Int) (L : Nat) : frB (-a) L = frB a L := by unfold frB; rw [Int.natAbs_neg]
theorem fr_scale (a : Int) (L : Nat) {c : Nat} (hc : 0 < c) : frA (a * c) (L * c) = frA a L ∧ frB (a * c) (L * c) = frB a L := by
  have e : Nat.gcd (a * (c : Int)).natAbs (L * c) = Nat.gcd a.natAbs L * c := by
    rw [Int.natAbs_mul, Int.natAbs_natCast]; exact Nat.gcd_mul_right _ _ _
  unfold frA frB
  rw [e, Int.natCast_mul]
  exact ⟨Int.mul_ediv_mul_of_pos_left _ _ (by omega), Nat.mul_div_mul_right _ _ hc⟩
theorem fr_same {a b : Int} {L K : Nat} (hL : 0 < L) (hK : 0 < K) (h : a * K = b * L) : frA a L = frA b K ∧ frB a L = frB b K := by
  have h1 := fr_scale a L hK
  have h2 := fr_scale b K hL
  rw [h, Nat.mul_comm L K] at h1
  exact ⟨h1.1.symm.trans h2.1, h1.2.symm.trans h2.2⟩
theorem fr_same_iff {a b : Int} {L K : Nat} (hL : 0 < L) (hK : 0 < K) : (frA a L = frA b K ∧ frB a L = frB b K) ↔ a * K = b * L := by
  refine ⟨fun ⟨h1, h2⟩ => ?_, fr_same hL hK⟩
  have e1 := frA_mul a L
  have e2 := frB_mul a L
  have e3 := frA_mul b K
  have e4 := frB_mul b K
  rw [h1] at e1
  rw [h2] at e2
  have hK' : (K : Int) = (frB b K : Int) * (Nat.gcd b.natAbs K : Nat) := by rw [← Int.natCast_mul, e4]
  have hL' : (L : Int) = (frB b K : Int) * (Nat.gcd a.natAbs L : Nat) := by rw [← Int.natCast_mul, e2]
  generalize ((Nat.gcd a.natAbs L : Nat) : Int) = g at *
  generalize ((Nat.gcd b.natAbs K : Nat) : Int) = g' at *
  grind
theorem frA_sign {a : Int} {L : Nat} (h : 0 < L) : (0 ≤ frA a L ↔ 0 ≤ a) ∧ (frA a L = 0 ↔ a = 0) := by
  have h1 := frA_mul a L
  have h3 : (0 : Int) < ((Nat.gcd a.natAbs L : Nat) : Int) := by have := fr_gpos a h; omega
  constructor
  · constructor
    · intro h4; rw [← h1]; exact Int.mul_nonneg h4 (by omega)
    · intro h4; exact Int.ediv_nonneg h4 (by omega)
  · constructor
    · intro h4; rw [h4] at h1; omega
    · intro h4; subst h4; simp [frA]
theorem fr_zero {L : Nat} (h : 0 < L) : frA 0 L = 0 ∧ frB 0 L = 1 := by
  unfold frA frB
  simp
  exact Nat.div_self h
theorem fr_one (a : Int) : frA a 1 = a ∧ frB a 1 = 1 := by unfold frA frB; simp

/-- The sum of two fractions over one denominator, as it is worked out. -/
theorem fr_plus (a b : Int) {L d : Nat} (hL : 0 < L) (hd : d = Nat.gcd (frB a L) (frB b L)) :
    ∃ K : Nat, 0 < K ∧ (frB a L / d * frB b L) * K = L ∧ (frA a L * ((frB b L / d : Nat) : Int)) * K = a ∧ (frA b L * ((frB a L / d : Nat) : Int)) * K = b := by
  have ha := frB_mul a L
  have hb := frB_mul b L
  have hpa := frB_pos a hL
  have hpb := frB_pos b hL
  have hd0 : 0 < d := by rw [hd]; exact Nat.gcd_pos_of_pos_left _ hpa
  obtain ⟨x, hx⟩ : ∃ x, frB a L = d * x := by rw [hd]; exact Nat.gcd_dvd_left _ _
  obtain ⟨y, hy⟩ : ∃ y, frB b L = d * y := by rw [hd]; exact Nat.gcd_dvd_right _ _
  have hco : Nat.gcd x y = 1 := by
    have h1 : Nat.gcd (d * x) (d * y) = d := by rw [← hx, ← hy]; exact hd.symm
    rw [Nat.gcd_mul_left] at h1
    exact Nat.eq_of_mul_eq_mul_left hd0 (by rw [h1, Nat.mul_one])
  have hxd : frB a L / d = x := by rw [hx]; exact Nat.mul_div_cancel_left _ hd0
  have hyd : frB b L / d = y := by rw [hy]; exact Nat.mul_div_cancel_left _ hd0
  -- y divides the cofactor of a
  have hxg : d * x * Nat.gcd a.natAbs L = d * y * Nat.gcd b.natAbs L := by rw [← hx, ← hy, ha, hb]
  have hxg2 : x * Nat.gcd a.natAbs L = y * Nat.gcd b.natAbs L := by
    apply Nat.eq_of_mul_eq_mul_left hd0
    rw [← Nat.mul_assoc, ← Nat.mul_assoc]; exact hxg
  have hydvd : y ∣ Nat.gcd a.natAbs L := by
    have : y ∣ x * Nat.gcd a.natAbs L := ⟨_, hxg2⟩
    exact Nat.Coprime.dvd_of_dvd_mul_left (k := y) (m := x) (by rw [Nat.Coprime, Nat.gcd_comm]; exact hco) this
  obtain ⟨K, hK⟩ := hydvd
  have hyp : 0 < y := by
    rcases Nat.eq_zero_or_pos y with h | h
    · rw [h] at hy; omega
    · exact h
  have hK2 : Nat.gcd b.natAbs L = x * K := by
    rw [hK] at hxg2
    apply Nat.eq_of_mul_eq_mul_left hyp
    rw [← hxg2, Nat.mul_left_comm]
  have hKp : 0 < K := by
    rcases Nat.eq_zero_or_pos K with h | h
    · have := fr_gpos a hL; rw [hK, h] at this; simp at this
    · exact h
  refine ⟨K, hKp, ?_, ?_, ?_⟩
  · rw [hxd, hy, ← ha, hx, hK]
    simp only [Nat.mul_comm, Nat.mul_left_comm]
  · rw [hyd]
    have := frA_mul a L
    rw [hK, Int.natCast_mul, ← Int.mul_assoc] at this
    exact this
  · rw [hxd]
    have := frA_mul b L
    rw [hK2, Int.natCast_mul, ← Int.mul_assoc] at this
    exact this

/-- A fraction times a number, as it is worked out. -/
theorem fr_times (a : Int) (n : Nat) {L d : Nat} (hL : 0 < L) (hn : 0 < n) (hd : d = Nat.gcd n (frB a L)) :
    frA a L * ((n / d : Nat) : Int) = frA (a * n) L ∧ frB a L / d = frB (a * n) L := by
  have hpa := frB_pos a hL
  have hd0 : 0 < d := by rw [hd]; exact Nat.gcd_pos_of_pos_left _ hn
  obtain ⟨x, hx⟩ : ∃ x, n = d * x := by rw [hd]; exact Nat.gcd_dvd_left _ _
  obtain ⟨y, hy⟩ : ∃ y, frB a L = d * y := by rw [hd]; exact Nat.gcd_dvd_right _ _
  have hxd : n / d = x := by rw [hx]; exact Nat.mul_div_cancel_left _ hd0
  have hyd : frB a L / d = y := by rw [hy]; exact Nat.mul_div_cancel_left _ hd0
  have hyp : 0 < y := by
    rcases Nat.eq_zero_or_pos y with h | h
    · rw [h] at hy; omega
    · exact h
  rw [hxd, hyd]
  have hco : Nat.gcd x y = 1 := by
    have h1 : Nat.gcd (d * x) (d * y) = d := by rw [← hx, ← hy]; exact hd.symm
    rw [Nat.gcd_mul_left] at h1
    exact Nat.eq_of_mul_eq_mul_left hd0 (by rw [h1, Nat.mul_one])
  have ha := frA_mul a L
  have hb := frB_mul a L
  have hco2 : Nat.gcd (frA a L).natAbs (frB a L) = 1 := by
    have hg := fr_gpos a hL
    have h2 : Nat.gcd ((frA a L).natAbs * Nat.gcd a.natAbs L) (frB a L * Nat.gcd a.natAbs L) = Nat.gcd a.natAbs L := by
      rw [hb]
      have : (frA a L).natAbs * Nat.gcd a.natAbs L = a.natAbs := by
        have := congrArg Int.natAbs ha
        rw [Int.natAbs_mul] at this
        simpa using this
      rw [this]
    rw [Nat.gcd_mul_right] at h2
    exact Nat.eq_of_mul_eq_mul_right hg (by rw [h2, Nat.one_mul])
  have hco3 : Nat.gcd (frA a L).natAbs y = 1 := by
    have : Nat.gcd (frA a L).natAbs y ∣ 1 := by
      rw [← hco2]
      exact Nat.dvd_gcd (Nat.gcd_dvd_left _ _) (Nat.dvd_trans (Nat.gcd_dvd_right _ _) ⟨d, by rw [hy, Nat.mul_comm]⟩)
    exact Nat.dvd_one.1 this
  have hco4 : Nat.gcd (frA a L * (x : Int)).natAbs y = 1 := by
    rw [Int.natAbs_mul, Int.natAbs_natCast]
    exact Nat.Coprime.mul_left hco3 hco
  -- (a n) / L = (frA a L x) / y
  have hs := fr_same (a := frA a L * (x : Int)) (b := a * n) (L := y) (K := L) hyp hL (by
    have e1 : (L : Int) = (d : Int) * y * (Nat.gcd a.natAbs L : Nat) := by rw [← Int.natCast_mul, ← hy, ← Int.natCast_mul, hb]
    have e2 : (n : Int) = (d : Int) * x := by rw [← Int.natCast_mul, ← hx]
    generalize ((Nat.gcd a.natAbs L : Nat) : Int) = g at *
    grind)
  rw [← hs.1, ← hs.2]
  generalize frA a L * (x : Int) = u at hco4 ⊢
  unfold frA frB
  rw [hco4]
  simp
end Go.Proofs.Ytgednacoeifclaa
