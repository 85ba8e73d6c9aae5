/-
  Plain facts: a pile without its last leaf.
-/
import Derived.Test.YtmbccdjoliegiaaT3
namespace Go.Proofs.Ytmbccdjoliegiaa

def shr (p A : Int) : Int := if A < p then A else A - 1
theorem xr_shr {p A B C D : Int} (hA : A ≠ p) (hB : B ≠ p) (hC : C ≠ p) (hD : D ≠ p) : xr (shr p A) (shr p B) (shr p C) (shr p D) ↔ xr A B C D := by
  unfold xr shr
  split <;> split <;> split <;> split <;> omega

section
variable {n : Nat} {z : Nat → Int}
/-- The last leaf's place, and what is left. -/
theorem open_facts (h : goodP n z n) (h2 : 2 ≤ n) : ∃ p, p < n ∧ z p = ((n - 1 : Nat) : Int) ∧ pos n z (n - 1) = p ∧ (∀ j, opN n z j = if j < p then z j else z (j + 1)) := by
  obtain ⟨p, hpn, hzp, hpos⟩ := pos_at h (show n - 1 < n by omega)
  have hix : ix n z ((n : Int) - 1) = p := by
    have : ((n - 1 : Nat) : Int) = (n : Int) - 1 := by omega
    rw [← this]; exact hpos
  refine ⟨p, hpn, hzp, hpos, fun j => ?_⟩
  unfold opN catN
  rw [hix]
  simp only [Int.toNat_natCast]
  by_cases e : j < p
  · rw [if_pos e, if_pos e]
  · rw [if_neg e, if_neg e]; congr 1; omega

theorem good_open (h : goodP n z n) (h2 : 2 ≤ n) : goodP (n - 1) (opN n z) (n - 1) := by
  obtain ⟨p, hpn, hzp, hpos, ho⟩ := open_facts h h2
  have inj : ∀ i j, i < n → j < n → i ≠ j → z i ≠ z j := fun i j hi hj hij => by
    rcases Nat.lt_or_gt_of_ne hij with hh | hh
    · exact (h j hj).2.2.2 i hh
    · exact fun e => (h i hi).2.2.2 j hh e.symm
  have hr : ∀ x, x < n - 1 → ∃ y, y < n ∧ y ≠ p ∧ opN n z x = z y ∧ (x < p ∧ y = x ∨ p ≤ x ∧ y = x + 1) := by
    intro x hx
    rw [ho]
    by_cases e : x < p
    · rw [if_pos e]; exact ⟨x, by omega, by omega, rfl, Or.inl ⟨e, rfl⟩⟩
    · rw [if_neg e]; exact ⟨x + 1, by omega, by omega, rfl, Or.inr ⟨by omega, rfl⟩⟩
  intro j hj
  obtain ⟨y, hy, hyp, e, hyj⟩ := hr j hj
  have h1 := h y hy
  have h3 := inj y p hy hpn hyp
  rw [e]
  refine ⟨h1.1, by omega, h1.2.2.1, fun i hi => ?_⟩
  obtain ⟨y', hy', _, e', hyi⟩ := hr i (by omega)
  rw [e']
  exact inj y' y hy' hy (by omega)

theorem pos_open (h : goodP n z n) (h2 : 2 ≤ n) : ∃ p : Int, (∀ x, x < n - 1 → pos n z x ≠ p ∧ pos (n - 1) (opN n z) x = shr p (pos n z x)) := by
  obtain ⟨p, hpn, hzp, hpos, ho⟩ := open_facts h h2
  refine ⟨p, fun x hx => ?_⟩
  obtain ⟨k, hk, hz, e⟩ := pos_at h (show x < n by omega)
  have hkp : k ≠ p := fun hh => by subst hh; omega
  refine ⟨by rw [e]; omega, ?_⟩
  rw [e]
  unfold shr
  by_cases hlt : k < p
  · rw [if_pos (by omega), pos_of (good_open h h2) (k := k) (by omega) (by rw [ho, if_pos hlt]; exact hz)]
  · rw [if_neg (by omega), pos_of (good_open h h2) (k := k - 1) (by omega) (by rw [ho, if_neg (by omega), ← hz]; congr 1; omega)]
    omega

theorem poss_open (h : goodP n z n) (h2 : 2 ≤ n) (hp : poss n z = true) : poss (n - 1) (opN n z) = true := by
  obtain ⟨p, hq⟩ := pos_open h h2
  rw [poss_iff] at hp ⊢
  intro i j h3 h4 h5
  have a1 := hq i (by omega)
  have a2 := hq (i + 1) (by omega)
  have a3 := hq j (by omega)
  have a4 := hq (j + 1) (by omega)
  rw [a1.2, a2.2, a3.2, a4.2, xr_shr a1.1 a2.1 a3.1 a4.1]
  exact hp i j h3 (by omega) h5

theorem mtB_open (h : goodP n z n) (h2 : 2 ≤ n) {i : Nat} (hi : i + 1 < n - 1) : mtB (n - 1) (opN n z) i = mtB n z i := by
  obtain ⟨p, hq⟩ := pos_open h h2
  have a1 := hq i (by omega)
  have a2 := hq (i + 1) (by omega)
  show (decide (pos (n - 1) (opN n z) i < pos (n - 1) (opN n z) (i + 1)) == decide (i % 2 = 0)) = (decide (pos n z i < pos n z (i + 1)) == decide (i % 2 = 0))
  have : decide (pos (n - 1) (opN n z) i < pos (n - 1) (opN n z) (i + 1)) = decide (pos n z i < pos n z (i + 1)) := by
    rw [decide_eq_decide, a1.2, a2.2]
    have := a1.1
    have := a2.1
    unfold shr
    split <;> split <;> omega
  rw [this]
end

/-- What goes on while leaves are taken off: a pile of k leaves with the first creases of the one that was. -/
structure Left (n : Nat) (z : Nat → Int) (k : Nat) (y : Nat → Int) : Prop where
  le : k ≤ n
  one : 1 ≤ k
  seven : n ≤ 7
  good : goodP k y k
  can : poss k y = true
  same : ∀ i, i + 1 < k → mtB k y i = mtB n z i
theorem Left.isP {n k : Nat} {z y : Nat → Int} (h : Left n z k y) : Go.Proofs.Ytmbccdjoliegiaa.isP k y = true := isP_iff'.2 ⟨h.one, by have := h.le; have := h.seven; omega, h.good⟩
theorem Left.next {n j : Nat} {z y : Nat → Int} (h : Left n z (j + 2) y) : Left n z (j + 1) (opN (j + 2) y) := by
  have hg := good_open h.good (show 2 ≤ j + 2 by omega)
  have hc := poss_open h.good (show 2 ≤ j + 2 by omega) h.can
  rw [show j + 2 - 1 = j + 1 by omega] at hg hc
  refine ⟨by have := h.le; omega, by omega, h.seven, hg, hc, fun i hi => ?_⟩
  have := mtB_open h.good (show 2 ≤ j + 2 by omega) (i := i) (by omega)
  rw [show j + 2 - 1 = j + 1 by omega] at this
  rw [this]
  exact h.same i (by omega)
theorem Left.mts {n j : Nat} {z y : Nat → Int} (h : Left n z (j + 1) y) : Go.Proofs.Ytmbccdjoliegiaa.mts (j + 1) y j = Go.Proofs.Ytmbccdjoliegiaa.mts n z (n - 1) &&& (2 ^ j - 1) := by
  refine Nat.eq_of_testBit_eq fun x => ?_
  rw [Nat.testBit_and, mts_bit, mts_bit, Nat.testBit_two_pow_sub_one]
  by_cases e : x < j
  · have hle := h.le
    rw [h.same x (by omega)]
    have e2 : decide (x < n - 1) = true := by simp; omega
    simp [e, e2]
  · simp [e]
theorem Left.last {n : Nat} {z y : Nat → Int} (h : Left n z 1 y) : y 0 = 0 := by
  have := h.good 0 (by omega)
  omega

end Go.Proofs.Ytmbccdjoliegiaa
