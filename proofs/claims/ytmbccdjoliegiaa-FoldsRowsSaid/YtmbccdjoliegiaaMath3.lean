/-
  Plain facts: possible piles by the places of their leaves; turned, told from the other end, moved.
-/
import Derived.Test.YtmbccdjoliegiaaT1
namespace Go.Proofs.Ytmbccdjoliegiaa

/-- Two creases cross, by their places. -/
def xr (A B C D : Int) : Prop := ¬ ((min A B < C ∧ C < max A B) ↔ (min A B < D ∧ D < max A B))
theorem xr_symm {A B C D : Int} (h1 : A ≠ C) (h2 : A ≠ D) (h3 : B ≠ C) (h4 : B ≠ D) : xr A B C D ↔ xr C D A B := by unfold xr; omega
theorem xr_swap1 {A B C D : Int} : xr A B C D ↔ xr B A C D := by unfold xr; omega
theorem xr_swap2 {A B C D : Int} : xr A B C D ↔ xr A B D C := by unfold xr; omega
theorem xr_rev {A B C D n : Int} : xr A B C D ↔ xr (n - A) (n - B) (n - C) (n - D) := by unfold xr; omega

/-- The place of a leaf. -/
def pos (n : Nat) (z : Nat → Int) (x : Nat) : Int := ix n z x

theorem poss_iff {n : Nat} {z : Nat → Int} : poss n z = true ↔ ∀ i j, i < j → j + 1 < n → i % 2 = j % 2 → ¬ xr (pos n z i) (pos n z (i + 1)) (pos n z j) (pos n z (j + 1)) := by
  have key : ∀ i j, i < n - 1 → j < n - 1 → (crossAt n z (rowN 0 (n - 1)) i j = true ↔ (i % 2 = j % 2 ∧ xr (pos n z i) (pos n z (i + 1)) (pos n z j) (pos n z (j + 1)))) := by
    intro i j hi hj
    unfold crossAt crossB
    rw [rowN_at _ _ _ hi, rowN_at _ _ _ hj]
    simp only [around, Nat.zero_add]
    rw [Bool.and_eq_true, xor_between]
    simp only [beq_iff_eq, xr, pos]
    constructor
    · rintro ⟨h1, h2⟩; exact ⟨by omega, h2⟩
    · rintro ⟨h1, h2⟩; exact ⟨by omega, h2⟩
  unfold Go.Proofs.Ytmbccdjoliegiaa.poss posB
  rw [noXB_iff, rowN_len]
  constructor
  · intro h i j h1 h2 h3 hx
    have := h i j h1 (by omega)
    rw [(key i j (by omega) (by omega)).2 ⟨h3, hx⟩] at this
    cases this
  · intro h i j h1 h2
    cases e : crossAt n z (rowN 0 (n - 1)) i j
    · rfl
    · obtain ⟨h3, hx⟩ := (key i j (by omega) h2).1 e
      exact absurd hx (h i j h1 (by omega) h3)

/-- What the places of a pile are. -/
theorem pos_of {n : Nat} {z : Nat → Int} (h : goodP n z n) {k x : Nat} (hk : k < n) (hz : z k = x) : pos n z x = k :=
  ix_at k hk hz (fun j hj => by rw [← hz]; exact (h k hk).2.2.2 j hj)
theorem pos_at {n : Nat} {z : Nat → Int} (h : goodP n z n) {x : Nat} (hx : x < n) : ∃ k, k < n ∧ z k = x ∧ pos n z x = k := by
  obtain ⟨k, hk, hz⟩ := good_all h x hx
  exact ⟨k, hk, hz, pos_of h hk hz⟩
theorem pos_ne {n : Nat} {z : Nat → Int} (h : goodP n z n) {x y : Nat} (hx : x < n) (hy : y < n) (hxy : x ≠ y) : pos n z x ≠ pos n z y := by
  obtain ⟨k, _, hz, e⟩ := pos_at h hx
  obtain ⟨k', _, hz', e'⟩ := pos_at h hy
  rw [e, e']
  intro hh
  have : k = k' := by omega
  subst this
  omega

/-- A pile from another one: each place is a function of the old one. -/
theorem isP_iff' {n : Nat} {z : Nat → Int} : isP n z = true ↔ 1 ≤ n ∧ n ≤ 7 ∧ goodP n z n :=
  isP_iff.trans ⟨fun ⟨a, b, c⟩ => ⟨a, b, all_good (by omega) c⟩, fun ⟨a, b, c⟩ => ⟨a, b, good_all c⟩⟩

/-! ### Upside down -/
theorem good_up {n : Nat} {z : Nat → Int} (h : goodP n z n) : goodP n (upN n z) n := by
  intro j hj
  have := h (n - 1 - j) (by omega)
  refine ⟨this.1, this.2.1, this.2.2.1, fun i hi e => ?_⟩
  exact (h (n - 1 - i) (by omega)).2.2.2 (n - 1 - j) (by omega) e.symm
theorem pos_up {n : Nat} {z : Nat → Int} (h : goodP n z n) {x : Nat} (hx : x < n) : pos n (upN n z) x = (n : Int) - 1 - pos n z x := by
  obtain ⟨k, hk, hz, e⟩ := pos_at h hx
  rw [e, pos_of (good_up h) (k := n - 1 - k) (by omega) (by unfold upN; rw [← hz]; congr 1; omega)]
  omega
theorem poss_up {n : Nat} {z : Nat → Int} (h : goodP n z n) : poss n (upN n z) = poss n z := by
  rw [Bool.eq_iff_iff, poss_iff, poss_iff]
  have key : ∀ i j, i < j → j + 1 < n → (xr (pos n (upN n z) i) (pos n (upN n z) (i + 1)) (pos n (upN n z) j) (pos n (upN n z) (j + 1)) ↔ xr (pos n z i) (pos n z (i + 1)) (pos n z j) (pos n z (j + 1))) := by
    intro i j h1 h2
    rw [pos_up h (show i < n by omega), pos_up h (show i + 1 < n by omega), pos_up h (show j < n by omega), pos_up h (show j + 1 < n by omega)]
    exact (xr_rev (n := (n : Int) - 1)).symm
  exact ⟨fun hh i j h1 h2 h3 hx => hh i j h1 h2 h3 ((key i j h1 h2).2 hx), fun hh i j h1 h2 h3 hx => hh i j h1 h2 h3 ((key i j h1 h2).1 hx)⟩

/-! ### From the other end -/
theorem good_back {n : Nat} {z : Nat → Int} (hn : n ≤ 60) (h : goodP n z n) : goodP n (backN n z) n := by
  intro j hj
  have := h j hj
  unfold backN
  refine ⟨by omega, by omega, by omega, fun i hi e => this.2.2.2 i hi (by omega)⟩
theorem pos_back {n : Nat} {z : Nat → Int} (hn : n ≤ 60) (h : goodP n z n) {x : Nat} (hx : x < n) : pos n (backN n z) x = pos n z (n - 1 - x) := by
  obtain ⟨k, hk, hz, e⟩ := pos_at h (show n - 1 - x < n by omega)
  rw [e, pos_of (good_back hn h) hk (by unfold backN; omega)]
theorem poss_back {n : Nat} {z : Nat → Int} (hn : n ≤ 60) (h : goodP n z n) : poss n (backN n z) = poss n z := by
  rw [Bool.eq_iff_iff, poss_iff, poss_iff]
  have key : ∀ i j, i < j → j + 1 < n → i % 2 = j % 2 → (xr (pos n (backN n z) i) (pos n (backN n z) (i + 1)) (pos n (backN n z) j) (pos n (backN n z) (j + 1)) ↔
      xr (pos n z (n - 2 - j)) (pos n z (n - 2 - j + 1)) (pos n z (n - 2 - i)) (pos n z (n - 2 - i + 1))) := by
    intro i j h1 h2 h3
    rw [pos_back hn h (show i < n by omega), pos_back hn h (show i + 1 < n by omega), pos_back hn h (show j < n by omega), pos_back hn h (show j + 1 < n by omega)]
    rw [show n - 1 - i = n - 2 - i + 1 by omega, show n - 1 - (i + 1) = n - 2 - i by omega, show n - 1 - j = n - 2 - j + 1 by omega, show n - 1 - (j + 1) = n - 2 - j by omega]
    rw [xr_swap1, xr_swap2]
    exact xr_symm (pos_ne h (by omega) (by omega) (by omega)) (pos_ne h (by omega) (by omega) (by omega)) (pos_ne h (by omega) (by omega) (by omega)) (pos_ne h (by omega) (by omega) (by omega))
  constructor
  · intro hh i j h1 h2 h3 hx
    refine hh (n - 2 - j) (n - 2 - i) (by omega) (by omega) (by omega) ((key _ _ (by omega) (by omega) (by omega)).2 ?_)
    rw [show n - 2 - (n - 2 - i) = i by omega, show n - 2 - (n - 2 - j) = j by omega]
    exact hx
  · intro hh i j h1 h2 h3 hx
    exact hh (n - 2 - j) (n - 2 - i) (by omega) (by omega) (by omega) ((key i j h1 h2 h3).1 hx)

/-! ### The top leaves put at the bottom -/
/-- The first k leaves are put behind the others. -/
def rotN (n k : Nat) (z : Nat → Int) (x : Nat) : Int := if x < n - k then z (k + x) else z (x - (n - k))
theorem good_rot {n k : Nat} {z : Nat → Int} (hk : k < n) (h : goodP n z n) : goodP n (rotN n k z) n := by
  have inj : ∀ i j, i < n → j < n → i ≠ j → z i ≠ z j := fun i j hi hj hij => by
    rcases Nat.lt_or_gt_of_ne hij with hh | hh
    · exact (h j hj).2.2.2 i hh
    · exact fun e => (h i hi).2.2.2 j hh e.symm
  intro j hj
  have hr : ∀ x, x < n → ∃ y, y < n ∧ rotN n k z x = z y ∧ (y = k + x ∧ x < n - k ∨ y + (n - k) = x) := by
    intro x hx
    unfold rotN
    by_cases e : x < n - k
    · rw [if_pos e]; exact ⟨k + x, by omega, rfl, Or.inl ⟨rfl, e⟩⟩
    · rw [if_neg e]; exact ⟨x - (n - k), by omega, rfl, Or.inr (by omega)⟩
  obtain ⟨y, hy, e, hyj⟩ := hr j hj
  have := h y hy
  rw [e]
  refine ⟨this.1, this.2.1, this.2.2.1, fun i hi => ?_⟩
  obtain ⟨y', hy', e', hyi⟩ := hr i (by omega)
  rw [e']
  exact inj y' y hy' hy (by omega)
theorem pos_rot {n k : Nat} {z : Nat → Int} (hk : k < n) (h : goodP n z n) {x : Nat} (hx : x < n) : pos n (rotN n k z) x = if (k : Int) ≤ pos n z x then pos n z x - k else pos n z x + n - k := by
  obtain ⟨p, hp, hz, e⟩ := pos_at h hx
  rw [e]
  by_cases hkp : k ≤ p
  · rw [if_pos (by omega), pos_of (good_rot hk h) (k := p - k) (by omega) (by unfold rotN; rw [if_pos (by omega), ← hz]; congr 1; omega)]
    omega
  · rw [if_neg (by omega), pos_of (good_rot hk h) (k := p + (n - k)) (by omega) (by unfold rotN; rw [if_neg (by omega), ← hz]; congr 1; omega)]
    omega
theorem xr_rot {n k A B C D : Int} (hk : 0 ≤ k ∧ k < n) (hA : 0 ≤ A ∧ A < n) (hB : 0 ≤ B ∧ B < n) (hC : 0 ≤ C ∧ C < n) (hD : 0 ≤ D ∧ D < n) (h1 : A ≠ C) (h2 : A ≠ D) (h3 : B ≠ C) (h4 : B ≠ D) (hAB : A ≠ B) :
    xr (if k ≤ A then A - k else A + n - k) (if k ≤ B then B - k else B + n - k) (if k ≤ C then C - k else C + n - k) (if k ≤ D then D - k else D + n - k) ↔ xr A B C D := by
  unfold xr
  split <;> split <;> split <;> split <;> omega
theorem poss_rot {n k : Nat} {z : Nat → Int} (hk : k < n) (h : goodP n z n) : poss n (rotN n k z) = poss n z := by
  rw [Bool.eq_iff_iff, poss_iff, poss_iff]
  have bd : ∀ x, x < n → 0 ≤ pos n z x ∧ pos n z x < n := fun x hx => by
    obtain ⟨p, hp, _, e⟩ := pos_at h hx
    rw [e]; omega
  have key : ∀ i j, i < j → j + 1 < n → i % 2 = j % 2 → (xr (pos n (rotN n k z) i) (pos n (rotN n k z) (i + 1)) (pos n (rotN n k z) j) (pos n (rotN n k z) (j + 1)) ↔ xr (pos n z i) (pos n z (i + 1)) (pos n z j) (pos n z (j + 1))) := by
    intro i j h1 h2 h3
    rw [pos_rot hk h (show i < n by omega), pos_rot hk h (show i + 1 < n by omega), pos_rot hk h (show j < n by omega), pos_rot hk h (show j + 1 < n by omega)]
    exact xr_rot (by omega) (bd _ (by omega)) (bd _ (by omega)) (bd _ (by omega)) (bd _ (by omega)) (pos_ne h (by omega) (by omega) (by omega)) (pos_ne h (by omega) (by omega) (by omega)) (pos_ne h (by omega) (by omega) (by omega)) (pos_ne h (by omega) (by omega) (by omega)) (pos_ne h (by omega) (by omega) (by omega))
  exact ⟨fun hh i j h1 h2 h3 hx => hh i j h1 h2 h3 ((key i j h1 h2 h3).2 hx), fun hh i j h1 h2 h3 hx => hh i j h1 h2 h3 ((key i j h1 h2 h3).1 hx)⟩

end Go.Proofs.Ytmbccdjoliegiaa
