import Derived.Test.YtaglbnblfhfkeaaMath3
/-
  Plain mathematics: a matrix has at most 400 basic moves.
-/
namespace Go.Proofs.Ytaglbnblfhfkeaa
open Vec

theorem le_of_mul {D x y : Int} (hD : 0 < D) (h : D * x ≤ D * y) : x ≤ y := Int.le_of_mul_le_mul_left h hD

theorem dom_zero {a b P Q P' : Int} (hP : 0 ≤ P) (hQ : 0 ≤ Q) (hP' : 0 ≤ P') (hle : P' ≤ P) (g : 0 ≤ a * P + b * Q) (hL : ¬ (a < 0 ∧ 0 < b)) : a * P' ≤ a * P := by
  by_cases ha : 0 ≤ a
  · exact Int.mul_le_mul_of_nonneg_left hle ha
  · have hb : b ≤ 0 := by omega
    have h1 : b * Q ≤ 0 := Int.mul_nonpos_of_nonpos_of_nonneg hb hQ
    have hP0 : P = 0 := by
      refine Classical.byContradiction fun h => ?_
      have : a * P < 0 := Int.mul_neg_of_neg_of_pos (by omega) (by omega)
      omega
    have hP0' : P' = 0 := by omega
    rw [hP0, hP0']; exact Int.le_refl _

theorem dom_lower {a b c d P Q P' Q' : Int} (hP : 0 ≤ P) (hQ : 0 ≤ Q) (hP' : 0 ≤ P') (hle : P' ≤ P) (g : 0 ≤ a * P + b * Q) (h : 0 ≤ c * P + d * Q) (ha : a < 0) (hb : 0 < b)
    (ht : 0 ≤ c * b - d * a ∨ ¬ (c < 0 ∧ 0 < d)) (e : a * P + b * Q = a * P' + b * Q') : Q' ≤ Q ∧ c * P' + d * Q' ≤ c * P + d * Q := by
  have hbu : b * (Q - Q') = (-a) * (P - P') := by grind
  have hu : Q' ≤ Q := by
    have h1 : 0 ≤ (-a) * (P - P') := Int.mul_nonneg (by omega) (by omega)
    refine Classical.byContradiction fun hh => ?_
    have : b * (Q - Q') < 0 := Int.mul_neg_of_pos_of_neg hb (by omega)
    omega
  refine ⟨hu, ?_⟩
  have key : b * (c * (P - P') + d * (Q - Q')) = (c * b - d * a) * (P - P') := by grind
  have fin : 0 ≤ (c * b - d * a) * (P - P') := by
    by_cases hk : 0 ≤ c * b - d * a
    · exact Int.mul_nonneg hk (by omega)
    · have hL := ht.resolve_left hk
      have hP0 : P = 0 := by
        refine Classical.byContradiction fun hne => ?_
        by_cases hc : 0 ≤ c
        · have hcb : 0 ≤ c * b := Int.mul_nonneg hc (by omega)
          have hd : d < 0 := by
            refine Classical.byContradiction fun hh => ?_
            have : d * a ≤ 0 := Int.mul_nonpos_of_nonneg_of_nonpos (by omega) (by omega)
            omega
          have h1 : 0 ≤ b * (c * P + d * Q) := Int.mul_nonneg (by omega) h
          have h2 : 0 ≤ (-d) * (a * P + b * Q) := Int.mul_nonneg (by omega) g
          have h3 : b * (c * P + d * Q) + (-d) * (a * P + b * Q) = (c * b - d * a) * P := by grind
          have h4 : (c * b - d * a) * P < 0 := Int.mul_neg_of_neg_of_pos (by omega) (by omega)
          omega
        · have hd : d ≤ 0 := by omega
          have h1 : c * P < 0 := Int.mul_neg_of_neg_of_pos (by omega) (by omega)
          have h2 : d * Q ≤ 0 := Int.mul_nonpos_of_nonpos_of_nonneg hd hQ
          omega
      have : P - P' = 0 := by omega
      rw [this]; simp
  have h5 : 0 ≤ c * (P - P') + d * (Q - Q') := by
    refine Classical.byContradiction fun hh => ?_
    have : b * (c * (P - P') + d * (Q - Q')) < 0 := Int.mul_neg_of_pos_of_neg hb (by omega)
    omega
  simp only [Int.mul_sub] at h5
  omega

/-- In a sector of the plane one of three numbers tells a vector that no other one dominates. -/
theorem sector {D : Int} (hD : 0 < D) (a b c d : Int) : ∃ w : Nat, w < 3 ∧ ∀ P Q U V P' Q' U' V' : Int, 0 ≤ P → 0 ≤ Q → 0 ≤ U → 0 ≤ V → 0 ≤ P' → 0 ≤ Q' →
    D * U = a * P + b * Q → D * V = c * P + d * Q → D * U' = a * P' + b * Q' → D * V' = c * P' + d * Q' → (w = 0 → Q = Q') → (w = 1 → U = U') → (w = 2 → V = V') → P' ≤ P → Q' ≤ Q ∧ U' ≤ U ∧ V' ≤ V := by
  by_cases h1 : (a < 0 ∧ 0 < b) ∧ (0 ≤ c * b - d * a ∨ ¬ (c < 0 ∧ 0 < d))
  · refine ⟨1, by omega, fun P Q U V P' Q' U' V' hP hQ hU hV hP' hQ' e1 e2 e3 e4 _ w1 _ hle => ?_⟩
    have hUU := w1 rfl
    have g : 0 ≤ a * P + b * Q := by rw [← e1]; exact Int.mul_nonneg (by omega) hU
    have h : 0 ≤ c * P + d * Q := by rw [← e2]; exact Int.mul_nonneg (by omega) hV
    obtain ⟨k1, k2⟩ := dom_lower hP hQ hP' hle g h h1.1.1 h1.1.2 h1.2 (by rw [← e1, ← e3, hUU])
    exact ⟨k1, by omega, le_of_mul hD (by rw [e2, e4]; exact k2)⟩
  · by_cases h2 : c < 0 ∧ 0 < d
    · refine ⟨2, by omega, fun P Q U V P' Q' U' V' hP hQ hU hV hP' hQ' e1 e2 e3 e4 _ _ w2 hle => ?_⟩
      have hVV := w2 rfl
      have g : 0 ≤ a * P + b * Q := by rw [← e1]; exact Int.mul_nonneg (by omega) hU
      have h : 0 ≤ c * P + d * Q := by rw [← e2]; exact Int.mul_nonneg (by omega) hV
      have ht : 0 ≤ a * d - b * c ∨ ¬ (a < 0 ∧ 0 < b) := by
        by_cases hL : a < 0 ∧ 0 < b
        · left
          have : ¬ (0 ≤ c * b - d * a) := fun hh => h1 ⟨hL, Or.inl hh⟩
          rw [Int.mul_comm a d, Int.mul_comm b c]; omega
        · exact Or.inr hL
      obtain ⟨k1, k2⟩ := dom_lower hP hQ hP' hle h g h2.1 h2.2 ht (by rw [← e2, ← e4, hVV])
      exact ⟨k1, le_of_mul hD (by rw [e1, e3]; exact k2), by omega⟩
    · have hL1 : ¬ (a < 0 ∧ 0 < b) := fun hL => h1 ⟨hL, Or.inr h2⟩
      refine ⟨0, by omega, fun P Q U V P' Q' U' V' hP hQ hU hV hP' hQ' e1 e2 e3 e4 w0 _ _ hle => ?_⟩
      have hQQ := w0 rfl
      have g : 0 ≤ a * P + b * Q := by rw [← e1]; exact Int.mul_nonneg (by omega) hU
      have h : 0 ≤ c * P + d * Q := by rw [← e2]; exact Int.mul_nonneg (by omega) hV
      have k1 := dom_zero hP hQ hP' hle g hL1
      have k2 := dom_zero hP hQ hP' hle h h2
      subst hQQ
      exact ⟨Int.le_refl _, le_of_mul hD (by rw [e1, e3]; omega), le_of_mul hD (by rw [e2, e4]; omega)⟩

/-! ### Coordinates -/
theorem fits_at {x y : Vec} : fits x y ↔ ∀ c, c < 4 → fit1 (x.at' c) (y.at' c) := by
  constructor
  · rintro ⟨h0, h1, h2, h3⟩ c hc
    match c, hc with
    | 0, _ => exact h0
    | 1, _ => exact h1
    | 2, _ => exact h2
    | 3, _ => exact h3
  · intro h; exact ⟨h 0 (by omega), h 1 (by omega), h 2 (by omega), h 3 (by omega)⟩
theorem cols_at {n : Nat} (hn : 1 ≤ n) {v : Vec} : inCols n v ↔ ∀ c, c < 4 → n ≤ c → v.at' c = 0 := by
  constructor
  · rintro ⟨h1, h2, h3⟩ c hc hnc
    match c, hc with
    | 0, _ => omega
    | 1, _ => exact h1 (by omega)
    | 2, _ => exact h2 (by omega)
    | 3, _ => exact h3 (by omega)
  · intro h; exact ⟨fun k => h 1 (by omega) (by omega), fun k => h 2 (by omega) (by omega), fun k => h 3 (by omega) (by omega)⟩
theorem at_stepTo {v : Vec} {j c : Nat} {k : Int} (hj : j < 4) (hc : c < 4) : (stepTo v j k).at' c = if c = j then v.at' c + k else v.at' c := by
  match j, hj, c, hc with
  | 0, _, 0, _ | 0, _, 1, _ | 0, _, 2, _ | 0, _, 3, _ => simp [stepTo, at']
  | 1, _, 0, _ | 1, _, 1, _ | 1, _, 2, _ | 1, _, 3, _ => simp [stepTo, at']
  | 2, _, 0, _ | 2, _, 1, _ | 2, _, 2, _ | 2, _, 3, _ => simp [stepTo, at']
  | 3, _, 0, _ | 3, _, 1, _ | 3, _, 2, _ | 3, _, 3, _ => simp [stepTo, at']
theorem ext_at {x y : Vec} (h : ∀ c, c < 4 → x.at' c = y.at' c) : x = y := ext4 (h 0 (by omega)) (h 1 (by omega)) (h 2 (by omega)) (h 3 (by omega))
theorem ne_zero_at {x : Vec} {c : Nat} (h : x.at' c ≠ 0) : x ≠ zero := fun e => h (by rw [e, zero_at])

/-- Two numbers, all else 0. -/
def two (j : Nat) (s : Int) (i : Nat) (t : Int) : Vec := stepTo (stepTo zero j s) i t
theorem two_at {j i c : Nat} {s t : Int} (hj : j < 4) (hi : i < 4) (hc : c < 4) : (two j s i t).at' c = (if c = j then s else 0) + (if c = i then t else 0) := by
  unfold two
  rw [at_stepTo hi hc, at_stepTo hj hc, zero_at]
  repeat' split
  all_goals omega
theorem dot_two {r : Vec} {j i : Nat} {s t : Int} (hj : j < 4) (hi : i < 4) : dot r (two j s i t) = s * r.at' j + t * r.at' i := by
  unfold two
  rw [dot_stepTo _ _ hi, dot_stepTo _ _ hj, dot_zero]; omega

/-- A basic move into which such a vector fits is it. -/
theorem Basic.is_two {m : Mx} (_ : m.ok) {v : Vec} (hv : Basic m v) {j i : Nat} {s t : Int} (hj : j < 4) (hi : i < 4) (hij : i ≠ j) (hs : fit1 s (v.at' j)) (ht : fit1 t (v.at' i)) (hs0 : s ≠ 0)
    (h0 : s * m.r0.at' j + t * m.r0.at' i = 0) (h1 : s * m.r1.at' j + t * m.r1.at' i = 0) : v.at' j = s ∧ v.at' i = t := by
  have hf : fits (two j s i t) v := fits_at.2 fun c hc => by
    rw [two_at hj hi hc]
    by_cases e1 : c = j
    · subst e1; simp only [if_true, if_neg (Ne.symm hij), Int.add_zero]; exact hs
    · by_cases e2 : c = i
      · subst e2; simp only [if_true, if_neg e1, Int.zero_add]; exact ht
      · simp only [if_neg e1, if_neg e2, Int.add_zero]; simp [fit1]
  have hcols : inCols m.n (two j s i t) := inCols_fits hv.cols hf
  have hne : two j s i t ≠ zero := ne_zero_at (c := j) (by rw [two_at hj hi hj]; simp [Ne.symm hij, hs0])
  have e := hv.least _ hcols ⟨by rw [dot_two hj hi]; exact h0, by rw [dot_two hj hi]; exact h1⟩ hne hf
  rw [← e, two_at hj hi hj, two_at hj hi hi]
  simp [hij, Ne.symm hij]

/-- In a column of 0 a basic move has 1 or -1. -/
theorem Basic.zero_col {m : Mx} (hm : m.ok) {v : Vec} (hv : Basic m v) {j : Nat} (hj : j < 4) (h0 : m.r0.at' j = 0) (h1 : m.r1.at' j = 0) : (v.at' j).natAbs ≤ 1 := by
  by_cases hz : v.at' j = 0
  · rw [hz]; simp
  · obtain ⟨i, hi, hij⟩ : ∃ i, i < 4 ∧ i ≠ j := by
      by_cases e : j = 0
      · exact ⟨1, by omega, by omega⟩
      · exact ⟨0, by omega, by omega⟩
    rcases Int.lt_or_gt_of_ne hz with h | h
    · have := (hv.is_two hm (s := -1) (t := 0) hj hi hij (by simp only [fit1]; omega) (by simp [fit1]) (by omega) (by rw [h0]; simp) (by rw [h1]; simp)).1
      rw [this]; decide
    · have := (hv.is_two hm (s := 1) (t := 0) hj hi hij (by simp only [fit1]; omega) (by simp [fit1]) (by omega) (by rw [h0]; simp) (by rw [h1]; simp)).1
      rw [this]; decide

/-! ### No number of a basic move is far from 0 -/
theorem abs_mul_low {x y : Int} (h : low x) : (x * y).natAbs ≤ 2 * y.natAbs := by
  have : x = -2 ∨ x = -1 ∨ x = 0 ∨ x = 1 ∨ x = 2 := by simp only [low] at h; omega
  rcases this with rfl | rfl | rfl | rfl | rfl <;> omega
theorem abs_mul_ne {x y : Int} (h : low x) (h0 : x ≠ 0) : y.natAbs ≤ (x * y).natAbs := by
  have : x = -2 ∨ x = -1 ∨ x = 1 ∨ x = 2 := by simp only [low] at h; omega
  rcases this with rfl | rfl | rfl | rfl <;> omega

theorem dot_at (r v : Vec) : dot r v = r.at' 0 * v.at' 0 + r.at' 1 * v.at' 1 + r.at' 2 * v.at' 2 + r.at' 3 * v.at' 3 := rfl
theorem norm_at (v : Vec) : norm v = (v.at' 0).natAbs + (v.at' 1).natAbs + (v.at' 2).natAbs + (v.at' 3).natAbs := rfl

theorem row_bound {r v : Vec} (hr : low r.a ∧ low r.b ∧ low r.c ∧ low r.d) (h : dot r v = 0) {j : Nat} (hj : j < 4) (hne : r.at' j ≠ 0) : (v.at' j).natAbs ≤ 2 * (norm v - (v.at' j).natAbs) := by
  have l0 := abs_mul_low (y := v.at' 0) (low_at hr 0)
  have l1 := abs_mul_low (y := v.at' 1) (low_at hr 1)
  have l2 := abs_mul_low (y := v.at' 2) (low_at hr 2)
  have l3 := abs_mul_low (y := v.at' 3) (low_at hr 3)
  have lj := abs_mul_ne (y := v.at' j) (low_at hr j) hne
  rw [dot_at] at h
  rw [norm_at]
  match j, hj with
  | 0, _ | 1, _ | 2, _ | 3, _ => omega

theorem Basic.le19 {m : Mx} (hm : m.ok) {v : Vec} (hv : Basic m v) {j : Nat} (hj : j < 4) : (v.at' j).natAbs ≤ 19 := by
  have hn := basic_norm hm hv
  by_cases h0 : m.r0.at' j = 0
  · by_cases h1 : m.r1.at' j = 0
    · have := hv.zero_col hm hj h0 h1; omega
    · have := row_bound hm.r1 hv.move.2 hj h1; omega
  · have := row_bound hm.r0 hv.move.1 hj h0; omega

/-! ### Two rows that count -/
def det (m : Mx) (x y : Nat) : Int := m.r0.at' x * m.r1.at' y - m.r0.at' y * m.r1.at' x
def eps (b : Bool) : Int := if b then 1 else -1
/-- A vector's signs. -/
def pat (v : Vec) (c : Nat) : Bool := decide (0 ≤ v.at' c)
theorem pat_abs (v : Vec) (c : Nat) : v.at' c = eps (pat v c) * ((v.at' c).natAbs : Int) := by
  unfold eps pat
  by_cases h : 0 ≤ v.at' c
  · simp only [h, decide_true, if_true]; omega
  · simp only [h, decide_false, Bool.false_eq_true, if_false]; omega
theorem eps_sq (b : Bool) : eps b * eps b = 1 := by cases b <;> rfl

structure Perm4 (i j k l : Nat) : Prop where
  i4 : i < 4
  j4 : j < 4
  k4 : k < 4
  l4 : l < 4
  all : ∀ c, c < 4 → c = i ∨ c = j ∨ c = k ∨ c = l
  dot : ∀ r v : Vec, dot r v = r.at' i * v.at' i + r.at' j * v.at' j + r.at' k * v.at' k + r.at' l * v.at' l

theorem ring1 (ai aj ak al bi bj bk bl u v p q : Int) : (ai * bj - aj * bi) * u + (ak * bj - aj * bk) * p + (al * bj - aj * bl) * q = bj * (ai * u + aj * v + ak * p + al * q) - aj * (bi * u + bj * v + bk * p + bl * q) := by grind
theorem ring2 (ai aj ak al bi bj bk bl u v p q : Int) : (ai * bj - aj * bi) * v + -(ak * bi - ai * bk) * p + -(al * bi - ai * bl) * q = ai * (bi * u + bj * v + bk * p + bl * q) - bi * (ai * u + aj * v + ak * p + al * q) := by grind
theorem ring3 {d e f σ pi pk pl U P Q : Int} (ei : pi * pi = 1) (h : d * (pi * U) + e * (pk * P) + f * (pl * Q) = 0) : σ * d * U = -(σ * pi * pk * e) * P + -(σ * pi * pl * f) * Q := by
  have h1 : d * (pi * U) = -(e * (pk * P)) - f * (pl * Q) := by omega
  have h2 : σ * d * U = σ * pi * (d * (pi * U)) := by
    have : σ * pi * (d * (pi * U)) = σ * d * U * (pi * pi) := by grind
    rw [this, ei]; simp
  rw [h2, h1]; grind

theorem rank2 {m : Mx} {i j k l : Nat} (hp : Perm4 i j k l) (hD : det m i j ≠ 0) (s : Nat → Bool) :
    ∃ c, c < 4 ∧ ∀ x y : Vec, Basic m x → Basic m y → (∀ c, c < 4 → pat x c = s c) → (∀ c, c < 4 → pat y c = s c) → (x.at' c).natAbs = (y.at' c).natAbs → x = y := by
  obtain ⟨D, hDp, σ, hσ, hDe⟩ : ∃ D : Int, 0 < D ∧ ∃ σ : Int, σ * σ = 1 ∧ D = σ * det m i j := by
    rcases Int.lt_or_gt_of_ne hD with h | h
    · exact ⟨-det m i j, by omega, -1, by decide, by omega⟩
    · exact ⟨det m i j, h, 1, by decide, by omega⟩
  obtain ⟨w, hw, hsec⟩ := sector hDp (-(σ * eps (s i) * eps (s k) * det m k j)) (-(σ * eps (s i) * eps (s l) * det m l j)) (σ * eps (s j) * eps (s k) * det m k i) (σ * eps (s j) * eps (s l) * det m l i)
  have ei := eps_sq (s i); have ej := eps_sq (s j)
  have eqs : ∀ x : Vec, Basic m x → (∀ c, c < 4 → pat x c = s c) →
      D * ((x.at' i).natAbs : Int) = -(σ * eps (s i) * eps (s k) * det m k j) * ((x.at' k).natAbs : Int) + -(σ * eps (s i) * eps (s l) * det m l j) * ((x.at' l).natAbs : Int) ∧
      D * ((x.at' j).natAbs : Int) = (σ * eps (s j) * eps (s k) * det m k i) * ((x.at' k).natAbs : Int) + (σ * eps (s j) * eps (s l) * det m l i) * ((x.at' l).natAbs : Int) := by
    intro x hx hs
    have m0 := hx.move.1; have m1 := hx.move.2
    rw [hp.dot] at m0 m1
    have xi := pat_abs x i; have xj := pat_abs x j; have xk := pat_abs x k; have xl := pat_abs x l
    rw [hs i hp.i4] at xi; rw [hs j hp.j4] at xj; rw [hs k hp.k4] at xk; rw [hs l hp.l4] at xl
    generalize ((x.at' i).natAbs : Int) = U at xi ⊢
    generalize ((x.at' j).natAbs : Int) = V at xj ⊢
    generalize ((x.at' k).natAbs : Int) = P at xk ⊢
    generalize ((x.at' l).natAbs : Int) = Q at xl ⊢
    rw [xi, xj, xk, xl] at m0 m1
    rw [hDe]
    simp only [det]
    constructor
    · exact ring3 ei (by rw [ring1 _ _ _ _ _ _ _ _ _ (eps (s j) * V), m0, m1]; simp)
    · have h : (m.r0.at' i * m.r1.at' j - m.r0.at' j * m.r1.at' i) * (eps (s j) * V) + -(m.r0.at' k * m.r1.at' i - m.r0.at' i * m.r1.at' k) * (eps (s k) * P) + -(m.r0.at' l * m.r1.at' i - m.r0.at' i * m.r1.at' l) * (eps (s l) * Q) = 0 := by
        rw [ring2 _ _ _ _ _ _ _ _ (eps (s i) * U), m0, m1]; simp
      have := ring3 (σ := σ) ej h
      rw [this]; simp only [Int.mul_neg, Int.neg_neg]
  have main : ∀ x y : Vec, Basic m x → Basic m y → (∀ c, c < 4 → pat x c = s c) → (∀ c, c < 4 → pat y c = s c) → (w = 0 → (x.at' l).natAbs = (y.at' l).natAbs) → (w = 1 → (x.at' i).natAbs = (y.at' i).natAbs) → (w = 2 → (x.at' j).natAbs = (y.at' j).natAbs) →
      (y.at' k).natAbs ≤ (x.at' k).natAbs → x = y := by
    intro x y hx hy hsx hsy h0 h1 h2 hle
    obtain ⟨q1, q2⟩ := eqs x hx hsx
    obtain ⟨q3, q4⟩ := eqs y hy hsy
    obtain ⟨g1, g2, g3⟩ := hsec _ _ _ _ _ _ _ _ (by omega) (by omega) (by omega) (by omega) (by omega) (by omega) q1 q2 q3 q4 (fun h => by have := h0 h; omega) (fun h => by have := h1 h; omega) (fun h => by have := h2 h; omega) (by omega)
    have hf : fits y x := fits_at.2 fun c hc => by
      have hle : (y.at' c).natAbs ≤ (x.at' c).natAbs := by
        rcases hp.all c hc with rfl | rfl | rfl | rfl <;> omega
      have hxc := hsx c hc; have hyc := hsy c hc
      unfold pat at hxc hyc
      rw [← hxc] at hyc
      have : (0 ≤ y.at' c) ↔ (0 ≤ x.at' c) := by simpa using hyc
      simp only [fit1]; omega
    exact (hx.least y hy.cols hy.move hy.ne hf).symm
  have hcase : w = 0 ∨ w = 1 ∨ w = 2 := by omega
  rcases hcase with rfl | rfl | rfl
  · refine ⟨l, hp.l4, fun x y hx hy hsx hsy he => ?_⟩
    rcases Nat.le_total (y.at' k).natAbs (x.at' k).natAbs with h | h
    · exact main x y hx hy hsx hsy (fun _ => he) (by omega) (by omega) h
    · exact (main y x hy hx hsy hsx (fun _ => he.symm) (by omega) (by omega) h).symm
  · refine ⟨i, hp.i4, fun x y hx hy hsx hsy he => ?_⟩
    rcases Nat.le_total (y.at' k).natAbs (x.at' k).natAbs with h | h
    · exact main x y hx hy hsx hsy (by omega) (fun _ => he) (by omega) h
    · exact (main y x hy hx hsy hsx (by omega) (fun _ => he.symm) (by omega) h).symm
  · refine ⟨j, hp.j4, fun x y hx hy hsx hsy he => ?_⟩
    rcases Nat.le_total (y.at' k).natAbs (x.at' k).natAbs with h | h
    · exact main x y hx hy hsx hsy (by omega) (by omega) (fun _ => he) h
    · exact (main y x hy hx hsy hsx (by omega) (by omega) (fun _ => he.symm) h).symm
end Go.Proofs.Ytaglbnblfhfkeaa

namespace Go.Proofs.Ytaglbnblfhfkeaa
open Vec

theorem Basic.is_two' {m : Mx} {v : Vec} (hv : Basic m v) {j i : Nat} {s t : Int} (hj : j < 4) (hi : i < 4) (hij : i ≠ j) (hs : fit1 s (v.at' j)) (ht : fit1 t (v.at' i)) (hs0 : s ≠ 0) (hmv : isMove m (two j s i t)) : v.at' j = s ∧ v.at' i = t := by
  have hf : fits (two j s i t) v := fits_at.2 fun c hc => by
    rw [two_at hj hi hc]
    by_cases e1 : c = j
    · subst e1; simp only [if_true, if_neg (Ne.symm hij), Int.add_zero]; exact hs
    · by_cases e2 : c = i
      · subst e2; simp only [if_true, if_neg e1, Int.zero_add]; exact ht
      · simp only [if_neg e1, if_neg e2, Int.add_zero]; simp [fit1]
  have hcols : inCols m.n (two j s i t) := inCols_fits hv.cols hf
  have hne : two j s i t ≠ zero := ne_zero_at (c := j) (by rw [two_at hj hi hj]; simp [Ne.symm hij, hs0])
  have e := hv.least _ hcols hmv hne hf
  rw [← e, two_at hj hi hj, two_at hj hi hi]
  simp [hij, Ne.symm hij]

set_option maxHeartbeats 2000000 in
theorem opp {m : Mx} {r v : Vec} (hr : low r.a ∧ low r.b ∧ low r.c ∧ low r.d) (hmv : ∀ v, dot r v = 0 → isMove m v) (hv : Basic m v) {j i : Nat} (hj : j < 4) (hi : i < 4) (hij : i ≠ j) (h3 : 3 ≤ (v.at' j).natAbs)
    (ho : (0 < r.at' j * v.at' j ∧ r.at' i * v.at' i < 0) ∨ (r.at' j * v.at' j < 0 ∧ 0 < r.at' i * v.at' i)) : (r.at' j).natAbs = 2 ∧ (r.at' i * v.at' i).natAbs ≤ 1 := by
  have key : ∀ s t : Int, s ≠ 0 → fit1 s (v.at' j) → fit1 t (v.at' i) → s * r.at' j + t * r.at' i = 0 → v.at' j = s := fun s t hs0 hs ht h0 =>
    (hv.is_two' hj hi hij hs ht hs0 (hmv _ (by rw [dot_two hj hi]; exact h0))).1
  have hrj : r.at' j = -2 ∨ r.at' j = -1 ∨ r.at' j = 0 ∨ r.at' j = 1 ∨ r.at' j = 2 := by have := low_at hr j; simp only [low] at this; omega
  have hri : r.at' i = -2 ∨ r.at' i = -1 ∨ r.at' i = 0 ∨ r.at' i = 1 ∨ r.at' i = 2 := by have := low_at hr i; simp only [low] at this; omega
  generalize v.at' j = x at *
  generalize v.at' i = y at *
  generalize r.at' j = a at *
  generalize r.at' i = b at *
  have hx : x < 0 ∨ 0 < x := by omega
  have hy : y < 0 ∨ 0 < y := by
    rcases Int.lt_trichotomy y 0 with h | h | h
    · exact Or.inl h
    · subst h; simp at ho
    · exact Or.inr h
  clear hmv hv hr hj hi hij
  rcases hx with hx | hx <;> rcases hy with hy | hy
  · have k1 := key (-1) (-1); have k2 := key (-2) (-1); have k3 := key (-1) (-2)
    clear key
    simp only [fit1] at *
    rcases hrj with rfl | rfl | rfl | rfl | rfl <;> rcases hri with rfl | rfl | rfl | rfl | rfl <;> omega
  · have k1 := key (-1) 1; have k2 := key (-2) 1; have k3 := key (-1) 2
    clear key
    simp only [fit1] at *
    rcases hrj with rfl | rfl | rfl | rfl | rfl <;> rcases hri with rfl | rfl | rfl | rfl | rfl <;> omega
  · have k1 := key 1 (-1); have k2 := key 2 (-1); have k3 := key 1 (-2)
    clear key
    simp only [fit1] at *
    rcases hrj with rfl | rfl | rfl | rfl | rfl <;> rcases hri with rfl | rfl | rfl | rfl | rfl <;> omega
  · have k1 := key 1 1; have k2 := key 2 1; have k3 := key 1 2
    clear key
    simp only [fit1] at *
    rcases hrj with rfl | rfl | rfl | rfl | rfl <;> rcases hri with rfl | rfl | rfl | rfl | rfl <;> omega

theorem single {m : Mx} (_ : m.ok) {r v : Vec} (hr : low r.a ∧ low r.b ∧ low r.c ∧ low r.d) (hmv : ∀ v, isMove m v ↔ dot r v = 0) (hv : Basic m v) {j : Nat} (hj : j < 4) : (v.at' j).natAbs ≤ 2 := by
  refine Classical.byContradiction fun hcon => ?_
  have h3 : 3 ≤ (v.at' j).natAbs := by omega
  by_cases hz : r.at' j = 0
  · obtain ⟨i, hi, hij⟩ : ∃ i, i < 4 ∧ i ≠ j := by
      by_cases e : j = 0
      · exact ⟨1, by omega, by omega⟩
      · exact ⟨0, by omega, by omega⟩
    have mv : ∀ s : Int, isMove m (two j s i 0) := fun s => (hmv _).2 (by rw [dot_two hj hi, hz]; simp)
    rcases Int.lt_or_gt_of_ne (show v.at' j ≠ 0 by omega) with h | h
    · have := (hv.is_two' (s := -1) (t := 0) hj hi hij (by simp only [fit1]; omega) (by simp [fit1]) (by omega) (mv _)).1
      omega
    · have := (hv.is_two' (s := 1) (t := 0) hj hi hij (by simp only [fit1]; omega) (by simp [fit1]) (by omega) (mv _)).1
      omega
  · have hd := (hmv v).1 hv.move
    rw [dot_at] at hd
    have ha := abs_mul_ne (y := v.at' j) (low_at hr j) hz
    have ha2 : (r.at' j).natAbs = 2 → 2 * (v.at' j).natAbs ≤ (r.at' j * v.at' j).natAbs := fun h => by rw [Int.natAbs_mul, h]; exact Nat.le_refl _
    have pos : 0 < r.at' j * v.at' j → ∀ i, i < 4 → i ≠ j → -1 ≤ r.at' i * v.at' i ∧ (r.at' i * v.at' i < 0 → (r.at' j).natAbs = 2) := fun hp i hi hij => by
      by_cases h : r.at' i * v.at' i < 0
      · have := opp (i := i) hr (fun v h => (hmv v).2 h) hv hj hi hij h3 (Or.inl ⟨hp, h⟩)
        omega
      · omega
    have neg' : r.at' j * v.at' j < 0 → ∀ i, i < 4 → i ≠ j → r.at' i * v.at' i ≤ 1 ∧ (0 < r.at' i * v.at' i → (r.at' j).natAbs = 2) := fun hp i hi hij => by
      by_cases h : 0 < r.at' i * v.at' i
      · have := opp (i := i) hr (fun v h => (hmv v).2 h) hv hj hi hij h3 (Or.inr ⟨hp, h⟩)
        omega
      · omega
    have go : ∀ x y z : Nat, x < 4 → y < 4 → z < 4 → x ≠ j → y ≠ j → z ≠ j → r.at' j * v.at' j + r.at' x * v.at' x + r.at' y * v.at' y + r.at' z * v.at' z = 0 → False := by
      intro x y z hx hy hz' hxj hyj hzj hs
      have hT : r.at' j * v.at' j < 0 ∨ 0 < r.at' j * v.at' j := by omega
      rcases hT with hT | hT
      · have g1 := neg' hT x hx hxj; have g2 := neg' hT y hy hyj; have g3 := neg' hT z hz' hzj
        clear pos neg' hd
        by_cases h2 : (r.at' j).natAbs = 2
        · have := ha2 h2; omega
        · omega
      · have g1 := pos hT x hx hxj; have g2 := pos hT y hy hyj; have g3 := pos hT z hz' hzj
        clear pos neg' hd
        by_cases h2 : (r.at' j).natAbs = 2
        · have := ha2 h2; omega
        · omega
    match j, hj with
    | 0, _ => exact go 1 2 3 (by omega) (by omega) (by omega) (by omega) (by omega) (by omega) (by omega)
    | 1, _ => exact go 0 2 3 (by omega) (by omega) (by omega) (by omega) (by omega) (by omega) (by omega)
    | 2, _ => exact go 0 1 3 (by omega) (by omega) (by omega) (by omega) (by omega) (by omega) (by omega)
    | 3, _ => exact go 0 1 2 (by omega) (by omega) (by omega) (by omega) (by omega) (by omega) (by omega)

/-! ### Counting -/
theorem inj_len {β : Type} [DecidableEq β] {l : List Vec} (hn : l.Nodup) (f : Vec → β) (k : List β) (hk : ∀ v ∈ l, f v ∈ k) (hi : ∀ v ∈ l, ∀ w ∈ l, f v = f w → v = w) : l.length ≤ k.length := by
  have h1 : (l.map f).Nodup := List.pairwise_map.2 (hn.imp_of_mem fun {a b} ha hb hab e => hab (hi a ha b hb e))
  have h2 := nodup_len h1 (k := k) (fun x hx => by obtain ⟨v, hv, rfl⟩ := List.mem_map.1 hx; exact hk v hv)
  rwa [List.length_map] at h2

def sOf (b0 b1 b2 b3 : Bool) : Nat → Bool
  | 0 => b0
  | 1 => b1
  | 2 => b2
  | _ => b3
def BB : List Bool := [true, false]
def codes : List (Bool × Bool × Bool × Bool × Nat) := BB.flatMap fun a => BB.flatMap fun b => BB.flatMap fun c => BB.flatMap fun d => (List.range 20).map fun n => (a, b, c, d, n)
theorem codes_len : codes.length = 320 := by decide +kernel
theorem mem_BB (b : Bool) : b ∈ BB := by cases b <;> simp [BB]
theorem mem_codes (a b c d : Bool) {n : Nat} (h : n < 20) : (a, b, c, d, n) ∈ codes :=
  List.mem_flatMap.2 ⟨a, mem_BB a, List.mem_flatMap.2 ⟨b, mem_BB b, List.mem_flatMap.2 ⟨c, mem_BB c, List.mem_flatMap.2 ⟨d, mem_BB d, List.mem_map.2 ⟨n, List.mem_range.2 h, rfl⟩⟩⟩⟩⟩

theorem count_rank2 {m : Mx} (hm : m.ok) {i j k l : Nat} (hp : Perm4 i j k l) (hD : det m i j ≠ 0) {F : List Vec} (hn : F.Nodup) (hb : ∀ v ∈ F, Basic m v) : F.length ≤ 400 := by
  have h := fun b0 b1 b2 b3 => rank2 hp hD (sOf b0 b1 b2 b3)
  have := inj_len hn (fun v => (pat v 0, pat v 1, pat v 2, pat v 3, (v.at' (h (pat v 0) (pat v 1) (pat v 2) (pat v 3)).choose).natAbs)) codes
    (fun v hv => mem_codes _ _ _ _ (by have := (hb v hv).le19 hm (h (pat v 0) (pat v 1) (pat v 2) (pat v 3)).choose_spec.1; omega))
    (fun v hv w hw e => by
      simp only [Prod.mk.injEq] at e
      obtain ⟨e0, e1, e2, e3, e4⟩ := e
      have hs := (h (pat v 0) (pat v 1) (pat v 2) (pat v 3)).choose_spec.2 v w (hb v hv) (hb w hw)
        (fun c hc => by
          match c, hc with
          | 0, _ | 1, _ | 2, _ | 3, _ => rfl)
        (fun c hc => by
          match c, hc with
          | 0, _ => exact e0.symm
          | 1, _ => exact e1.symm
          | 2, _ => exact e2.symm
          | 3, _ => exact e3.symm)
      apply hs
      rw [← e0, ← e1, ← e2, ← e3] at e4
      exact e4)
  rw [codes_len] at this
  omega

def cube : List (Int × Int × Int) := L5.flatMap fun a => L5.flatMap fun b => L5.map fun c => (a, b, c)
theorem cube_len : cube.length = 125 := by decide +kernel
theorem mem_cube {a b c : Int} (ha : low a) (hb : low b) (hc : low c) : (a, b, c) ∈ cube :=
  List.mem_flatMap.2 ⟨a, mem_L5 ha, List.mem_flatMap.2 ⟨b, mem_L5 hb, List.mem_map.2 ⟨c, mem_L5 hc, rfl⟩⟩⟩
theorem low_abs {x : Int} (h : x.natAbs ≤ 2) : low x := by simp only [low]; omega

theorem count_single {m : Mx} (hm : m.ok) {r : Vec} (hr : low r.a ∧ low r.b ∧ low r.c ∧ low r.d) (hmv : ∀ v, isMove m v ↔ dot r v = 0) (hne : r.at' 0 ≠ 0 ∨ r.at' 1 ≠ 0 ∨ r.at' 2 ≠ 0 ∨ r.at' 3 ≠ 0) {F : List Vec} (hn : F.Nodup) (hb : ∀ v ∈ F, Basic m v) : F.length ≤ 400 := by
  have hl : ∀ v ∈ F, ∀ c, c < 4 → low (v.at' c) := fun v hv c hc => low_abs (single hm hr hmv (hb v hv) hc)
  have hd : ∀ v ∈ F, r.at' 0 * v.at' 0 + r.at' 1 * v.at' 1 + r.at' 2 * v.at' 2 + r.at' 3 * v.at' 3 = 0 := fun v hv => (hmv v).1 (hb v hv).move
  have go : ∀ x y z q : Nat, x < 4 → y < 4 → z < 4 → q < 4 → r.at' q ≠ 0 → (∀ c, c < 4 → c = x ∨ c = y ∨ c = z ∨ c = q) →
      (∀ v : Vec, r.at' 0 * v.at' 0 + r.at' 1 * v.at' 1 + r.at' 2 * v.at' 2 + r.at' 3 * v.at' 3 = r.at' x * v.at' x + r.at' y * v.at' y + r.at' z * v.at' z + r.at' q * v.at' q) → F.length ≤ 400 := by
    intro x y z q hx hy hz hq h0 hall he
    have := inj_len hn (fun v => (v.at' x, v.at' y, v.at' z)) cube (fun v hv => mem_cube (hl v hv x hx) (hl v hv y hy) (hl v hv z hz)) (fun v hv w hw e => by
      simp only [Prod.mk.injEq] at e
      obtain ⟨e1, e2, e3⟩ := e
      have d1 := hd v hv; have d2 := hd w hw
      rw [he] at d1 d2
      rw [e1, e2, e3] at d1
      have e4 : v.at' q = w.at' q := Int.eq_of_mul_eq_mul_left h0 (by omega)
      refine ext_at fun c hc => ?_
      rcases hall c hc with rfl | rfl | rfl | rfl
      · exact e1
      · exact e2
      · exact e3
      · exact e4)
    rw [cube_len] at this
    omega
  rcases hne with h | h | h | h
  · exact go 1 2 3 0 (by omega) (by omega) (by omega) (by omega) h (fun c hc => by omega) (fun v => by omega)
  · exact go 0 2 3 1 (by omega) (by omega) (by omega) (by omega) h (fun c hc => by omega) (fun v => by omega)
  · exact go 0 1 3 2 (by omega) (by omega) (by omega) (by omega) h (fun c hc => by omega) (fun v => by omega)
  · exact go 0 1 2 3 (by omega) (by omega) (by omega) (by omega) h (fun c hc => by omega) (fun v => by omega)

def L3 : List Int := [-1, 0, 1]
def small : List (Int × Int × Int × Int) := L3.flatMap fun a => L3.flatMap fun b => L3.flatMap fun c => L3.map fun d => (a, b, c, d)
theorem small_len : small.length = 81 := by decide +kernel
theorem mem_L3 {x : Int} (h : x.natAbs ≤ 1) : x ∈ L3 := by simp only [L3, List.mem_cons, List.not_mem_nil]; omega
theorem count_zero {m : Mx} (hm : m.ok) (h0 : ∀ c, c < 4 → m.r0.at' c = 0) (h1 : ∀ c, c < 4 → m.r1.at' c = 0) {F : List Vec} (hn : F.Nodup) (hb : ∀ v ∈ F, Basic m v) : F.length ≤ 400 := by
  have hl : ∀ v ∈ F, ∀ c, c < 4 → v.at' c ∈ L3 := fun v hv c hc => mem_L3 ((hb v hv).zero_col hm hc (h0 c hc) (h1 c hc))
  have := inj_len hn (fun v => (v.at' 0, v.at' 1, v.at' 2, v.at' 3)) small
    (fun v hv => List.mem_flatMap.2 ⟨_, hl v hv 0 (by omega), List.mem_flatMap.2 ⟨_, hl v hv 1 (by omega), List.mem_flatMap.2 ⟨_, hl v hv 2 (by omega), List.mem_map.2 ⟨_, hl v hv 3 (by omega), rfl⟩⟩⟩⟩)
    (fun v _ w _ e => by simp only [Prod.mk.injEq] at e; exact ext4 e.1 e.2.1 e.2.2.1 e.2.2.2)
  rw [small_len] at this
  omega

/-- Where one row counts and the other one is a multiple of it the other one follows. -/
theorem follows {r s : Vec} {i : Nat} (hi : i < 4) (hne : r.at' i ≠ 0) (hd : ∀ x y, x < 4 → y < 4 → r.at' x * s.at' y - r.at' y * s.at' x = 0) {v : Vec} (h : dot r v = 0) : dot s v = 0 := by
  have e0 := hd i 0 hi (by omega); have e1 := hd i 1 hi (by omega); have e2 := hd i 2 hi (by omega); have e3 := hd i 3 hi (by omega)
  have : r.at' i * dot s v = s.at' i * dot r v := by
    rw [dot_at, dot_at]
    generalize r.at' i = ri at *
    generalize s.at' i = si at *
    generalize s.at' 0 = s0 at *
    generalize s.at' 1 = s1 at *
    generalize s.at' 2 = s2 at *
    generalize s.at' 3 = s3 at *
    clear hd h hne hi
    have f0 : ri * (s0 * v.at' 0) = si * (r.at' 0 * v.at' 0) := by rw [← Int.mul_assoc, show ri * s0 = r.at' 0 * si by omega]; grind
    have f1 : ri * (s1 * v.at' 1) = si * (r.at' 1 * v.at' 1) := by rw [← Int.mul_assoc, show ri * s1 = r.at' 1 * si by omega]; grind
    have f2 : ri * (s2 * v.at' 2) = si * (r.at' 2 * v.at' 2) := by rw [← Int.mul_assoc, show ri * s2 = r.at' 2 * si by omega]; grind
    have f3 : ri * (s3 * v.at' 3) = si * (r.at' 3 * v.at' 3) := by rw [← Int.mul_assoc, show ri * s3 = r.at' 3 * si by omega]; grind
    simp only [Int.mul_add]
    omega
  rw [h, Int.mul_zero] at this
  rcases Int.mul_eq_zero.1 this with h' | h'
  · exact absurd h' hne
  · exact h'

/-- A matrix has at most 400 basic moves. -/
theorem few400 {m : Mx} (hm : m.ok) {F : List Vec} (hn : F.Nodup) (hb : ∀ v ∈ F, Basic m v) : F.length ≤ 400 := by
  have perm : ∀ i j k l : Nat, i < 4 → j < 4 → k < 4 → l < 4 → (∀ c, c < 4 → c = i ∨ c = j ∨ c = k ∨ c = l) → (∀ r v : Vec, Vec.dot r v = r.at' i * v.at' i + r.at' j * v.at' j + r.at' k * v.at' k + r.at' l * v.at' l) → det m i j ≠ 0 → F.length ≤ 400 :=
    fun i j k l hi hj hk hl hall hdot hD => count_rank2 hm ⟨hi, hj, hk, hl, hall, hdot⟩ hD hn hb
  by_cases d01 : det m 0 1 = 0
  · by_cases d02 : det m 0 2 = 0
    · by_cases d03 : det m 0 3 = 0
      · by_cases d12 : det m 1 2 = 0
        · by_cases d13 : det m 1 3 = 0
          · by_cases d23 : det m 2 3 = 0
            · have hd : ∀ x y, x < 4 → y < 4 → m.r0.at' x * m.r1.at' y - m.r0.at' y * m.r1.at' x = 0 := by
                intro x y hx hy
                simp only [det] at *
                match x, hx, y, hy with
                | 0, _, 0, _ | 0, _, 1, _ | 0, _, 2, _ | 0, _, 3, _ => omega
                | 1, _, 0, _ | 1, _, 1, _ | 1, _, 2, _ | 1, _, 3, _ => omega
                | 2, _, 0, _ | 2, _, 1, _ | 2, _, 2, _ | 2, _, 3, _ => omega
                | 3, _, 0, _ | 3, _, 1, _ | 3, _, 2, _ | 3, _, 3, _ => omega
              have hd' : ∀ x y, x < 4 → y < 4 → m.r1.at' x * m.r0.at' y - m.r1.at' y * m.r0.at' x = 0 := by
                intro x y hx hy
                have := hd x y hx hy
                rw [Int.mul_comm (m.r1.at' x), Int.mul_comm (m.r1.at' y)]; omega
              by_cases hz0 : ∀ c, c < 4 → m.r0.at' c = 0
              · by_cases hz1 : ∀ c, c < 4 → m.r1.at' c = 0
                · exact count_zero hm hz0 hz1 hn hb
                · obtain ⟨i, hi⟩ := Classical.not_forall.1 hz1
                  obtain ⟨hi4, hne⟩ := Classical.not_imp.1 hi
                  refine count_single hm hm.r1 (fun v => ⟨fun h => h.2, fun h => ⟨follows hi4 hne hd' h, h⟩⟩) ?_ hn hb
                  match i, hi4 with
                  | 0, _ => exact Or.inl hne
                  | 1, _ => exact Or.inr (Or.inl hne)
                  | 2, _ => exact Or.inr (Or.inr (Or.inl hne))
                  | 3, _ => exact Or.inr (Or.inr (Or.inr hne))
              · obtain ⟨i, hi⟩ := Classical.not_forall.1 hz0
                obtain ⟨hi4, hne⟩ := Classical.not_imp.1 hi
                refine count_single hm hm.r0 (fun v => ⟨fun h => h.1, fun h => ⟨h, follows hi4 hne hd h⟩⟩) ?_ hn hb
                match i, hi4 with
                | 0, _ => exact Or.inl hne
                | 1, _ => exact Or.inr (Or.inl hne)
                | 2, _ => exact Or.inr (Or.inr (Or.inl hne))
                | 3, _ => exact Or.inr (Or.inr (Or.inr hne))
            · exact perm 2 3 0 1 (by omega) (by omega) (by omega) (by omega) (fun c hc => by omega) (fun r v => by rw [dot_at]; omega) d23
          · exact perm 1 3 0 2 (by omega) (by omega) (by omega) (by omega) (fun c hc => by omega) (fun r v => by rw [dot_at]; omega) d13
        · exact perm 1 2 0 3 (by omega) (by omega) (by omega) (by omega) (fun c hc => by omega) (fun r v => by rw [dot_at]; omega) d12
      · exact perm 0 3 1 2 (by omega) (by omega) (by omega) (by omega) (fun c hc => by omega) (fun r v => by rw [dot_at]; omega) d03
    · exact perm 0 2 1 3 (by omega) (by omega) (by omega) (by omega) (fun c hc => by omega) (fun r v => by rw [dot_at]; omega) d02
  · exact perm 0 1 2 3 (by omega) (by omega) (by omega) (by omega) (fun c hc => by omega) (fun r v => by rw [dot_at]) d01
end Go.Proofs.Ytaglbnblfhfkeaa
