import Derived.Test.YtaglbnblfhfkeaaMath3
/-
  Plain mathematics: a matrix has at most 400 basic moves.
-/
namespace Go.Proofs.Ytaglbnblfhfkeaa
open Vec

theorem le_of_mul {D x y : Int} (hD : 0 < D) (h : D * x ≤ D * y) : x ≤ y := Int.le_of_mul_le_mul_left h hD

theorem dom_zero {a b P Q P' : Int} (hP : 0 ≤ P) (hQ : 0 ≤ Q) (hP' : 0 ≤ P') (hle : P' ≤ P) (g : 0 ≤ a * P + b * Q) (hL : ¬ (a < 0 ∧ 0 < b)) : a * P' ≤ a * P := by
  by_cases ha : 0 ≤ a
  · exact Int.mul_le_mul_of_nonneg_left hle ha
  · have hb : b ≤ 0 := by omega
    have h1 : b * Q ≤ 0 := Int.mul_nonpos_of_nonpos_of_nonneg hb hQ
    have hP0 : P = 0 := by
      refine Classical.byContradiction fun h => ?_
      have : a * P < 0 := Int.mul_neg_of_neg_of_pos (by omega) (by omega)
      omega
    have hP0' : P' = 0 := by omega
    rw [hP0, hP0']; exact Int.le_refl _

theorem dom_lower {a b c d P Q P' Q' : Int} (hP : 0 ≤ P) (hQ : 0 ≤ Q) (hP' : 0 ≤ P') (hle : P' ≤ P) (g : 0 ≤ a * P + b * Q) (h : 0 ≤ c * P + d * Q) (ha : a < 0) (hb : 0 < b)
    (ht : 0 ≤ c * b - d * a ∨ ¬ (c < 0 ∧ 0 < d)) (e : a * P + b * Q = a * P' + b * Q') : Q' ≤ Q ∧ c * P' + d * Q' ≤ c * P + d * Q := by
  have hbu : b * (Q - Q') = (-a) * (P - P') := by grind
  have hu : Q' ≤ Q := by
    have h1 : 0 ≤ (-a) * (P - P') := Int.mul_nonneg (by omega) (by omega)
    refine Classical.byContradiction fun hh => ?_
    have : b * (Q - Q') < 0 := Int.mul_neg_of_pos_of_neg hb (by omega)
    omega
  refine ⟨hu, ?_⟩
  have key : b * (c * (P - P') + d * (Q - Q')) = (c * b - d * a) * (P - P') := by grind
  have fin : 0 ≤ (c * b - d * a) * (P - P') := by
    by_cases hk : 0 ≤ c * b - d * a
    · exact Int.mul_nonneg hk (by omega)
    · have hL := ht.resolve_left hk
      have hP0 : P = 0 := by
        refine Classical.byContradiction fun hne => ?_
        by_cases hc : 0 ≤ c
        · have hcb : 0 ≤ c * b := Int.mul_nonneg hc (by omega)
          have hd : d < 0 := by
            refine Classical.byContradiction fun hh => ?_
            have : d * a ≤ 0 := Int.mul_nonpos_of_nonneg_of_nonpos (by omega) (by omega)
            omega
          have h1 : 0 ≤ b * (c * P + d * Q) := Int.mul_nonneg (by omega) h
          have h2 : 0 ≤ (-d) * (a * P + b * Q) := Int.mul_nonneg (by omega) g
          have h3 : b * (c * P + d * Q) + (-d) * (a * P + b * Q) = (c * b - d * a) * P := by grind
          have h4 : (c * b - d * a) * P < 0 := Int.mul_neg_of_neg_of_pos (by omega) (by omega)
          omega
        · have hd : d ≤ 0 := by omega
          have h1 : c * P < 0 := Int.mul_neg_of_neg_of_pos (by omega) (by omega)
          have h2 : d * Q ≤ 0 := Int.mul_nonpos_of_nonpos_of_nonneg hd hQ
          omega
      have : P - P' = 0 := by omega
      rw [this]; simp
  have h5 : 0 ≤ c * (P - P') + d * (Q - Q') := by
    refine Classical.byContradiction fun hh => ?_
    have : b * (c * (P - P') + d * (Q - Q')) < 0 := Int.mul_neg_of_pos_of_neg hb (by omega)
    omega
  simp only [Int.mul_sub] at h5
  omega

/-- In a sector of the plane one of three numbers tells a vector that no other one dominates. -/
theorem sector {D : Int} (hD : 0 < D) (a b c d : Int) : ∃ w : Nat, w < 3 ∧ ∀ P Q U V P' Q' U' V' : Int, 0 ≤ P → 0 ≤ Q → 0 ≤ U → 0 ≤ V → 0 ≤ P' → 0 ≤ Q' →
    D * U = a * P + b * Q → D * V = c * P + d * Q → D * U' = a * P' + b * Q' → D * V' = c * P' + d * Q' → (w = 0 → Q = Q') → (w = 1 → U = U') → (w = 2 → V = V') → P' ≤ P → Q' ≤ Q ∧ U' ≤ U ∧ V' ≤ V := by
  by_cases h1 : (a < 0 ∧ 0 < b) ∧ (0 ≤ c * b - d * a ∨ ¬ (c < 0 ∧ 0 < d))
  · refine ⟨1, by omega, fun P Q U V P' Q' U' V' hP hQ hU hV hP' hQ' e1 e2 e3 e4 _ w1 _ hle => ?_⟩
    have hUU := w1 rfl
    have g : 0 ≤ a * P + b * Q := by rw [← e1]; exact Int.mul_nonneg (by omega) hU
    have h : 0 ≤ c * P + d * Q := by rw [← e2]; exact Int.mul_nonneg (by omega) hV
    obtain ⟨k1, k2⟩ := dom_lower hP hQ hP' hle g h h1.1.1 h1.1.2 h1.2 (by rw [← e1, ← e3, hUU])
    exact ⟨k1, by omega, le_of_mul hD (by rw [e2, e4]; exact k2)⟩
  · by_cases h2 : c < 0 ∧ 0 < d
    · refine ⟨2, by omega, fun P Q U V P' Q' U' V' hP hQ hU hV hP' hQ' e1 e2 e3 e4 _ _ w2 hle => ?_⟩
      have hVV := w2 rfl
      have g : 0 ≤ a * P + b * Q := by rw [← e1]; exact Int.mul_nonneg (by omega) hU
      have h : 0 ≤ c * P + d * Q := by rw [← e2]; exact Int.mul_nonneg (by omega) hV
      have ht : 0 ≤ a * d - b * c ∨ ¬ (a < 0 ∧ 0 < b) := by
        by_cases hL : a < 0 ∧ 0 < b
        · left
          have : ¬ (0 ≤ c * b - d * a) := fun hh => h1 ⟨hL, Or.inl hh⟩
          rw [Int.mul_comm a d, Int.mul_comm b c]; omega
        · exact Or.inr hL
      obtain ⟨k1, k2⟩ := dom_lower hP hQ hP' hle h g h2.1 h2.2 ht (by rw [← e2, ← e4, hVV])
      exact ⟨k1, le_of_mul hD (by rw [e1, e3]; exact k2), by omega⟩
    · have hL1 : ¬ (a < 0 ∧ 0 < b) := fun hL => h1 ⟨hL, Or.inr h2⟩
      refine ⟨0, by omega, fun P Q U V P' Q' U' V' hP hQ hU hV hP' hQ' e1 e2 e3 e4 w0 _ _ hle => ?_⟩
      have hQQ := w0 rfl
      have g : 0 ≤ a * P + b * Q := by rw [← e1]; exact Int.mul_nonneg (by omega) hU
      have h : 0 ≤ c * P + d * Q := by rw [← e2]; exact Int.mul_nonneg (by omega) hV
      have k1 := dom_zero hP hQ hP' hle g hL1
      have k2 := dom_zero hP hQ hP' hle h h2
      subst hQQ
      exact ⟨Int.le_refl _, le_of_mul hD (by rw [e1, e3]; omega), le_of_mul hD (by rw [e2, e4]; omega)⟩

/-! ### Coordinates -/
theorem fits_at {x y : Vec} : fits x y ↔ ∀ c, c < 4 → fit1 (x.at' c) (y.at' c) := by
  constructor
  · rintro ⟨h0, h1, h2, h3⟩ c hc
    match c, hc with
    | 0, _ => exact h0
    | 1, _ => exact h1
    | 2, _ => exact h2
    | 3, _ => exact h3
  · intro h; exact ⟨h 0 (by omega), h 1 (by omega), h 2 (by omega), h 3 (by omega)⟩
theorem cols_at {n : Nat} (hn : 1 ≤ n) {v : Vec} : inCols n v ↔ ∀ c, c < 4 → n ≤ c → v.at' c = 0 := by
  constructor
  · rintro ⟨h1, h2, h3⟩ c hc hnc
    match c, hc with
    | 0, _ => omega
    | 1, _ => exact h1 (by omega)
    | 2, _ => exact h2 (by omega)
    | 3, _ => exact h3 (by omega)
  · intro h; exact ⟨fun k => h 1 (by omega) (by omega), fun k => h 2 (by omega) (by omega), fun k => h 3 (by omega) (by omega)⟩
theorem at_stepTo {v : Vec} {j c : Nat} {k : Int} (hj : j < 4) (hc : c < 4) : (stepTo v j k).at' c = if c = j then v.at' c + k else v.at' c := by
  match j, hj, c, hc with
  | 0, _, 0, _ | 0, _, 1, _ | 0, _, 2, _ | 0, _, 3, _ => simp [stepTo, at']
  | 1, _, 0, _ | 1, _, 1, _ | 1, _, 2, _ | 1, _, 3, _ => simp [stepTo, at']
  | 2, _, 0, _ | 2, _, 1, _ | 2, _, 2, _ | 2, _, 3, _ => simp [stepTo, at']
  | 3, _, 0, _ | 3, _, 1, _ | 3, _, 2, _ | 3, _, 3, _ => simp [stepTo, at']
theorem ext_at {x y : Vec} (h : ∀ c, c < 4 → x.at' c = y.at' c) : x = y := ext4 (h 0 (by omega)) (h 1 (by omega)) (h 2 (by omega)) (h 3 (by omega))
theorem ne_zero_at {x : Vec} {c : Nat} (h : x.at' c ≠ 0) : x ≠ zero := fun e => h (by rw [e, zero_at])

/-- Two numbers, all else 0. -/
def two (j : Nat) (s : Int) (i : Nat) (t : Int) : Vec := stepTo (stepTo zero j s) i t
theorem two_at {j i c : Nat} {s t : Int} (hj : j < 4) (hi : i < 4) (hc : c < 4) : (two j s i t).at' c = (if c = j then s else 0) + (if c = i then t else 0) := by
  unfold two
  rw [at_stepTo hi hc, at_stepTo hj hc, zero_at]
  repeat' split
  all_goals omega
theorem dot_two {r : Vec} {j i : Nat} {s t : Int} (hj : j < 4) (hi : i < 4) : dot r (two j s i t) = s * r.at' j + t * r.at' i := by
  unfold two
  rw [dot_stepTo _ _ hi, dot_stepTo _ _ hj, dot_zero]; omega

/-- A basic move into which such a vector fits is it. -/
theorem Basic.is_two {m : Mx} (_ : m.ok) {v : Vec} (hv : Basic m v) {j i : Nat} {s t : Int} (hj : j < 4) (hi : i < 4) (hij : i ≠ j) (hs : fit1 s (v.at' j)) (ht : fit1 t (v.at' i)) (hs0 : s ≠ 0)
    (h0 : s * m.r0.at' j + t * m.r0.at' i = 0) (h1 : s * m.r1.at' j + t * m.r1.at' i = 0) : v.at' j = s ∧ v.at' i = t := by
  have hf : fits (two j s i t) v := fits_at.2 fun c hc => by
    rw [two_at hj hi hc]
    by_cases e1 : c = j
    · subst e1; simp only [if_true, if_neg (Ne.symm hij), Int.add_zero]; exact hs
    · by_cases e2 : c = i
      · subst e2; simp only [if_true, if_neg e1, Int.zero_add]; exact ht
      · simp only [if_neg e1, if_neg e2, Int.add_zero]; simp [fit1]
  have hcols : inCols m.n (two j s i t) := inCols_fits hv.cols hf
  have hne : two j s i t ≠ zero := ne_zero_at (c := j) (by rw [two_at hj hi hj]; simp [Ne.symm hij, hs0])
  have e := hv.least _ hcols ⟨by rw [dot_two hj hi]; exact h0, by rw [dot_two hj hi]; exact h1⟩ hne hf
  rw [← e, two_at hj hi hj, two_at hj hi hi]
  simp [hij, Ne.symm hij]

/-- In a column of 0 a basic move has 1 or -1. -/
theorem Basic.zero_col {m : Mx} (hm : m.ok) {v : Vec} (hv : Basic m v) {j : Nat} (hj : j < 4) (h0 : m.r0.at' j = 0) (h1 : m.r1.at' j = 0) : (v.at' j).natAbs ≤ 1 := by
  by_cases hz : v.at' j = 0
  · rw [hz]; simp
  · obtain ⟨i, hi, hij⟩ : ∃ i, i < 4 ∧ i ≠ j := by
      by_cases e : j = 0
      · exact ⟨1, by omega, by omega⟩
      · exact ⟨0, by omega, by omega⟩
    rcases Int.lt_or_gt_of_ne hz with h | h
    · have := (hv.is_two hm (s := -1) (t := 0) hj hi hij (by simp only [fit1]; omega) (by simp [fit1]) (by omega) (by rw [h0]; simp) (by rw [h1]; simp)).1
      rw [this]; decide
    · have := (hv.is_two hm (s := 1) (t := 0) hj hi hij (by simp only [fit1]; omega) (by simp [fit1]) (by omega) (by rw [h0]; simp) (by rw [h1]; simp)).1
      rw [this]; decide

/-! ### No number of a basic move is far from 0 -/
theorem abs_mul_low {x y : Int} (h : low x) : (x * y).natAbs ≤ 2 * y.natAbs := by
  have : x = -2 ∨ x = -1 ∨ x = 0 ∨ x = 1 ∨ x = 2 := by simp only [low] at h; omega
  rcases this with rfl | rfl | rfl | rfl | rfl <;> omega
theorem abs_mul_ne {x y : Int} (h : low x) (h0 : x ≠ 0) : y.natAbs ≤ (x * y).natAbs := by
  have : x = -2 ∨ x = -1 ∨ x = 1 ∨ x = 2 := by simp only [low] at h; omega
  rcases this with rfl | rfl | rfl | rfl <;> omega

theorem dot_at (r v : Vec) : dot r v = r.at' 0 * v.at' 0 + r.at' 1 * v.at' 1 + r.at' 2 * v.at' 2 + r.at' 3 * v.at' 3 := rfl
theorem norm_at (v : Vec) : norm v = (v.at' 0).natAbs + (v.at' 1).natAbs + (v.at' 2).natAbs + (v.at' 3).natAbs := rfl

theorem row_bound {r v : Vec} (hr : low r.a ∧ low r.b ∧ low r.c ∧ low r.d) (h : dot r v = 0) {j : Nat} (hj : j < 4) (hne : r.at' j ≠ 0) : (v.at' j).natAbs ≤ 2 * (norm v - (v.at' j).natAbs) := by
  have l0 := abs_mul_low (y := v.at' 0) (low_at hr 0)
  have l1 := abs_mul_low (y := v.at' 1) (low_at hr 1)
  have l2 := abs_mul_low (y := v.at' 2) (low_at hr 2)
  have l3 := abs_mul_low (y := v.at' 3) (low_at hr 3)
  have lj := abs_mul_ne (y := v.at' j) (low_at hr j) hne
  rw [dot_at] at h
  rw [norm_at]
  match j, hj with
  | 0, _ | 1, _ | 2, _ | 3, _ => omega

theorem Basic.le19 {m : Mx} (hm : m.ok) {v : Vec} (hv : Basic m v) {j : Nat} (hj : j < 4) : (v.at' j).natAbs ≤ 19 := by
  have hn := basic_norm hm hv
  by_cases h0 : m.r0.at' j = 0
  · by_cases h1 : m.r1.at' j = 0
    · have := hv.zero_col hm hj h0 h1; omega
    · have := row_bound hm.r1 hv.move.2 hj h1; omega
  · have := row_bound hm.r0 hv.move.1 hj h0; omega

/-! ### Two rows that count -/
def det (m : Mx) (x y : Nat) : Int := m.r0.at' x * m.r1.at' y - m.r0.at' y * m.r1.at' x
def eps (b : Bool) : Int := if b then 1 else -1
/-- A vector's signs. -/
def pat (v : Vec) (c : Nat) : Bool := decide (0 ≤ v.at' c)
theorem pat_abs (v : Vec) (c : Nat) : v.at' c = eps (pat v c) * ((v.at' c).natAbs : Int) := by
  unfold eps pat
  by_cases h : 0 ≤ v.at' c
  · simp only [h, decide_true, if_true]; omega
  · simp only [h, decide_false, Bool.false_eq_true, if_false]; omega
theorem eps_sq (b : Bool) : eps b * eps b = 1 := by cases b <;> rfl

structure Perm4 (i j k l : Nat) : Prop where
  i4 : i < 4
  j4 : j < 4
  k4 : k < 4
  l4 : l < 4
  all : ∀ c, c < 4 → c = i ∨ c = j ∨ c = k ∨ c = l
  dot : ∀ r v : Vec, dot r v = r.at' i * v.at' i + r.at' j * v.at' j + r.at' k * v.at' k + r.at' l * v.at' l

theorem ring1 (ai aj ak al bi bj bk bl u v p q : Int) : (ai * bj - aj * bi) * u + (ak * bj - aj * bk) * p + (al * bj - aj * bl) * q = bj * (ai * u + aj * v + ak * p + al * q) - aj * (bi * u + bj * v + bk * p + bl * q) := by grind
theorem ring2 (ai aj ak al bi bj bk bl u v p q : Int) : (ai * bj - aj * bi) * v + -(ak * bi - ai * bk) * p + -(al * bi - ai * bl) * q = ai * (bi * u + bj * v + bk * p + bl * q) - bi * (ai * u + aj * v + ak * p + al * q) := by grind
theorem ring3 {d e f σ pi pk pl U P Q : Int} (ei : pi * pi = 1) (h : d * (pi * U) + e * (pk * P) + f * (pl * Q) = 0) : σ * d * U = -(σ * pi * pk * e) * P + -(σ * pi * pl * f) * Q := by
  have h1 : d * (pi * U) = -(e * (pk * P)) - f * (pl * Q) := by omega
  have h2 : σ * d * U = σ * pi * (d * (pi * U)) := by
    have : σ * pi * (d * (pi * U)) = σ * d * U * (pi * pi) := by grind
    rw [this, ei]; simp
  rw [h2, h1]; grind

theorem rank2 {m : Mx} {i j k l : Nat} (hp : Perm4 i j k l) (hD : det m i j ≠ 0) (s : Nat → Bool) :
    ∃ c, c < 4 ∧ ∀ x y : Vec, Basic m x → Basic m y → (∀ c, c < 4 → pat x c = s c) → (∀ c, c < 4 → pat y c = s c) → (x.at' c).natAbs = (y.at' c).natAbs → x = y := by
  obtain ⟨D, hDp, σ, hσ, hDe⟩ : ∃ D : Int, 0 < D ∧ ∃ σ : Int, σ * σ = 1 ∧ D = σ * det m i j := by
    rcases Int.lt_or_gt_of_ne hD with h | h
    · exact ⟨-det m i j, by omega, -1, by decide, by omega⟩
    · exact ⟨det m i j, h, 1, by decide, by omega⟩
  obtain ⟨w, hw, hsec⟩ := sector hDp (-(σ * eps (s i) * eps (s k) * det m k j)) (-(σ * eps (s i) * eps (s l) * det m l j)) (σ * eps (s j) * eps (s k) * det m k i) (σ * eps (s j) * eps (s l) * det m l i)
  have ei := eps_sq (s i); have ej := eps_sq (s j)
  have eqs : ∀ x : Vec, Basic m x → (∀ c, c < 4 → pat x c = s c) →
      D * ((x.at' i).natAbs : Int) = -(σ * eps (s i) * eps (s k) * det m k j) * ((x.at' k).natAbs : Int) + -(σ * eps (s i) * eps (s l) * det m l j) * ((x.at' l).natAbs : Int) ∧
      D * ((x.at' j).natAbs : Int) = (σ * eps (s j) * eps (s k) * det m k i) * ((x.at' k).natAbs : Int) + (σ * eps (s j) * eps (s l) * det m l i) * ((x.at' l).natAbs : Int) := by
    intro x hx hs
    have m0 := hx.move.1; have m1 := hx.move.2
    rw [hp.dot] at m0 m1
    have xi := pat_abs x i; have xj := pat_abs x j; have xk := pat_abs x k; have xl := pat_abs x l
    rw [hs i hp.i4] at xi; rw [hs j hp.j4] at xj; rw [hs k hp.k4] at xk; rw [hs l hp.l4] at xl
    generalize ((x.at' i).natAbs : Int) = U at xi ⊢
    generalize ((x.at' j).natAbs : Int) = V at xj ⊢
    generalize ((x.at' k).natAbs : Int) = P at xk ⊢
    generalize ((x.at' l).natAbs : Int) = Q at xl ⊢
    rw [xi, xj, xk, xl] at m0 m1
    rw [hDe]
    simp only [det]
    constructor
    · exact ring3 ei (by rw [ring1 _ _ _ _ _ _ _ _ _ (eps (s j) * V), m0, m1]; simp)
    · have h : (m.r0.at' i * m.r1.at' j - m.r0.at' j * m.r1.at' i) * (eps (s j) * V) + -(m.r0.at' k * m.r1.at' i - m.r0.at' i * m.r1.at' k) * (eps (s k) * P) + -(m.r0.at' l * m.r1.at' i - m.r0.at' i * m.r1.at' l) * (eps (s l) * Q) = 0 := by
        rw [ring2 _ _ _ _ _ _ _ _ (eps (s i) * U), m0, m1]; simp
      have := ring3 (σ := σ) ej h
      rw [this]; simp only [Int.mul_neg, Int.neg_neg]
  have main : ∀ x y : Vec, Basic m x → Basic m y → (∀ c, c < 4 → pat x c = s c) → (∀ c, c < 4 → pat y c = s c) → (w = 0 → (x.at' l).natAbs = (y.at' l).natAbs) → (w = 1 → (x.at' i).natAbs = (y.at' i).natAbs) → (w = 2 → (x.at' j).natAbs = (y.at' j).natAbs) →
      (y.at' k).natAbs ≤ (x.at' k).natAbs → x = y := by
    intro x y hx hy hsx hsy h0 h1 h2 hle
    obtain ⟨q1, q2⟩ := eqs x hx hsx
    obtain ⟨q3, q4⟩ := eqs y hy hsy
    obtain ⟨g1, g2, g3⟩ := hsec _ _ _ _ _ _ _ _ (by omega) (by omega) (by omega) (by omega) (by omega) (by omega) q1 q2 q3 q4 (fun h => by have := h0 h; omega) (fun h => by have := h1 h; omega) (fun h => by have := h2 h; omega) (by omega)
    have hf : fits y x := fits_at.2 fun c hc => by
      have hle : (y.at' c).natAbs ≤ (x.at' c).natAbs := by
        rcases hp.all c hc with rfl | rfl | rfl | rfl <;> omega
      have hxc := hsx c hc; have hyc := hsy c hc
      unfold pat at hxc hyc
      rw [← hxc] at hyc
      have : (0 ≤ y.at' c) ↔ (0 ≤ x.at' c) := by simpa using hyc
      simp only [fit1]; omega
    exact (hx.least y hy.cols hy.move hy.ne hf).symm
  have hcase : w = 0 ∨ w = 1 ∨ w = 2 := by omega
  rcases hcase with rfl | rfl | rfl
  · refine ⟨l, hp.l4, fun x y hx hy hsx hsy he => ?_⟩
    rcases Nat.le_total (y.at' k).natAbs (x.at' k).natAbs with h | h
    · exact main x y hx hy hsx hsy (fun _ => he) (by omega) (by omega) h
    · exact (main y x hy hx hsy hsx (fun _ => he.symm) (by omega) (by omega) h).symm
  · refine ⟨i, hp.i4, fun x y hx hy hsx hsy he => ?_⟩
    rcases Nat.le_total (y.at' k).natAbs (x.at' k).natAbs with h | h
    · exact main x y hx hy hsx hsy (by omega) (fun _ => he) (by omega) h
    · exact (main y x hy hx hsy hsx (by omega) (fun _ => he.symm) (by omega) h).symm
  · refine ⟨j, hp.j4, fun x y hx hy hsx hsy he => ?_⟩
    rcases Nat.le_total (y.at' k).natAbs (x.at' k).natAbs with h | h
    · exact main x y hx hy hsx hsy (by omega) (by omega) (fun _ => he) h
    · exact (main y x hy hx hsy hsx (by omega) (by omega) (fun _ => he.symm) h).symm
end Go.Proofs.Ytaglbnblfhfkeaa
