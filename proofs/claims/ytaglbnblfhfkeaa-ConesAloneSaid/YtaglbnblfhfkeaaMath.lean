/-
  Plain mathematics: vectors of four whole numbers, moves, basic moves; steps that point away from the product reach every basic move and come to an end.
-/
namespace Go.Proofs.Ytaglbnblfhfkeaa

structure Vec where
  a : Int
  b : Int
  c : Int
  d : Int
deriving DecidableEq

namespace Vec
def at' (v : Vec) : Nat → Int
  | 0 => v.a
  | 1 => v.b
  | 2 => v.c
  | 3 => v.d
  | _ => 0
def zero : Vec := ⟨0, 0, 0, 0⟩
def dot (x y : Vec) : Int := x.a * y.a + x.b * y.b + x.c * y.c + x.d * y.d
def sub (x y : Vec) : Vec := ⟨x.a - y.a, x.b - y.b, x.c - y.c, x.d - y.d⟩
def norm (v : Vec) : Nat := v.a.natAbs + v.b.natAbs + v.c.natAbs + v.d.natAbs
def fit1 (x y : Int) : Prop := (0 < x → x ≤ y) ∧ (x < 0 → y ≤ x)
def fits (x y : Vec) : Prop := fit1 x.a y.a ∧ fit1 x.b y.b ∧ fit1 x.c y.c ∧ fit1 x.d y.d

theorem ext_iff' {x y : Vec} : x = y ↔ x.a = y.a ∧ x.b = y.b ∧ x.c = y.c ∧ x.d = y.d := by
  constructor
  · rintro rfl; exact ⟨rfl, rfl, rfl, rfl⟩
  · rintro ⟨h1, h2, h3, h4⟩
    cases x; cases y; simp_all

theorem fit1_refl (x : Int) : fit1 x x := by simp only [fit1]; omega
theorem fit1_trans {x y z : Int} (h : fit1 x y) (k : fit1 y z) : fit1 x z := by simp only [fit1] at *; omega
theorem fit1_abs {x y : Int} (h : fit1 x y) : x.natAbs ≤ y.natAbs := by simp only [fit1] at *; omega
theorem fit1_eq {x y : Int} (h : fit1 x y) (k : y.natAbs ≤ x.natAbs) : x = y := by simp only [fit1] at *; omega
theorem fit1_sub {x y : Int} (h : fit1 x y) : fit1 (y - x) y := by simp only [fit1] at *; omega
theorem fit1_abs_sub {x y : Int} (h : fit1 x y) : (y - x).natAbs + x.natAbs = y.natAbs := by simp only [fit1] at *; omega
theorem fits_refl (x : Vec) : fits x x := ⟨fit1_refl _, fit1_refl _, fit1_refl _, fit1_refl _⟩
theorem fits_trans {x y z : Vec} (h : fits x y) (k : fits y z) : fits x z := ⟨fit1_trans h.1 k.1, fit1_trans h.2.1 k.2.1, fit1_trans h.2.2.1 k.2.2.1, fit1_trans h.2.2.2 k.2.2.2⟩
theorem fits_norm {x y : Vec} (h : fits x y) : norm x ≤ norm y := by
  have h1 := fit1_abs h.1; have h2 := fit1_abs h.2.1; have h3 := fit1_abs h.2.2.1; have h4 := fit1_abs h.2.2.2
  simp only [norm]; omega
theorem fits_eq {x y : Vec} (h : fits x y) (k : norm x = norm y) : x = y := by
  have h1 := fit1_abs h.1; have h2 := fit1_abs h.2.1; have h3 := fit1_abs h.2.2.1; have h4 := fit1_abs h.2.2.2
  simp only [norm] at k
  rw [ext_iff']
  exact ⟨fit1_eq h.1 (by omega), fit1_eq h.2.1 (by omega), fit1_eq h.2.2.1 (by omega), fit1_eq h.2.2.2 (by omega)⟩
theorem fits_sub {x y : Vec} (h : fits x y) : fits (sub y x) y := ⟨fit1_sub h.1, fit1_sub h.2.1, fit1_sub h.2.2.1, fit1_sub h.2.2.2⟩
theorem norm_sub {x y : Vec} (h : fits x y) : norm (sub y x) + norm x = norm y := by
  have h1 := fit1_abs_sub h.1; have h2 := fit1_abs_sub h.2.1; have h3 := fit1_abs_sub h.2.2.1; have h4 := fit1_abs_sub h.2.2.2
  simp only [norm, sub]; omega
theorem norm_zero {x : Vec} (h : norm x = 0) : x = zero := by
  rw [ext_iff']; simp only [norm, zero] at *; omega
theorem zero_norm : norm zero = 0 := rfl
theorem zero_fits (x : Vec) : fits zero x := by
  have h : ∀ y : Int, fit1 0 y := fun y => by simp only [fit1]; omega
  exact ⟨h _, h _, h _, h _⟩
end Vec
open Vec

/-- A matrix of two rows for n columns; behind the columns there is 0. -/
structure Mx where
  r0 : Vec
  r1 : Vec
  n : Nat

def low (x : Int) : Prop := -2 ≤ x ∧ x ≤ 2
structure Mx.ok (m : Mx) : Prop where
  n1 : 1 ≤ m.n
  n4 : m.n ≤ 4
  r0 : low m.r0.a ∧ low m.r0.b ∧ low m.r0.c ∧ low m.r0.d
  r1 : low m.r1.a ∧ low m.r1.b ∧ low m.r1.c ∧ low m.r1.d

/-- A vector has 0 behind the columns. -/
def inCols (n : Nat) (v : Vec) : Prop := (n ≤ 1 → v.b = 0) ∧ (n ≤ 2 → v.c = 0) ∧ (n ≤ 3 → v.d = 0)

def isMove (m : Mx) (v : Vec) : Prop := dot m.r0 v = 0 ∧ dot m.r1 v = 0
structure Basic (m : Mx) (v : Vec) : Prop where
  cols : inCols m.n v
  move : isMove m v
  ne : v ≠ zero
  least : ∀ y, inCols m.n y → isMove m y → y ≠ zero → fits y v → y = v

theorem inCols_sub {n : Nat} {x y : Vec} (h : inCols n x) (k : inCols n y) : inCols n (sub x y) := by
  simp only [inCols, sub] at *; omega
theorem inCols_fits {n : Nat} {x y : Vec} (h : inCols n y) (k : fits x y) : inCols n x := by
  simp only [inCols, fits, fit1] at *; omega

theorem dot_sub (r x y : Vec) : dot r (sub x y) = dot r x - dot r y := by
  simp only [dot, sub, Int.mul_sub]; omega

/-- Below every move that is not 0 there is a basic one. -/
theorem basic_below (m : Mx) : ∀ k (y : Vec), norm y ≤ k → inCols m.n y → isMove m y → y ≠ zero → ∃ x, Basic m x ∧ fits x y := by
  intro k
  induction k with
  | zero => intro y hk _ _ hy; exact absurd (norm_zero (by omega)) hy
  | succ k ih =>
    intro y hk hc hm hy
    by_cases h : ∃ z, inCols m.n z ∧ isMove m z ∧ z ≠ zero ∧ fits z y ∧ z ≠ y
    · obtain ⟨z, h1, h2, h3, h4, h5⟩ := h
      have hn := fits_norm h4
      have hne : norm z ≠ norm y := fun e => h5 (fits_eq h4 e)
      obtain ⟨x, hx, hf⟩ := ih z (by omega) h1 h2 h3
      exact ⟨x, hx, fits_trans hf h4⟩
    · refine ⟨y, ⟨hc, hm, hy, fun z h1 h2 h3 h4 => ?_⟩, fits_refl y⟩
      exact Classical.byContradiction fun h5 => h ⟨z, h1, h2, h3, h4, h5⟩

/-- The product of a vector turned to column j. -/
def turn (m : Mx) (v : Vec) (j : Nat) : Int := dot m.r0 v * m.r0.at' j + dot m.r1 v * m.r1.at' j
/-- n more in column j. -/
def stepTo (v : Vec) (j : Nat) (n : Int) : Vec :=
  match j with
  | 0 => { v with a := v.a + n }
  | 1 => { v with b := v.b + n }
  | 2 => { v with c := v.c + n }
  | 3 => { v with d := v.d + n }
  | _ => v

/-- The steps from v, by column. -/
def isStep (m : Mx) (v w : Vec) : Prop := ∃ j, j < m.n ∧ ((turn m v j < 0 ∧ 0 ≤ v.at' j ∧ w = stepTo v j 1) ∨ (0 < turn m v j ∧ v.at' j ≤ 0 ∧ w = stepTo v j (-1)))

theorem stepTo_fits {v : Vec} {j : Nat} (h : 0 ≤ v.at' j) : fits v (stepTo v j 1) := by
  match j with
  | 0 | 1 | 2 | 3 => simp only [fits, fit1, stepTo, at'] at *; omega
  | _ + 4 => exact fits_refl v
theorem stepTo_fits' {v : Vec} {j : Nat} (h : v.at' j ≤ 0) : fits v (stepTo v j (-1)) := by
  match j with
  | 0 | 1 | 2 | 3 => simp only [fits, fit1, stepTo, at'] at *; omega
  | _ + 4 => exact fits_refl v
theorem stepTo_norm {v : Vec} {j : Nat} (hj : j < 4) (h : 0 ≤ v.at' j) : norm (stepTo v j 1) = norm v + 1 := by
  match j, hj with
  | 0, _ | 1, _ | 2, _ | 3, _ => simp only [norm, stepTo, at'] at *; omega
theorem stepTo_norm' {v : Vec} {j : Nat} (hj : j < 4) (h : v.at' j ≤ 0) : norm (stepTo v j (-1)) = norm v + 1 := by
  match j, hj with
  | 0, _ | 1, _ | 2, _ | 3, _ => simp only [norm, stepTo, at'] at *; omega
theorem stepTo_cols {v : Vec} {j n : Nat} {k : Int} (hj : j < n) (h : inCols n v) : inCols n (stepTo v j k) := by
  match j with
  | 0 | 1 | 2 | 3 => simp only [inCols, stepTo] at *; omega
  | _ + 4 => exact h

theorem isStep_fits {m : Mx} {v w : Vec} (h : isStep m v w) : fits v w := by
  obtain ⟨j, hj, ⟨_, h1, rfl⟩ | ⟨_, h1, rfl⟩⟩ := h
  · exact stepTo_fits h1
  · exact stepTo_fits' h1
theorem isStep_norm {m : Mx} (hm : m.ok) {v w : Vec} (h : isStep m v w) : norm w = norm v + 1 := by
  have := hm.n4
  obtain ⟨j, hj, ⟨_, h1, rfl⟩ | ⟨_, h1, rfl⟩⟩ := h
  · exact stepTo_norm (by omega) h1
  · exact stepTo_norm' (by omega) h1
theorem isStep_cols {m : Mx} {v w : Vec} (hv : inCols m.n v) (h : isStep m v w) : inCols m.n w := by
  obtain ⟨j, hj, ⟨_, _, rfl⟩ | ⟨_, _, rfl⟩⟩ := h
  · exact stepTo_cols hj hv
  · exact stepTo_cols hj hv

theorem mul_neg_two {x y : Int} (h : x * y < 0) : (0 < x ∧ y < 0) ∨ (x < 0 ∧ 0 < y) := by
  rcases Int.lt_trichotomy x 0 with hx | hx | hx
  · rcases Int.lt_trichotomy y 0 with hy | hy | hy
    · have := Int.mul_pos_of_neg_of_neg hx hy; omega
    · subst hy; simp at h
    · exact Or.inr ⟨hx, hy⟩
  · subst hx; simp at h
  · rcases Int.lt_trichotomy y 0 with hy | hy | hy
    · exact Or.inl ⟨hx, hy⟩
    · subst hy; simp at h
    · have := Int.mul_pos hx hy; omega
theorem sq_pos {x : Int} (h : x ≠ 0) : 0 < x * x := by
  rcases Int.lt_trichotomy x 0 with hx | hx | hx
  · exact Int.mul_pos_of_neg_of_neg hx hx
  · exact absurd hx h
  · exact Int.mul_pos hx hx
theorem sq_nonneg (x : Int) : 0 ≤ x * x := by
  by_cases h : x = 0
  · subst h; simp
  · exact Int.le_of_lt (sq_pos h)

theorem step_col {m : Mx} (hn1 : 1 ≤ m.n) {v x : Vec} (j : Nat) (hj : j < 4) (hv : inCols m.n v) (hx : inCols m.n x) (hf : fits v x) (h : (x.at' j - v.at' j) * turn m v j < 0) : ∃ w, isStep m v w ∧ fits w x := by
  have hjn : j < m.n := by
    refine Nat.lt_of_not_le fun hle => ?_
    have h0 : x.at' j - v.at' j = 0 := by
      match j, hj with
      | 0, _ => omega
      | 1, _ => simp only [at', inCols] at *; omega
      | 2, _ => simp only [at', inCols] at *; omega
      | 3, _ => simp only [at', inCols] at *; omega
    rw [h0] at h; simp at h
  rcases mul_neg_two h with ⟨h1, h2⟩ | ⟨h1, h2⟩
  · have hv0 : 0 ≤ v.at' j := by
      match j, hj with
      | 0, _ | 1, _ | 2, _ | 3, _ => simp only [at', fits, fit1] at *; omega
    refine ⟨stepTo v j 1, ⟨j, hjn, Or.inl ⟨h2, hv0, rfl⟩⟩, ?_⟩
    match j, hj with
    | 0, _ | 1, _ | 2, _ | 3, _ => simp only [at', fits, fit1, stepTo] at *; omega
  · have hv0 : v.at' j ≤ 0 := by
      match j, hj with
      | 0, _ | 1, _ | 2, _ | 3, _ => simp only [at', fits, fit1] at *; omega
    refine ⟨stepTo v j (-1), ⟨j, hjn, Or.inr ⟨h2, hv0, rfl⟩⟩, ?_⟩
    match j, hj with
    | 0, _ | 1, _ | 2, _ | 3, _ => simp only [at', fits, fit1, stepTo] at *; omega

/-- One of the steps leads on, if v fits into a move and is none. -/
theorem step_on {m : Mx} (hok : m.ok) {v x : Vec} (hv : inCols m.n v) (hx : inCols m.n x) (hf : fits v x) (hm : isMove m x) (hn : ¬ isMove m v) : ∃ w, isStep m v w ∧ fits w x := by
  have key : (x.at' 0 - v.at' 0) * turn m v 0 + (x.at' 1 - v.at' 1) * turn m v 1 + (x.at' 2 - v.at' 2) * turn m v 2 + (x.at' 3 - v.at' 3) * turn m v 3 < 0 := by
    have e : (x.at' 0 - v.at' 0) * turn m v 0 + (x.at' 1 - v.at' 1) * turn m v 1 + (x.at' 2 - v.at' 2) * turn m v 2 + (x.at' 3 - v.at' 3) * turn m v 3 =
        dot m.r0 v * (dot m.r0 x - dot m.r0 v) + dot m.r1 v * (dot m.r1 x - dot m.r1 v) := by
      simp only [turn, at', dot]; grind
    rw [e, hm.1, hm.2]
    have h0 := sq_nonneg (dot m.r0 v)
    have h1 := sq_nonneg (dot m.r1 v)
    have h2 : 0 < dot m.r0 v * dot m.r0 v ∨ 0 < dot m.r1 v * dot m.r1 v := by
      by_cases hz : dot m.r0 v = 0
      · exact Or.inr (sq_pos fun hz' => hn ⟨hz, hz'⟩)
      · exact Or.inl (sq_pos hz)
    simp only [Int.zero_sub, Int.mul_neg]
    omega
  have h4 : (x.at' 0 - v.at' 0) * turn m v 0 < 0 ∨ (x.at' 1 - v.at' 1) * turn m v 1 < 0 ∨ (x.at' 2 - v.at' 2) * turn m v 2 < 0 ∨ (x.at' 3 - v.at' 3) * turn m v 3 < 0 := by omega
  rcases h4 with h | h | h | h
  · exact step_col hok.n1 0 (by omega) hv hx hf h
  · exact step_col hok.n1 1 (by omega) hv hx hf h
  · exact step_col hok.n1 2 (by omega) hv hx hf h
  · exact step_col hok.n1 3 (by omega) hv hx hf h

/-! ### The products stay small -/

def inP (p q : Int) : Bool := decide (-3 ≤ p ∧ p ≤ 3 ∧ -3 ≤ q ∧ q ≤ 3 ∧ (p = 3 → q = 0) ∧ (p = -3 → q = 0) ∧ (q = 3 → p = 0) ∧ (q = -3 → p = 0))
def L7 : List Int := [-3, -2, -1, 0, 1, 2, 3]
def L5 : List Int := [-2, -1, 0, 1, 2]
theorem mem_L7 {x : Int} (h : -3 ≤ x ∧ x ≤ 3) : x ∈ L7 := by simp only [L7, List.mem_cons, List.not_mem_nil]; omega
theorem mem_L5 {x : Int} (h : low x) : x ∈ L5 := by simp only [L5, List.mem_cons, List.not_mem_nil, low] at *; omega

theorem inP_closed' : (L7.all fun p => L7.all fun q => L5.all fun a => L5.all fun b => !(inP p q && decide (p * a + q * b < 0)) || inP (p + a) (q + b)) = true := by decide +kernel
theorem inP_low' : (L5.all fun a => L5.all fun b => inP a b) = true := by decide +kernel
/-- The products that there are. -/
def allP : List (Int × Int) := (L7.flatMap fun p => L7.map fun q => (p, q)).filter fun x => inP x.1 x.2
theorem allP_len : allP.length = 29 := by decide +kernel
theorem mem_allP {p q : Int} (h : inP p q = true) : (p, q) ∈ allP := by
  have h' := of_decide_eq_true h
  exact List.mem_filter.2 ⟨List.mem_flatMap.2 ⟨p, mem_L7 (by omega), List.mem_map.2 ⟨q, mem_L7 (by omega), rfl⟩⟩, h⟩
theorem inP_step {p q a b : Int} (h : inP p q = true) (ha : low a) (hb : low b) (ht : p * a + q * b < 0) : inP (p + a) (q + b) = true := by
  have h' := of_decide_eq_true h
  have := List.all_eq_true.1 (List.all_eq_true.1 (List.all_eq_true.1 (List.all_eq_true.1 inP_closed' p (mem_L7 (by omega))) q (mem_L7 (by omega))) a (mem_L5 ha)) b (mem_L5 hb)
  simpa [h, ht] using this
theorem inP_low {a b : Int} (ha : low a) (hb : low b) : inP a b = true :=
  List.all_eq_true.1 (List.all_eq_true.1 inP_low' a (mem_L5 ha)) b (mem_L5 hb)

end Go.Proofs.Ytaglbnblfhfkeaa
