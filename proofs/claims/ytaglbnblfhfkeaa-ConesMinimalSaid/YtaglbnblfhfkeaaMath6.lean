import Derived.Test.YtaglbnblfhfkeaaMath5
namespace Go.Proofs.Ytaglbnblfhfkeaa
open Vec

theorem Basic.is_two' {m : Mx} {v : Vec} (hv : Basic m v) {j i : Nat} {s t : Int} (hj : j < 4) (hi : i < 4) (hij : i ≠ j) (hs : fit1 s (v.at' j)) (ht : fit1 t (v.at' i)) (hs0 : s ≠ 0) (hmv : isMove m (two j s i t)) : v.at' j = s ∧ v.at' i = t := by
  have hf : fits (two j s i t) v := fits_at.2 fun c hc => by
    rw [two_at hj hi hc]
    by_cases e1 : c = j
    · subst e1; simp only [if_true, if_neg (Ne.symm hij), Int.add_zero]; exact hs
    · by_cases e2 : c = i
      · subst e2; simp only [if_true, if_neg e1, Int.zero_add]; exact ht
      · simp only [if_neg e1, if_neg e2, Int.add_zero]; simp [fit1]
  have hcols : inCols m.n (two j s i t) := inCols_fits hv.cols hf
  have hne : two j s i t ≠ zero := ne_zero_at (c := j) (by rw [two_at hj hi hj]; simp [Ne.symm hij, hs0])
  have e := hv.least _ hcols hmv hne hf
  rw [← e, two_at hj hi hj, two_at hj hi hi]
  simp [hij, Ne.symm hij]

set_option maxHeartbeats 2000000 in
theorem opp {m : Mx} {r v : Vec} (hr : low r.a ∧ low r.b ∧ low r.c ∧ low r.d) (hmv : ∀ v, dot r v = 0 → isMove m v) (hv : Basic m v) {j i : Nat} (hj : j < 4) (hi : i < 4) (hij : i ≠ j) (h3 : 3 ≤ (v.at' j).natAbs)
    (ho : (0 < r.at' j * v.at' j ∧ r.at' i * v.at' i < 0) ∨ (r.at' j * v.at' j < 0 ∧ 0 < r.at' i * v.at' i)) : (r.at' j).natAbs = 2 ∧ (r.at' i * v.at' i).natAbs ≤ 1 := by
  have key : ∀ s t : Int, s ≠ 0 → fit1 s (v.at' j) → fit1 t (v.at' i) → s * r.at' j + t * r.at' i = 0 → v.at' j = s := fun s t hs0 hs ht h0 =>
    (hv.is_two' hj hi hij hs ht hs0 (hmv _ (by rw [dot_two hj hi]; exact h0))).1
  have hrj : r.at' j = -2 ∨ r.at' j = -1 ∨ r.at' j = 0 ∨ r.at' j = 1 ∨ r.at' j = 2 := by have := low_at hr j; simp only [low] at this; omega
  have hri : r.at' i = -2 ∨ r.at' i = -1 ∨ r.at' i = 0 ∨ r.at' i = 1 ∨ r.at' i = 2 := by have := low_at hr i; simp only [low] at this; omega
  generalize v.at' j = x at *
  generalize v.at' i = y at *
  generalize r.at' j = a at *
  generalize r.at' i = b at *
  have hx : x < 0 ∨ 0 < x := by omega
  have hy : y < 0 ∨ 0 < y := by
    rcases Int.lt_trichotomy y 0 with h | h | h
    · exact Or.inl h
    · subst h; simp at ho
    · exact Or.inr h
  clear hmv hv hr hj hi hij
  rcases hx with hx | hx <;> rcases hy with hy | hy
  · have k1 := key (-1) (-1); have k2 := key (-2) (-1); have k3 := key (-1) (-2)
    clear key
    simp only [fit1] at *
    rcases hrj with rfl | rfl | rfl | rfl | rfl <;> rcases hri with rfl | rfl | rfl | rfl | rfl <;> omega
  · have k1 := key (-1) 1; have k2 := key (-2) 1; have k3 := key (-1) 2
    clear key
    simp only [fit1] at *
    rcases hrj with rfl | rfl | rfl | rfl | rfl <;> rcases hri with rfl | rfl | rfl | rfl | rfl <;> omega
  · have k1 := key 1 (-1); have k2 := key 2 (-1); have k3 := key 1 (-2)
    clear key
    simp only [fit1] at *
    rcases hrj with rfl | rfl | rfl | rfl | rfl <;> rcases hri with rfl | rfl | rfl | rfl | rfl <;> omega
  · have k1 := key 1 1; have k2 := key 2 1; have k3 := key 1 2
    clear key
    simp only [fit1] at *
    rcases hrj with rfl | rfl | rfl | rfl | rfl <;> rcases hri with rfl | rfl | rfl | rfl | rfl <;> omega

theorem single {m : Mx} (_ : m.ok) {r v : Vec} (hr : low r.a ∧ low r.b ∧ low r.c ∧ low r.d) (hmv : ∀ v, isMove m v ↔ dot r v = 0) (hv : Basic m v) {j : Nat} (hj : j < 4) : (v.at' j).natAbs ≤ 2 := by
  refine Classical.byContradiction fun hcon => ?_
  have h3 : 3 ≤ (v.at' j).natAbs := by omega
  by_cases hz : r.at' j = 0
  · obtain ⟨i, hi, hij⟩ : ∃ i, i < 4 ∧ i ≠ j := by
      by_cases e : j = 0
      · exact ⟨1, by omega, by omega⟩
      · exact ⟨0, by omega, by omega⟩
    have mv : ∀ s : Int, isMove m (two j s i 0) := fun s => (hmv _).2 (by rw [dot_two hj hi, hz]; simp)
    rcases Int.lt_or_gt_of_ne (show v.at' j ≠ 0 by omega) with h | h
    · have := (hv.is_two' (s := -1) (t := 0) hj hi hij (by simp only [fit1]; omega) (by simp [fit1]) (by omega) (mv _)).1
      omega
    · have := (hv.is_two' (s := 1) (t := 0) hj hi hij (by simp only [fit1]; omega) (by simp [fit1]) (by omega) (mv _)).1
      omega
  · have hd := (hmv v).1 hv.move
    rw [dot_at] at hd
    have ha := abs_mul_ne (y := v.at' j) (low_at hr j) hz
    have ha2 : (r.at' j).natAbs = 2 → 2 * (v.at' j).natAbs ≤ (r.at' j * v.at' j).natAbs := fun h => by rw [Int.natAbs_mul, h]; exact Nat.le_refl _
    have pos : 0 < r.at' j * v.at' j → ∀ i, i < 4 → i ≠ j → -1 ≤ r.at' i * v.at' i ∧ (r.at' i * v.at' i < 0 → (r.at' j).natAbs = 2) := fun hp i hi hij => by
      by_cases h : r.at' i * v.at' i < 0
      · have := opp (i := i) hr (fun v h => (hmv v).2 h) hv hj hi hij h3 (Or.inl ⟨hp, h⟩)
        omega
      · omega
    have neg' : r.at' j * v.at' j < 0 → ∀ i, i < 4 → i ≠ j → r.at' i * v.at' i ≤ 1 ∧ (0 < r.at' i * v.at' i → (r.at' j).natAbs = 2) := fun hp i hi hij => by
      by_cases h : 0 < r.at' i * v.at' i
      · have := opp (i := i) hr (fun v h => (hmv v).2 h) hv hj hi hij h3 (Or.inr ⟨hp, h⟩)
        omega
      · omega
    have go : ∀ x y z : Nat, x < 4 → y < 4 → z < 4 → x ≠ j → y ≠ j → z ≠ j → r.at' j * v.at' j + r.at' x * v.at' x + r.at' y * v.at' y + r.at' z * v.at' z = 0 → False := by
      intro x y z hx hy hz' hxj hyj hzj hs
      have hT : r.at' j * v.at' j < 0 ∨ 0 < r.at' j * v.at' j := by omega
      rcases hT with hT | hT
      · have g1 := neg' hT x hx hxj; have g2 := neg' hT y hy hyj; have g3 := neg' hT z hz' hzj
        clear pos neg' hd
        by_cases h2 : (r.at' j).natAbs = 2
        · have := ha2 h2; omega
        · omega
      · have g1 := pos hT x hx hxj; have g2 := pos hT y hy hyj; have g3 := pos hT z hz' hzj
        clear pos neg' hd
        by_cases h2 : (r.at' j).natAbs = 2
        · have := ha2 h2; omega
        · omega
    match j, hj with
    | 0, _ => exact go 1 2 3 (by omega) (by omega) (by omega) (by omega) (by omega) (by omega) (by omega)
    | 1, _ => exact go 0 2 3 (by omega) (by omega) (by omega) (by omega) (by omega) (by omega) (by omega)
    | 2, _ => exact go 0 1 3 (by omega) (by omega) (by omega) (by omega) (by omega) (by omega) (by omega)
    | 3, _ => exact go 0 1 2 (by omega) (by omega) (by omega) (by omega) (by omega) (by omega) (by omega)

/-! ### Counting -/
theorem inj_len {β : Type} [DecidableEq β] {l : List Vec} (hn : l.Nodup) (f : Vec → β) (k : List β) (hk : ∀ v ∈ l, f v ∈ k) (hi : ∀ v ∈ l, ∀ w ∈ l, f v = f w → v = w) : l.length ≤ k.length := by
  have h1 : (l.map f).Nodup := List.pairwise_map.2 (hn.imp_of_mem fun {a b} ha hb hab e => hab (hi a ha b hb e))
  have h2 := nodup_len h1 (k := k) (fun x hx => by obtain ⟨v, hv, rfl⟩ := List.mem_map.1 hx; exact hk v hv)
  rwa [List.length_map] at h2

def sOf (b0 b1 b2 b3 : Bool) : Nat → Bool
  | 0 => b0
  | 1 => b1
  | 2 => b2
  | _ => b3
def BB : List Bool := [true, false]
def codes : List (Bool × Bool × Bool × Bool × Nat) := BB.flatMap fun a => BB.flatMap fun b => BB.flatMap fun c => BB.flatMap fun d => (List.range 20).map fun n => (a, b, c, d, n)
theorem codes_len : codes.length = 320 := by decide +kernel
theorem mem_BB (b : Bool) : b ∈ BB := by cases b <;> simp [BB]
theorem mem_codes (a b c d : Bool) {n : Nat} (h : n < 20) : (a, b, c, d, n) ∈ codes :=
  List.mem_flatMap.2 ⟨a, mem_BB a, List.mem_flatMap.2 ⟨b, mem_BB b, List.mem_flatMap.2 ⟨c, mem_BB c, List.mem_flatMap.2 ⟨d, mem_BB d, List.mem_map.2 ⟨n, List.mem_range.2 h, rfl⟩⟩⟩⟩⟩

theorem count_rank2 {m : Mx} (hm : m.ok) {i j k l : Nat} (hp : Perm4 i j k l) (hD : det m i j ≠ 0) {F : List Vec} (hn : F.Nodup) (hb : ∀ v ∈ F, Basic m v) : F.length ≤ 400 := by
  have h := fun b0 b1 b2 b3 => rank2 hp hD (sOf b0 b1 b2 b3)
  have := inj_len hn (fun v => (pat v 0, pat v 1, pat v 2, pat v 3, (v.at' (h (pat v 0) (pat v 1) (pat v 2) (pat v 3)).choose).natAbs)) codes
    (fun v hv => mem_codes _ _ _ _ (by have := (hb v hv).le19 hm (h (pat v 0) (pat v 1) (pat v 2) (pat v 3)).choose_spec.1; omega))
    (fun v hv w hw e => by
      simp only [Prod.mk.injEq] at e
      obtain ⟨e0, e1, e2, e3, e4⟩ := e
      have hs := (h (pat v 0) (pat v 1) (pat v 2) (pat v 3)).choose_spec.2 v w (hb v hv) (hb w hw)
        (fun c hc => by
          match c, hc with
          | 0, _ | 1, _ | 2, _ | 3, _ => rfl)
        (fun c hc => by
          match c, hc with
          | 0, _ => exact e0.symm
          | 1, _ => exact e1.symm
          | 2, _ => exact e2.symm
          | 3, _ => exact e3.symm)
      apply hs
      rw [← e0, ← e1, ← e2, ← e3] at e4
      exact e4)
  rw [codes_len] at this
  omega

def cube : List (Int × Int × Int) := L5.flatMap fun a => L5.flatMap fun b => L5.map fun c => (a, b, c)
theorem cube_len : cube.length = 125 := by decide +kernel
theorem mem_cube {a b c : Int} (ha : low a) (hb : low b) (hc : low c) : (a, b, c) ∈ cube :=
  List.mem_flatMap.2 ⟨a, mem_L5 ha, List.mem_flatMap.2 ⟨b, mem_L5 hb, List.mem_map.2 ⟨c, mem_L5 hc, rfl⟩⟩⟩
theorem low_abs {x : Int} (h : x.natAbs ≤ 2) : low x := by simp only [low]; omega

theorem count_single {m : Mx} (hm : m.ok) {r : Vec} (hr : low r.a ∧ low r.b ∧ low r.c ∧ low r.d) (hmv : ∀ v, isMove m v ↔ dot r v = 0) (hne : r.at' 0 ≠ 0 ∨ r.at' 1 ≠ 0 ∨ r.at' 2 ≠ 0 ∨ r.at' 3 ≠ 0) {F : List Vec} (hn : F.Nodup) (hb : ∀ v ∈ F, Basic m v) : F.length ≤ 400 := by
  have hl : ∀ v ∈ F, ∀ c, c < 4 → low (v.at' c) := fun v hv c hc => low_abs (single hm hr hmv (hb v hv) hc)
  have hd : ∀ v ∈ F, r.at' 0 * v.at' 0 + r.at' 1 * v.at' 1 + r.at' 2 * v.at' 2 + r.at' 3 * v.at' 3 = 0 := fun v hv => (hmv v).1 (hb v hv).move
  have go : ∀ x y z q : Nat, x < 4 → y < 4 → z < 4 → q < 4 → r.at' q ≠ 0 → (∀ c, c < 4 → c = x ∨ c = y ∨ c = z ∨ c = q) →
      (∀ v : Vec, r.at' 0 * v.at' 0 + r.at' 1 * v.at' 1 + r.at' 2 * v.at' 2 + r.at' 3 * v.at' 3 = r.at' x * v.at' x + r.at' y * v.at' y + r.at' z * v.at' z + r.at' q * v.at' q) → F.length ≤ 400 := by
    intro x y z q hx hy hz hq h0 hall he
    have := inj_len hn (fun v => (v.at' x, v.at' y, v.at' z)) cube (fun v hv => mem_cube (hl v hv x hx) (hl v hv y hy) (hl v hv z hz)) (fun v hv w hw e => by
      simp only [Prod.mk.injEq] at e
      obtain ⟨e1, e2, e3⟩ := e
      have d1 := hd v hv; have d2 := hd w hw
      rw [he] at d1 d2
      rw [e1, e2, e3] at d1
      have e4 : v.at' q = w.at' q := Int.eq_of_mul_eq_mul_left h0 (by omega)
      refine ext_at fun c hc => ?_
      rcases hall c hc with rfl | rfl | rfl | rfl
      · exact e1
      · exact e2
      · exact e3
      · exact e4)
    rw [cube_len] at this
    omega
  rcases hne with h | h | h | h
  · exact go 1 2 3 0 (by omega) (by omega) (by omega) (by omega) h (fun c hc => by omega) (fun v => by omega)
  · exact go 0 2 3 1 (by omega) (by omega) (by omega) (by omega) h (fun c hc => by omega) (fun v => by omega)
  · exact go 0 1 3 2 (by omega) (by omega) (by omega) (by omega) h (fun c hc => by omega) (fun v => by omega)
  · exact go 0 1 2 3 (by omega) (by omega) (by omega) (by omega) h (fun c hc => by omega) (fun v => by omega)

def L3 : List Int := [-1, 0, 1]
def small : List (Int × Int × Int × Int) := L3.flatMap fun a => L3.flatMap fun b => L3.flatMap fun c => L3.map fun d => (a, b, c, d)
theorem small_len : small.length = 81 := by decide +kernel
theorem mem_L3 {x : Int} (h : x.natAbs ≤ 1) : x ∈ L3 := by simp only [L3, List.mem_cons, List.not_mem_nil]; omega
theorem count_zero {m : Mx} (hm : m.ok) (h0 : ∀ c, c < 4 → m.r0.at' c = 0) (h1 : ∀ c, c < 4 → m.r1.at' c = 0) {F : List Vec} (hn : F.Nodup) (hb : ∀ v ∈ F, Basic m v) : F.length ≤ 400 := by
  have hl : ∀ v ∈ F, ∀ c, c < 4 → v.at' c ∈ L3 := fun v hv c hc => mem_L3 ((hb v hv).zero_col hm hc (h0 c hc) (h1 c hc))
  have := inj_len hn (fun v => (v.at' 0, v.at' 1, v.at' 2, v.at' 3)) small
    (fun v hv => List.mem_flatMap.2 ⟨_, hl v hv 0 (by omega), List.mem_flatMap.2 ⟨_, hl v hv 1 (by omega), List.mem_flatMap.2 ⟨_, hl v hv 2 (by omega), List.mem_map.2 ⟨_, hl v hv 3 (by omega), rfl⟩⟩⟩⟩)
    (fun v _ w _ e => by simp only [Prod.mk.injEq] at e; exact ext4 e.1 e.2.1 e.2.2.1 e.2.2.2)
  rw [small_len] at this
  omega

/-- Where one row counts and the other one is a multiple of it the other one follows. -/
theorem follows {r s : Vec} {i : Nat} (hi : i < 4) (hne : r.at' i ≠ 0) (hd : ∀ x y, x < 4 → y < 4 → r.at' x * s.at' y - r.at' y * s.at' x = 0) {v : Vec} (h : dot r v = 0) : dot s v = 0 := by
  have e0 := hd i 0 hi (by omega); have e1 := hd i 1 hi (by omega); have e2 := hd i 2 hi (by omega); have e3 := hd i 3 hi (by omega)
  have : r.at' i * dot s v = s.at' i * dot r v := by
    rw [dot_at, dot_at]
    generalize r.at' i = ri at *
    generalize s.at' i = si at *
    generalize s.at' 0 = s0 at *
    generalize s.at' 1 = s1 at *
    generalize s.at' 2 = s2 at *
    generalize s.at' 3 = s3 at *
    clear hd h hne hi
    have f0 : ri * (s0 * v.at' 0) = si * (r.at' 0 * v.at' 0) := by rw [← Int.mul_assoc, show ri * s0 = r.at' 0 * si by omega]; grind
    have f1 : ri * (s1 * v.at' 1) = si * (r.at' 1 * v.at' 1) := by rw [← Int.mul_assoc, show ri * s1 = r.at' 1 * si by omega]; grind
    have f2 : ri * (s2 * v.at' 2) = si * (r.at' 2 * v.at' 2) := by rw [← Int.mul_assoc, show ri * s2 = r.at' 2 * si by omega]; grind
    have f3 : ri * (s3 * v.at' 3) = si * (r.at' 3 * v.at' 3) := by rw [← Int.mul_assoc, show ri * s3 = r.at' 3 * si by omega]; grind
    simp only [Int.mul_add]
    omega
  rw [h, Int.mul_zero] at this
  rcases Int.mul_eq_zero.1 this with h' | h'
  · exact absurd h' hne
  · exact h'

/-- A matrix has at most 400 basic moves. -/
theorem few400 {m : Mx} (hm : m.ok) {F : List Vec} (hn : F.Nodup) (hb : ∀ v ∈ F, Basic m v) : F.length ≤ 400 := by
  have perm : ∀ i j k l : Nat, i < 4 → j < 4 → k < 4 → l < 4 → (∀ c, c < 4 → c = i ∨ c = j ∨ c = k ∨ c = l) → (∀ r v : Vec, Vec.dot r v = r.at' i * v.at' i + r.at' j * v.at' j + r.at' k * v.at' k + r.at' l * v.at' l) → det m i j ≠ 0 → F.length ≤ 400 :=
    fun i j k l hi hj hk hl hall hdot hD => count_rank2 hm ⟨hi, hj, hk, hl, hall, hdot⟩ hD hn hb
  by_cases d01 : det m 0 1 = 0
  · by_cases d02 : det m 0 2 = 0
    · by_cases d03 : det m 0 3 = 0
      · by_cases d12 : det m 1 2 = 0
        · by_cases d13 : det m 1 3 = 0
          · by_cases d23 : det m 2 3 = 0
            · have hd : ∀ x y, x < 4 → y < 4 → m.r0.at' x * m.r1.at' y - m.r0.at' y * m.r1.at' x = 0 := by
                intro x y hx hy
                simp only [det] at *
                match x, hx, y, hy with
                | 0, _, 0, _ | 0, _, 1, _ | 0, _, 2, _ | 0, _, 3, _ => omega
                | 1, _, 0, _ | 1, _, 1, _ | 1, _, 2, _ | 1, _, 3, _ => omega
                | 2, _, 0, _ | 2, _, 1, _ | 2, _, 2, _ | 2, _, 3, _ => omega
                | 3, _, 0, _ | 3, _, 1, _ | 3, _, 2, _ | 3, _, 3, _ => omega
              have hd' : ∀ x y, x < 4 → y < 4 → m.r1.at' x * m.r0.at' y - m.r1.at' y * m.r0.at' x = 0 := by
                intro x y hx hy
                have := hd x y hx hy
                rw [Int.mul_comm (m.r1.at' x), Int.mul_comm (m.r1.at' y)]; omega
              by_cases hz0 : ∀ c, c < 4 → m.r0.at' c = 0
              · by_cases hz1 : ∀ c, c < 4 → m.r1.at' c = 0
                · exact count_zero hm hz0 hz1 hn hb
                · obtain ⟨i, hi⟩ := Classical.not_forall.1 hz1
                  obtain ⟨hi4, hne⟩ := Classical.not_imp.1 hi
                  refine count_single hm hm.r1 (fun v => ⟨fun h => h.2, fun h => ⟨follows hi4 hne hd' h, h⟩⟩) ?_ hn hb
                  match i, hi4 with
                  | 0, _ => exact Or.inl hne
                  | 1, _ => exact Or.inr (Or.inl hne)
                  | 2, _ => exact Or.inr (Or.inr (Or.inl hne))
                  | 3, _ => exact Or.inr (Or.inr (Or.inr hne))
              · obtain ⟨i, hi⟩ := Classical.not_forall.1 hz0
                obtain ⟨hi4, hne⟩ := Classical.not_imp.1 hi
                refine count_single hm hm.r0 (fun v => ⟨fun h => h.1, fun h => ⟨h, follows hi4 hne hd h⟩⟩) ?_ hn hb
                match i, hi4 with
                | 0, _ => exact Or.inl hne
                | 1, _ => exact Or.inr (Or.inl hne)
                | 2, _ => exact Or.inr (Or.inr (Or.inl hne))
                | 3, _ => exact Or.inr (Or.inr (Or.inr hne))
            · exact perm 2 3 0 1 (by omega) (by omega) (by omega) (by omega) (fun c hc => by omega) (fun r v => by rw [dot_at]; omega) d23
          · exact perm 1 3 0 2 (by omega) (by omega) (by omega) (by omega) (fun c hc => by omega) (fun r v => by rw [dot_at]; omega) d13
        · exact perm 1 2 0 3 (by omega) (by omega) (by omega) (by omega) (fun c hc => by omega) (fun r v => by rw [dot_at]; omega) d12
      · exact perm 0 3 1 2 (by omega) (by omega) (by omega) (by omega) (fun c hc => by omega) (fun r v => by rw [dot_at]; omega) d03
    · exact perm 0 2 1 3 (by omega) (by omega) (by omega) (by omega) (fun c hc => by omega) (fun r v => by rw [dot_at]; omega) d02
  · exact perm 0 1 2 3 (by omega) (by omega) (by omega) (by omega) (fun c hc => by omega) (fun r v => by rw [dot_at]) d01
end Go.Proofs.Ytaglbnblfhfkeaa
