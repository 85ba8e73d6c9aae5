import Derived.Test.YtaglbnblfhfkeaaMath
namespace Go.Proofs.Ytaglbnblfhfkeaa
open Vec

theorem nodup_len {α : Type} [DecidableEq α] : ∀ {l k : List α}, l.Nodup → (∀ x ∈ l, x ∈ k) → l.length ≤ k.length
  | [], k, _, _ => Nat.zero_le _
  | x :: l, k, h, hs => by
    have hx := hs x List.mem_cons_self
    have h' := List.nodup_cons.1 h
    have := nodup_len (l := l) (k := k.erase x) h'.2 (fun y hy => (List.mem_erase_of_ne (fun e => h'.1 (by rw [← e]; exact hy))).2 (hs y (List.mem_cons_of_mem _ hy)))
    rw [List.length_erase_of_mem hx] at this
    have := List.length_pos_of_mem hx
    simp only [List.length_cons]
    omega

def prod (m : Mx) (v : Vec) : Int × Int := (dot m.r0 v, dot m.r1 v)

theorem dot_stepTo (r v : Vec) {j : Nat} (hj : j < 4) (k : Int) : dot r (stepTo v j k) = dot r v + k * r.at' j := by
  match j, hj with
  | 0, _ | 1, _ | 2, _ | 3, _ => simp only [dot, stepTo, at']; grind

/-- One step of the search: from 0 whatever step, else one that points away. -/
def goes (m : Mx) (u v : Vec) : Prop := (u = zero ∧ ∃ j, j < m.n ∧ (v = stepTo zero j 1 ∨ v = stepTo zero j (-1))) ∨ isStep m u v

theorem goes_fits {m : Mx} {u v : Vec} (h : goes m u v) : fits u v := by
  rcases h with ⟨rfl, _⟩ | h
  · exact zero_fits v
  · exact isStep_fits h
theorem zero_at (j : Nat) : zero.at' j = 0 := by
  match j with
  | 0 | 1 | 2 | 3 => rfl
  | _ + 4 => rfl
theorem goes_norm {m : Mx} (hm : m.ok) {u v : Vec} (h : goes m u v) : norm v = norm u + 1 := by
  have := hm.n4
  rcases h with ⟨rfl, j, hj, rfl | rfl⟩ | h
  · exact stepTo_norm (by omega) (by rw [zero_at]; omega)
  · exact stepTo_norm' (by omega) (by rw [zero_at]; omega)
  · exact isStep_norm hm h
theorem zero_cols (n : Nat) : inCols n zero := by simp [inCols, zero]
theorem goes_cols {m : Mx} {u v : Vec} (hu : inCols m.n u) (h : goes m u v) : inCols m.n v := by
  rcases h with ⟨rfl, j, hj, rfl | rfl⟩ | h
  · exact stepTo_cols hj hu
  · exact stepTo_cols hj hu
  · exact isStep_cols hu h
theorem low_at {r : Vec} (h : low r.a ∧ low r.b ∧ low r.c ∧ low r.d) (j : Nat) : low (r.at' j) := by
  match j with
  | 0 => exact h.1
  | 1 => exact h.2.1
  | 2 => exact h.2.2.1
  | 3 => exact h.2.2.2
  | _ + 4 => simp [low, at']
theorem low_neg {x : Int} (h : low x) : low (-x) := by simp only [low] at *; omega
theorem dot_zero (r : Vec) : dot r zero = 0 := by simp [dot, zero]
theorem goes_P {m : Mx} (hm : m.ok) {u v : Vec} (hu : inP (prod m u).1 (prod m u).2 = true) (h : goes m u v) : inP (prod m v).1 (prod m v).2 = true := by
  have h4 := hm.n4
  rcases h with ⟨rfl, j, hj, rfl | rfl⟩ | ⟨j, hj, ⟨ht, _, rfl⟩ | ⟨ht, _, rfl⟩⟩
  · simp only [prod, dot_stepTo _ _ (show j < 4 by omega), dot_zero, Int.zero_add, Int.one_mul]
    exact inP_low (low_at hm.r0 j) (low_at hm.r1 j)
  · simp only [prod, dot_stepTo _ _ (show j < 4 by omega), dot_zero, Int.zero_add, Int.neg_mul, Int.one_mul]
    exact inP_low (low_neg (low_at hm.r0 j)) (low_neg (low_at hm.r1 j))
  · simp only [prod, dot_stepTo _ _ (show j < 4 by omega), Int.one_mul] at *
    exact inP_step hu (low_at hm.r0 j) (low_at hm.r1 j) ht
  · simp only [prod, dot_stepTo _ _ (show j < 4 by omega), Int.neg_mul, Int.one_mul] at *
    refine inP_step hu (low_neg (low_at hm.r0 j)) (low_neg (low_at hm.r1 j)) ?_
    simp only [turn] at ht
    simp only [Int.mul_neg]
    omega

/-- v was reached over the vectors of l, the last one first. -/
def Chain (m : Mx) : List Vec → Vec → Prop
  | [], v => v = zero
  | u :: l, v => Chain m l u ∧ goes m u v

theorem chain_len {m : Mx} (hm : m.ok) : ∀ {l : List Vec} {v : Vec}, Chain m l v → l.length = norm v
  | [], v, h => by rw [show v = zero from h]; rfl
  | u :: l, v, h => by rw [goes_norm hm h.2, ← chain_len hm h.1]; rfl
theorem chain_cols {m : Mx} : ∀ {l : List Vec} {v : Vec}, Chain m l v → inCols m.n v
  | [], v, h => by rw [show v = zero from h]; exact zero_cols _
  | u :: l, v, h => goes_cols (chain_cols h.1) h.2
theorem chain_fits {m : Mx} (hm : m.ok) : ∀ {l : List Vec} {v : Vec}, Chain m l v → ∀ u ∈ l, fits u v ∧ norm u < norm v ∧ inCols m.n u
  | [], v, _, u, hu => by cases hu
  | w :: l, v, h, u, hu => by
    have hg := goes_fits h.2
    have hn := goes_norm hm h.2
    rcases List.mem_cons.1 hu with rfl | hu
    · exact ⟨hg, by omega, chain_cols h.1⟩
    · obtain ⟨h1, h2, h3⟩ := chain_fits hm h.1 u hu
      exact ⟨fits_trans h1 hg, by omega, h3⟩
theorem chain_P {m : Mx} (hm : m.ok) : ∀ {l : List Vec} {v : Vec}, Chain m l v → inP (prod m v).1 (prod m v).2 = true
  | [], v, h => by rw [show v = zero from h]; simp only [prod, dot_zero]; decide
  | u :: l, v, h => goes_P hm (chain_P hm h.1) h.2
theorem chain_all {m : Mx} (hm : m.ok) : ∀ {l : List Vec} {v : Vec}, Chain m l v → ∀ u ∈ l, inP (prod m u).1 (prod m u).2 = true
  | [], v, _, u, hu => by cases hu
  | w :: l, v, h, u, hu => by
    rcases List.mem_cons.1 hu with rfl | hu
    · exact chain_P hm h.1
    · exact chain_all hm h.1 u hu

/-- On the way to a vector into which no shorter basic move fits no product comes twice. -/
theorem chain_nodup {m : Mx} (hm : m.ok) {V : Vec} (hV : ∀ y, Basic m y → norm y < norm V → ¬ fits y V) : ∀ {l : List Vec} {v : Vec}, Chain m l v → fits v V → (l.map (prod m)).Nodup
  | [], v, _, _ => List.nodup_nil
  | u :: l, v, h, hf => by
    have hg := goes_fits h.2
    have hn := goes_norm hm h.2
    have hNV := fits_norm hf
    have ih := chain_nodup hm hV h.1 (fits_trans hg hf)
    rw [List.map_cons, List.nodup_cons]
    refine ⟨fun hmem => ?_, ih⟩
    obtain ⟨u', hu', he⟩ := List.mem_map.1 hmem
    obtain ⟨k1, k2, k3⟩ := chain_fits hm h.1 u' hu'
    simp only [prod, Prod.mk.injEq] at he
    have hs : sub u u' ≠ zero := fun e => by
      have := norm_sub k1
      rw [e, zero_norm] at this
      omega
    obtain ⟨y, hy, hyf⟩ := basic_below m (norm (sub u u')) (sub u u') (Nat.le_refl _) (inCols_sub (chain_cols h.1) k3) ⟨by rw [dot_sub]; omega, by rw [dot_sub]; omega⟩ hs
    have hyu := fits_trans hyf (fits_sub k1)
    have := fits_norm hyu
    exact hV y hy (by omega) (fits_trans hyu (fits_trans hg hf))

/-- So it is not far from 0. -/
theorem chain_bound {m : Mx} (hm : m.ok) {l : List Vec} {v : Vec} (h : Chain m l v) (hv : ∀ y, Basic m y → norm y < norm v → ¬ fits y v) : norm v ≤ 29 := by
  have h1 := chain_nodup hm hv h (fits_refl v)
  have h2 := nodup_len h1 (k := allP) (fun x hx => by
    obtain ⟨u, hu, rfl⟩ := List.mem_map.1 hx
    exact mem_allP (chain_all hm h u hu))
  rw [List.length_map, chain_len hm h, allP_len] at h2
  exact h2

/-! ### The search, round by round -/

/-- What holds when the vectors k steps from 0 are looked at. -/
structure Round (m : Mx) (k : Nat) (edge found : List Vec) : Prop where
  pos : 1 ≤ k
  nodup : edge.Nodup
  chain : ∀ v ∈ edge, norm v = k ∧ ∃ l, Chain m l v
  clean : ∀ v ∈ edge, ∀ y ∈ found, ¬ fits y v
  foundNodup : found.Nodup
  found : ∀ y, y ∈ found ↔ Basic m y ∧ norm y < k
  all : ∀ x, Basic m x → k ≤ norm x → ∃ v ∈ edge, fits v x

theorem Round.bound {m : Mx} (hm : m.ok) {k : Nat} {edge found : List Vec} (h : Round m k edge found) {v : Vec} (hv : v ∈ edge) : k ≤ 29 := by
  obtain ⟨h1, l, hl⟩ := h.chain v hv
  rw [← h1]
  exact chain_bound hm hl fun y hy hn => h.clean v hv y ((h.found y).2 ⟨hy, by omega⟩)

theorem Round.basic {m : Mx} {k : Nat} {edge found : List Vec} (h : Round m k edge found) {v : Vec} (hv : v ∈ edge) (hmv : isMove m v) : Basic m v := by
  obtain ⟨h1, l, hl⟩ := h.chain v hv
  have hp := h.pos
  refine ⟨chain_cols hl, hmv, fun e => by rw [e, zero_norm] at h1; omega, fun y hc hy hne hf => ?_⟩
  obtain ⟨x, hx, hxf⟩ := basic_below m _ y (Nat.le_refl _) hc hy hne
  have hxv := fits_trans hxf hf
  have n1 := fits_norm hxf
  have n2 := fits_norm hf
  by_cases he : norm x < k
  · exact absurd hxv (h.clean v hv x ((h.found x).2 ⟨hx, he⟩))
  · exact fits_eq hf (by omega)

/-- The end: all basic moves are found. -/
theorem Round.done {m : Mx} {k : Nat} {found : List Vec} (h : Round m k [] found) (y : Vec) : y ∈ found ↔ Basic m y := by
  rw [h.found]
  refine ⟨fun h => h.1, fun hy => ⟨hy, Nat.lt_of_not_le fun hle => ?_⟩⟩
  obtain ⟨v, hv, _⟩ := h.all y hy hle
  cases hv

/-- One round on. -/
theorem Round.next {m : Mx} (hm : m.ok) {k : Nat} {edge found mv open' next : List Vec} (h : Round m k edge found) (hmvn : mv.Nodup)
    (hmv : ∀ v, v ∈ mv ↔ v ∈ edge ∧ isMove m v) (hop : ∀ v, v ∈ open' ↔ v ∈ edge ∧ ¬ isMove m v) (hnn : next.Nodup)
    (hnx : ∀ w, w ∈ next ↔ (∃ v ∈ open', isStep m v w) ∧ ∀ y ∈ found ++ mv, ¬ fits y w) : Round m (k + 1) next (found ++ mv) := by
  have hf : ∀ y, y ∈ found ++ mv ↔ Basic m y ∧ norm y < k + 1 := by
    intro y
    rw [List.mem_append, h.found, hmv]
    constructor
    · rintro (⟨h1, h2⟩ | ⟨h1, h2⟩)
      · exact ⟨h1, by omega⟩
      · exact ⟨h.basic h1 h2, by have := (h.chain y h1).1; omega⟩
    · rintro ⟨h1, h2⟩
      by_cases hlt : norm y < k
      · exact Or.inl ⟨h1, hlt⟩
      · obtain ⟨v, hv, hvf⟩ := h.all y h1 (by omega)
        have e := fits_eq hvf (by have := (h.chain v hv).1; omega)
        subst e
        exact Or.inr ⟨hv, h1.move⟩
  refine ⟨by omega, hnn, fun w hw => ?_, fun w hw y hy => ((hnx w).1 hw).2 y hy, ?_, hf, fun x hx hk => ?_⟩
  · obtain ⟨⟨v, hv, hs⟩, _⟩ := (hnx w).1 hw
    have hve := ((hop v).1 hv).1
    obtain ⟨h1, l, hl⟩ := h.chain v hve
    exact ⟨by rw [isStep_norm hm hs, h1], v :: l, hl, Or.inr hs⟩
  · rw [List.nodup_append]
    refine ⟨h.foundNodup, hmvn, fun y hy z hz e => ?_⟩
    subst e
    have h1 := ((h.found y).1 hy).2
    have h2 := (h.chain y ((hmv y).1 hz).1).1
    omega
  · obtain ⟨v, hv, hvf⟩ := h.all x hx (by omega)
    obtain ⟨h1, l, hl⟩ := h.chain v hv
    have hc := chain_cols hl
    have hnm : ¬ isMove m v := fun hmv' => by
      have e := hx.least v hc hmv' (fun e => by have := h.pos; rw [e, zero_norm] at h1; omega) hvf
      subst e; omega
    obtain ⟨w, hs, hwf⟩ := step_on hm hc hx.cols hvf hx.move hnm
    refine ⟨w, (hnx w).2 ⟨⟨v, (hop v).2 ⟨hv, hnm⟩, hs⟩, fun y hy hyw => ?_⟩, hwf⟩
    have hy' := (hf y).1 hy
    have e := hx.least y hy'.1.cols hy'.1.move hy'.1.ne (fits_trans hyw hwf)
    subst e; omega

/-- A first step towards a vector that is not 0. -/
theorem first_on {m : Mx} (hn1 : 1 ≤ m.n) {x : Vec} (hc : inCols m.n x) (hx : x ≠ zero) : ∃ j, j < m.n ∧ ∃ v, (v = stepTo zero j 1 ∨ v = stepTo zero j (-1)) ∧ fits v x := by
  have hne : ¬ (x.a = 0 ∧ x.b = 0 ∧ x.c = 0 ∧ x.d = 0) := fun h => hx (ext_iff'.2 h)
  have one : ∀ j, j < 4 → x.at' j ≠ 0 → ∃ j, j < m.n ∧ ∃ v, (v = stepTo zero j 1 ∨ v = stepTo zero j (-1)) ∧ fits v x := by
    intro j hj hxj
    have hjn : j < m.n := by
      refine Nat.lt_of_not_le fun hle => hxj ?_
      match j, hj with
      | 0, _ => omega
      | 1, _ => exact hc.1 (by omega)
      | 2, _ => exact hc.2.1 (by omega)
      | 3, _ => exact hc.2.2 (by omega)
    rcases Int.lt_trichotomy (x.at' j) 0 with h | h | h
    · refine ⟨j, hjn, stepTo zero j (-1), Or.inr rfl, ?_⟩
      match j, hj with
      | 0, _ | 1, _ | 2, _ | 3, _ => simp only [at', fits, fit1, stepTo, zero] at *; omega
    · exact absurd h hxj
    · refine ⟨j, hjn, stepTo zero j 1, Or.inl rfl, ?_⟩
      match j, hj with
      | 0, _ | 1, _ | 2, _ | 3, _ => simp only [at', fits, fit1, stepTo, zero] at *; omega
  by_cases h1 : x.a = 0
  · by_cases h2 : x.b = 0
    · by_cases h3 : x.c = 0
      · exact one 3 (by omega) (fun h4 => hne ⟨h1, h2, h3, h4⟩)
      · exact one 2 (by omega) h3
    · exact one 1 (by omega) h2
  · exact one 0 (by omega) h1

/-- The beginning. -/
theorem Round.first {m : Mx} (hm : m.ok) {edge : List Vec} (hn : edge.Nodup) (he : ∀ v, v ∈ edge ↔ ∃ j, j < m.n ∧ (v = stepTo zero j 1 ∨ v = stepTo zero j (-1))) : Round m 1 edge [] where
  pos := Nat.le_refl _
  nodup := hn
  chain := fun v hv => ⟨by rw [goes_norm hm (Or.inl ⟨rfl, (he v).1 hv⟩), zero_norm], [zero], rfl, Or.inl ⟨rfl, (he v).1 hv⟩⟩
  clean := fun v _ y hy => (by cases hy)
  foundNodup := List.nodup_nil
  found := fun y => ⟨fun h => (by cases h), fun h => absurd (norm_zero (by omega)) h.1.ne⟩
  all := fun x hx _ => by
    obtain ⟨j, hj, v, hv, hf⟩ := first_on hm.n1 hx.cols hx.ne
    exact ⟨v, (he v).2 ⟨j, hj, hv⟩, hf⟩

/-- Every basic move is near 0. -/
theorem basic_norm {m : Mx} (hm : m.ok) {x : Vec} (hx : Basic m x) : norm x ≤ 29 := by
  have reach : ∀ k, k ≤ norm x → ∃ l v, Chain m l v ∧ norm v = k ∧ fits v x := by
    intro k
    induction k with
    | zero => exact fun _ => ⟨[], zero, rfl, rfl, zero_fits x⟩
    | succ k ih =>
      intro hk
      obtain ⟨l, v, hl, hn, hf⟩ := ih (by omega)
      by_cases h0 : v = zero
      · obtain ⟨j, hj, w, hw, hwf⟩ := first_on hm.n1 hx.cols hx.ne
        have hg : goes m v w := Or.inl ⟨h0, j, hj, hw⟩
        exact ⟨v :: l, w, ⟨hl, hg⟩, by rw [goes_norm hm hg, hn], hwf⟩
      · have hc := chain_cols hl
        have hnm : ¬ isMove m v := fun hmv => by
          have e := hx.least v hc hmv h0 hf
          subst e; omega
        obtain ⟨w, hs, hwf⟩ := step_on hm hc hx.cols hf hx.move hnm
        exact ⟨v :: l, w, ⟨hl, Or.inr hs⟩, by rw [isStep_norm hm hs, hn], hwf⟩
  obtain ⟨l, v, hl, hn, hf⟩ := reach (norm x) (Nat.le_refl _)
  have e := fits_eq hf hn
  subst e
  exact chain_bound hm hl fun y hy hlt hfy => by
    have e := hx.least y hy.cols hy.move hy.ne hfy
    subst e; omega

end Go.Proofs.Ytaglbnblfhfkeaa
