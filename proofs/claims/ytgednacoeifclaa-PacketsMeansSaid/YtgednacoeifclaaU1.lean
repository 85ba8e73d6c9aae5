import Derived.Test.YtgednacoeifclaaMem
/-
  Weights of at most six kinds, in falling order: the kernel looks at all of them. What it finds holds in any order.
-/
namespace Go.Proofs.Ytgednacoeifclaa
/-- The sums a + x for x of S, ahead of R. -/
noncomputable def am (a : Nat) (S R : List Nat) : List Nat := @List.rec Nat (fun _ => List Nat) R (fun x _ ih => (a + x) :: ih) S
noncomputable def lcF (S : List Nat) : Nat → Nat := @List.rec Nat (fun _ => Nat → Nat) (fun acc => acc) (fun x _ ih acc => ih (acc * (x / Nat.gcd acc x))) S
noncomputable def lcA (a : Nat) (S : List Nat) : Nat → Nat := @List.rec Nat (fun _ => Nat → Nat) (fun acc => acc) (fun x _ ih acc => ih (acc * ((a + x) / Nat.gcd acc (a + x)))) S
noncomputable def suF (L : Nat) (S : List Nat) : Nat := @List.rec Nat (fun _ => Nat) 0 (fun x _ ih => L / x + ih) S
noncomputable def suA (a L : Nat) (S : List Nat) : Nat := @List.rec Nat (fun _ => Nat) 0 (fun x _ ih => L / (a + x) + ih) S
noncomputable def lc2 (al : Nat) (S : List Nat) : Nat → Nat := @List.rec Nat (fun _ => Nat → Nat) (fun acc => acc) (fun x _ ih acc => ih (acc * ((x / Nat.gcd x al) / Nat.gcd acc (x / Nat.gcd x al)))) S
noncomputable def lc3 (a al : Nat) (S : List Nat) : Nat → Nat := @List.rec Nat (fun _ => Nat → Nat) (fun acc => acc) (fun x _ ih acc => ih (cond (Nat.beq x al) acc (acc * (((a + x) / Nat.gcd (a + x) a) / Nat.gcd acc ((a + x) / Nat.gcd (a + x) a))))) S

noncomputable def test1 (E O : List Nat) (al : Nat) : Bool :=
  (fun L L2 => Nat.ble 1 L && Nat.ble L 1152921504606846976 && Nat.ble 1 L2 && Nat.ble (L2 * al) 1152921504606846976 && Nat.ble (suF L E + suF L O) 4611686018427387903 &&
    (fun so se => Nat.ble (al * so) (9223372036854775807 + al * se) && Nat.ble so (se + 400 * L2) && Nat.ble (so + se) 4611686018427387903) (suF (L2 * al) O) (suF (L2 * al) E)) (lcF E (lcF O 1)) (lc2 al E (lc2 al O 1))
noncomputable def test3 (L0 a : Nat) (E O : List Nat) (al : Nat) : Bool :=
  (fun L P => Nat.ble 1 L && Nat.ble L 1152921504606846976 && Nat.ble 1 P && Nat.ble (a * (L / a + (suA a L E + suA a L O))) 4611686018427387903 && Nat.ble ((a + al) * P) 1152921504606846976) (lcA a E (lcA a O (L0 * (a / Nat.gcd L0 a)))) (lc3 a al E (lc3 a al O 1))
noncomputable def allTo (f : Nat → Bool) (hi : Nat) : Bool := @Nat.rec (fun _ => Bool) true (fun k ih => f (k + 1) && ih) hi
noncomputable def test2 (E O : List Nat) (al : Nat) : Bool := (fun L0 => allTo (fun a => test3 L0 a E O al) 9) (lcF E (lcF O 1))
noncomputable def chk (t : List Nat → List Nat → Nat → Bool) (d : Nat) : (hi : Nat) → (E O : List Nat) → (al : Nat) → Bool :=
  @Nat.rec (fun _ => Nat → List Nat → List Nat → Nat → Bool) (fun _ E O al => t E O al) (fun _ ih hi E O al => t E O al && allTo (fun a => ih a (am a O E) (a :: am a E O) (a + al)) hi) d
/-- The sums of an even number of weights (but none), and of an odd number. -/
noncomputable def eo : List Nat → List Nat × List Nat
  | [] => ([], [])
  | a :: l => (am a (eo l).2 (eo l).1, a :: am a (eo l).1 (eo l).2)

theorem am_eq (a : Nat) (R : List Nat) : ∀ S : List Nat, am a S R = S.map (a + ·) ++ R
  | [] => rfl
  | x :: S => by rw [List.map_cons, List.cons_append, ← am_eq a R S]; rfl
theorem suF_eq (L : Nat) : ∀ S : List Nat, suF L S = (S.map (L / ·)).sum
  | [] => rfl
  | x :: S => by rw [List.map_cons, List.sum_cons, ← suF_eq L S]; rfl
theorem suA_eq (a L : Nat) : ∀ S : List Nat, suA a L S = (S.map (fun x => L / (a + x))).sum
  | [] => rfl
  | x :: S => by rw [List.map_cons, List.sum_cons, ← suA_eq a L S]; rfl
theorem lcm_at (a x : Nat) : a ∣ a * (x / Nat.gcd a x) ∧ x ∣ a * (x / Nat.gcd a x) := by
  refine ⟨Nat.dvd_mul_right _ _, ?_⟩
  obtain ⟨u, hu⟩ := Nat.gcd_dvd_left a x
  obtain ⟨v, hv⟩ := Nat.gcd_dvd_right a x
  rcases Nat.eq_zero_or_pos (Nat.gcd a x) with h | h
  · have := Nat.eq_zero_of_gcd_eq_zero_left h; subst this; simp
  · have e : x / Nat.gcd a x = v := by rw [Nat.div_eq_iff_eq_mul_right h ⟨v, hv⟩]; exact hv
    refine ⟨u, ?_⟩
    rw [e]
    generalize Nat.gcd a x = g at *
    rw [hu, hv, Nat.mul_assoc, Nat.mul_assoc]
    rw [Nat.mul_comm u v]
theorem lcm_min {a x M : Nat} (h1 : a ∣ M) (h2 : x ∣ M) : a * (x / Nat.gcd a x) ∣ M := by
  rw [← Nat.mul_div_assoc _ (Nat.gcd_dvd_right a x)]
  exact Nat.lcm_dvd h1 h2
theorem lcF_min {M : Nat} : ∀ (S : List Nat) (acc : Nat), acc ∣ M → (∀ x ∈ S, x ∣ M) → lcF S acc ∣ M
  | [], _, h, _ => h
  | x :: S, acc, h, hS => lcF_min S (acc * (x / Nat.gcd acc x)) (lcm_min h (hS x (List.mem_cons_self ..))) (fun y hy => hS y (List.mem_cons_of_mem _ hy))
theorem lcA_min {a M : Nat} : ∀ (S : List Nat) (acc : Nat), acc ∣ M → (∀ x ∈ S, (a + x) ∣ M) → lcA a S acc ∣ M
  | [], _, h, _ => h
  | x :: S, acc, h, hS => lcA_min S (acc * ((a + x) / Nat.gcd acc (a + x))) (lcm_min h (hS x (List.mem_cons_self ..))) (fun y hy => hS y (List.mem_cons_of_mem _ hy))
theorem lcF_spec : ∀ (S : List Nat) (acc : Nat), acc ∣ lcF S acc ∧ ∀ x ∈ S, x ∣ lcF S acc
  | [], acc => ⟨Nat.dvd_refl _, by simp⟩
  | x :: S, acc => by
    have ih := lcF_spec S (acc * (x / Nat.gcd acc x))
    have h := lcm_at acc x
    refine ⟨Nat.dvd_trans h.1 ih.1, fun y hy => ?_⟩
    rcases List.mem_cons.1 hy with rfl | hy
    · exact Nat.dvd_trans h.2 ih.1
    · exact ih.2 y hy
theorem lcA_spec (a : Nat) : ∀ (S : List Nat) (acc : Nat), acc ∣ lcA a S acc ∧ ∀ x ∈ S, (a + x) ∣ lcA a S acc
  | [], acc => ⟨Nat.dvd_refl _, by simp⟩
  | x :: S, acc => by
    have ih := lcA_spec a S (acc * ((a + x) / Nat.gcd acc (a + x)))
    have h := lcm_at acc (a + x)
    refine ⟨Nat.dvd_trans h.1 ih.1, fun y hy => ?_⟩
    rcases List.mem_cons.1 hy with rfl | hy
    · exact Nat.dvd_trans h.2 ih.1
    · exact ih.2 y hy
theorem lc2_spec (al : Nat) : ∀ (S : List Nat) (acc : Nat), acc ∣ lc2 al S acc ∧ ∀ x ∈ S, x / Nat.gcd x al ∣ lc2 al S acc
  | [], acc => ⟨Nat.dvd_refl _, by simp⟩
  | x :: S, acc => by
    have ih := lc2_spec al S (acc * ((x / Nat.gcd x al) / Nat.gcd acc (x / Nat.gcd x al)))
    have h := lcm_at acc (x / Nat.gcd x al)
    refine ⟨Nat.dvd_trans h.1 ih.1, fun y hy => ?_⟩
    rcases List.mem_cons.1 hy with rfl | hy
    · exact Nat.dvd_trans h.2 ih.1
    · exact ih.2 y hy
theorem lc3_spec (a al : Nat) : ∀ (S : List Nat) (acc : Nat), acc ∣ lc3 a al S acc ∧ ∀ x ∈ S, x ≠ al → (a + x) / Nat.gcd (a + x) a ∣ lc3 a al S acc
  | [], acc => ⟨Nat.dvd_refl _, by simp⟩
  | x :: S, acc => by
    by_cases hx : x = al
    · have ih := lc3_spec a al S acc
      have e : lc3 a al (x :: S) acc = lc3 a al S acc := by
        show lc3 a al S (cond (Nat.beq x al) acc _) = _
        rw [show Nat.beq x al = true by rw [Nat.beq_eq]; exact hx]; rfl
      rw [e]
      refine ⟨ih.1, fun y hy hn => ?_⟩
      rcases List.mem_cons.1 hy with rfl | hy
      · exact absurd hx hn
      · exact ih.2 y hy hn
    · have ih := lc3_spec a al S (acc * (((a + x) / Nat.gcd (a + x) a) / Nat.gcd acc ((a + x) / Nat.gcd (a + x) a)))
      have e : lc3 a al (x :: S) acc = lc3 a al S (acc * (((a + x) / Nat.gcd (a + x) a) / Nat.gcd acc ((a + x) / Nat.gcd (a + x) a))) := by
        show lc3 a al S (cond (Nat.beq x al) acc _) = _
        rw [show Nat.beq x al = false by rw [← Bool.not_eq_true, Nat.beq_eq]; exact hx]; rfl
      rw [e]
      have h := lcm_at acc ((a + x) / Nat.gcd (a + x) a)
      refine ⟨Nat.dvd_trans h.1 ih.1, fun y hy hn => ?_⟩
      rcases List.mem_cons.1 hy with rfl | hy
      · exact Nat.dvd_trans h.2 ih.1
      · exact ih.2 y hy hn
theorem allTo_spec {f : Nat → Bool} : ∀ {hi : Nat}, allTo f hi = true → ∀ a, 1 ≤ a → a ≤ hi → f a = true
  | 0, _, a, h1, h2 => by omega
  | k + 1, h, a, h1, h2 => by
    have h' : (f (k + 1) && allTo f k) = true := h
    rw [Bool.and_eq_true] at h'
    rcases Nat.lt_or_ge a (k + 1) with h3 | h3
    · exact allTo_spec h'.2 a h1 (by omega)
    · have : a = k + 1 := by omega
      subst this; exact h'.1

theorem chk_zero {t : List Nat → List Nat → Nat → Bool} {d hi : Nat} {E O : List Nat} {al : Nat} (h : chk t d hi E O al = true) : t E O al = true := by
  cases d with
  | zero => exact h
  | succ d =>
    have h' : (t E O al && allTo (fun a => chk t d a (am a O E) (a :: am a E O) (a + al)) hi) = true := h
    rw [Bool.and_eq_true] at h'
    exact h'.1
theorem chk_step {t : List Nat → List Nat → Nat → Bool} {d hi : Nat} {E O : List Nat} {al a : Nat} (h : chk t (d + 1) hi E O al = true) (h1 : 1 ≤ a) (h2 : a ≤ hi) : chk t d a (am a O E) (a :: am a E O) (a + al) = true := by
  have h' : (t E O al && allTo (fun a => chk t d a (am a O E) (a :: am a E O) (a + al)) hi) = true := h
  rw [Bool.and_eq_true] at h'
  exact allTo_spec h'.2 a h1 h2
theorem chk_all {t : List Nat → List Nat → Nat → Bool} : ∀ (pre : List Nat) (d hi : Nat) (l : List Nat), pre.length ≤ d → (hi :: pre).Pairwise (fun a b => b ≤ a) → (∀ x ∈ pre, 1 ≤ x) → chk t d hi (eo l).1 (eo l).2 l.sum = true →
    t (eo (pre.reverse ++ l)).1 (eo (pre.reverse ++ l)).2 (pre.reverse ++ l).sum = true
  | [], d, hi, l, _, _, _, h => chk_zero h
  | x :: pre, d, hi, l, hd, hp, h1, h => by
    obtain ⟨d, rfl⟩ : ∃ e, d = e + 1 := ⟨d - 1, by simp at hd; omega⟩
    have hp' := List.pairwise_cons.1 hp
    have h2 := chk_step h (h1 x (List.mem_cons_self ..)) (hp'.1 x (List.mem_cons_self ..))
    have h3 := chk_all pre d x (x :: l) (by simpa using hd) hp'.2 (fun y hy => h1 y (List.mem_cons_of_mem _ hy)) h2
    rw [List.reverse_cons, List.append_assoc]
    exact h3

/-- In any order. -/
theorem eo_perm {l m : List Nat} (h : l.Perm m) : (eo l).1.Perm (eo m).1 ∧ (eo l).2.Perm (eo m).2 := by
  induction h with
  | nil => exact ⟨.refl _, .refl _⟩
  | cons a _ ih =>
    simp only [eo, am_eq]
    exact ⟨(ih.2.map _).append ih.1, ((ih.1.map _).append ih.2).cons a⟩
  | swap a b l =>
    simp only [eo, am_eq]
    have e : ∀ S : List Nat, (S.map (a + ·)).map (b + ·) = (S.map (b + ·)).map (a + ·) := fun S => by
      rw [List.map_map, List.map_map]; exact List.map_congr_left fun x _ => by simp; omega
    generalize (eo l).1 = E
    generalize (eo l).2 = O
    constructor
    · rw [List.perm_iff_count]; intro c
      simp only [List.map_append, List.map_cons, List.count_append, List.count_cons, List.cons_append, e, Nat.add_comm a b]
      omega
    · rw [List.perm_iff_count]; intro c
      simp only [List.map_append, List.count_append, List.count_cons, e]
      omega
  | trans _ _ ih1 ih2 => exact ⟨ih1.1.trans ih2.1, ih1.2.trans ih2.2⟩

theorem sum_perm {l m : List Nat} (h : l.Perm m) : l.sum = m.sum := h.sum_nat

/-- What the kernel found of all weights. -/
structure BigF (E O : List Nat) (al L L2 : Nat) : Prop where
  L1 : 1 ≤ L
  LM : L ≤ 1152921504606846976
  K1 : 1 ≤ L2
  KM : L2 * al ≤ 1152921504606846976
  dE : ∀ x ∈ E, x ∣ L
  dO : ∀ x ∈ O, x ∣ L
  kE : ∀ x ∈ E, x ∣ L2 * al
  kO : ∀ x ∈ O, x ∣ L2 * al
  su : (E.map (L / ·)).sum + (O.map (L / ·)).sum ≤ 4611686018427387903
  me : al * (O.map (L2 * al / ·)).sum ≤ 9223372036854775807 + al * (E.map (L2 * al / ·)).sum
  m4 : (O.map (L2 * al / ·)).sum ≤ (E.map (L2 * al / ·)).sum + 400 * L2
  sk : (O.map (L2 * al / ·)).sum + (E.map (L2 * al / ·)).sum ≤ 4611686018427387903
  mi : ∀ M, (∀ x ∈ E, x ∣ M) → (∀ x ∈ O, x ∣ M) → L ∣ M
theorem dvd_red {x al L2 : Nat} (h : x / Nat.gcd x al ∣ L2) : x ∣ L2 * al := by
  obtain ⟨u, hu⟩ := h
  obtain ⟨v, hv⟩ := Nat.gcd_dvd_right x al
  have hx : x / Nat.gcd x al * Nat.gcd x al = x := Nat.div_mul_cancel (Nat.gcd_dvd_left _ _)
  refine ⟨u * v, ?_⟩
  conv => rhs; rw [← hx]
  generalize x / Nat.gcd x al = p at hu
  generalize Nat.gcd x al = g at hv
  rw [hu, hv]
  simp only [Nat.mul_comm, Nat.mul_left_comm]
theorem test1_spec {E O : List Nat} {al : Nat} (h : test1 E O al = true) : ∃ L L2, BigF E O al L L2 := by
  refine ⟨lcF E (lcF O 1), lc2 al E (lc2 al O 1), ?_⟩
  simp only [test1, Bool.and_eq_true, Nat.ble_eq, suF_eq] at h
  obtain ⟨⟨⟨⟨⟨h1, h2⟩, h3⟩, h4⟩, h5⟩, ⟨h6, h7⟩, h8⟩ := h
  have a1 := lcF_spec E (lcF O 1)
  have a2 := lcF_spec O 1
  have b1 := lc2_spec al E (lc2 al O 1)
  have b2 := lc2_spec al O 1
  exact ⟨h1, h2, h3, h4, a1.2, fun x hx => Nat.dvd_trans (a2.2 x hx) a1.1, fun x hx => dvd_red (b1.2 x hx), fun x hx => dvd_red (Nat.dvd_trans (b2.2 x hx) b1.1), h5, h6, h7, h8,
    fun M m1 m2 => lcF_min E _ (lcF_min O 1 (Nat.one_dvd _) m2) m1⟩
theorem BigF.perm {E O E' O' : List Nat} {al L L2 : Nat} (h : BigF E O al L L2) (hE : E.Perm E') (hO : O.Perm O') : BigF E' O' al L L2 := by
  have e1 := sum_perm (hE.map (L / ·))
  have e2 := sum_perm (hO.map (L / ·))
  have e3 := sum_perm (hE.map (L2 * al / ·))
  have e4 := sum_perm (hO.map (L2 * al / ·))
  obtain ⟨h1, h2, h3, h4, h5, h6, h7, h8, h9, h10, h11, h12, h13⟩ := h
  exact ⟨h1, h2, h3, h4, fun x hx => h5 x (hE.mem_iff.2 hx), fun x hx => h6 x (hO.mem_iff.2 hx), fun x hx => h7 x (hE.mem_iff.2 hx), fun x hx => h8 x (hO.mem_iff.2 hx), by rw [← e1, ← e2]; exact h9, by rw [← e3, ← e4]; exact h10, by rw [← e3, ← e4]; exact h11, by rw [← e3, ← e4]; exact h12, fun M m1 m2 => h13 M (fun x hx => m1 x (hE.mem_iff.1 hx)) (fun x hx => m2 x (hO.mem_iff.1 hx))⟩

/-- What the kernel found of a kind of the weight a and others. -/
structure HeadF (a : Nat) (E O : List Nat) (al L P : Nat) : Prop where
  L1 : 1 ≤ L
  LM : L ≤ 1152921504606846976
  P1 : 1 ≤ P
  PM : (a + al) * P ≤ 1152921504606846976
  d0 : a ∣ L
  dE : ∀ x ∈ E, (a + x) ∣ L
  dO : ∀ x ∈ O, (a + x) ∣ L
  fE : ∀ x ∈ E, x ∣ L
  fO : ∀ x ∈ O, x ∣ L
  pE : ∀ x ∈ E, x ≠ al → (a + x) ∣ P * a
  pO : ∀ x ∈ O, x ≠ al → (a + x) ∣ P * a
  su : a * (L / a + ((E.map (fun x => L / (a + x))).sum + (O.map (fun x => L / (a + x))).sum)) ≤ 4611686018427387903
  mi : ∀ M, a ∣ M → (∀ x ∈ E, (a + x) ∣ M) → (∀ x ∈ O, (a + x) ∣ M) → (∀ x ∈ E, x ∣ M) → (∀ x ∈ O, x ∣ M) → L ∣ M
theorem test2_spec {E O : List Nat} {al a : Nat} (h : test2 E O al = true) (h1 : 1 ≤ a) (h9 : a ≤ 9) : ∃ L P, HeadF a E O al L P := by
  have h' : allTo (fun a => test3 (lcF E (lcF O 1)) a E O al) 9 = true := h
  have ht : test3 (lcF E (lcF O 1)) a E O al = true := allTo_spec h' a h1 h9
  generalize hL0 : lcF E (lcF O 1) = L0 at ht
  refine ⟨lcA a E (lcA a O (L0 * (a / Nat.gcd L0 a))), lc3 a al E (lc3 a al O 1), ?_⟩
  simp only [test3, Bool.and_eq_true, Nat.ble_eq, suA_eq] at ht
  obtain ⟨⟨⟨⟨g1, g2⟩, g3⟩, g4⟩, g5⟩ := ht
  have z1 := lcF_spec E (lcF O 1)
  have z2 := lcF_spec O 1
  rw [hL0] at z1
  have c := lcm_at L0 a
  have a1 := lcA_spec a E (lcA a O (L0 * (a / Nat.gcd L0 a)))
  have a2 := lcA_spec a O (L0 * (a / Nat.gcd L0 a))
  have b1 := lc3_spec a al E (lc3 a al O 1)
  have b2 := lc3_spec a al O 1
  have k := Nat.dvd_trans c.1 (Nat.dvd_trans a2.1 a1.1)
  exact ⟨g1, g2, g3, g5, Nat.dvd_trans c.2 (Nat.dvd_trans a2.1 a1.1), a1.2, fun x hx => Nat.dvd_trans (a2.2 x hx) a1.1, fun x hx => Nat.dvd_trans (z1.2 x hx) k, fun x hx => Nat.dvd_trans (Nat.dvd_trans (z2.2 x hx) z1.1) k,
    fun x hx hn => dvd_red (b1.2 x hx hn), fun x hx hn => dvd_red (Nat.dvd_trans (b2.2 x hx hn) b1.1), g4,
    fun M m0 m1 m2 m3 m4 => lcA_min E _ (lcA_min O _ (lcm_min (by rw [← hL0]; exact lcF_min E _ (lcF_min O 1 (Nat.one_dvd _) m4) m3) m0) m2) m1⟩
theorem HeadF.perm {E O E' O' : List Nat} {a al L P : Nat} (h : HeadF a E O al L P) (hE : E.Perm E') (hO : O.Perm O') : HeadF a E' O' al L P := by
  have e1 := sum_perm (hE.map (fun x => L / (a + x)))
  have e2 := sum_perm (hO.map (fun x => L / (a + x)))
  obtain ⟨h1, h2, h3, h4, h5, h6, h7, h8, h9, h10, h11, h12, h13⟩ := h
  exact ⟨h1, h2, h3, h4, h5, fun x hx => h6 x (hE.mem_iff.2 hx), fun x hx => h7 x (hO.mem_iff.2 hx), fun x hx => h8 x (hE.mem_iff.2 hx), fun x hx => h9 x (hO.mem_iff.2 hx), fun x hx => h10 x (hE.mem_iff.2 hx), fun x hx => h11 x (hO.mem_iff.2 hx), by rw [← e1, ← e2]; exact h12, fun M m0 m1 m2 m3 m4 => h13 M m0 (fun x hx => m1 x (hE.mem_iff.1 hx)) (fun x hx => m2 x (hO.mem_iff.1 hx)) (fun x hx => m3 x (hE.mem_iff.1 hx)) (fun x hx => m4 x (hO.mem_iff.1 hx))⟩

theorem any_order {t : List Nat → List Nat → Nat → Bool} {d : Nat} (h : chk t d 9 [] [] 0 = true) {l : List Nat} (hl : l.length ≤ d) (h9 : ∀ x ∈ l, 1 ≤ x ∧ x ≤ 9) : ∃ m : List Nat, m.Perm l ∧ t (eo m).1 (eo m).2 m.sum = true := by
  have hp := List.mergeSort_perm l (fun a b => decide (b ≤ a))
  refine ⟨(l.mergeSort (fun a b => decide (b ≤ a))).reverse, (List.reverse_perm _).trans hp, ?_⟩
  have hs := List.pairwise_mergeSort (le := fun a b : Nat => decide (b ≤ a)) (fun a b c h1 h2 => by simp at *; omega) (fun a b => by simp; omega) l
  have := chk_all (t := t) (l.mergeSort (fun a b => decide (b ≤ a))) d 9 [] (by rw [hp.length_eq]; exact hl) (List.pairwise_cons.2 ⟨fun x hx => (h9 x (hp.mem_iff.1 hx)).2, hs.imp (by simp)⟩) (fun x hx => (h9 x (hp.mem_iff.1 hx)).1) h
  simpa using this
end Go.Proofs.Ytgednacoeifclaa
