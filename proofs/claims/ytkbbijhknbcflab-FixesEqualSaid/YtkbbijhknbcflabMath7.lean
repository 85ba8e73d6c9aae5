/-
  Equal states: classes, made finer round by round, and that states in one class agree on all formulas.
-/
import Derived.Test.YtkbbijhknbcflabMath4
namespace Go.Proofs.Ytkbbijhknbcflab

/-- What is in the classes of the states of a set, of the first k states. -/
def unc (c : Nat → Nat) (X : Nat) : Nat → Nat
  | 0 => 0
  | k + 1 => if X.testBit k then unc c X k ||| c k else unc c X k
theorem bit_unc (c : Nat → Nat) (X : Nat) : ∀ k i, (unc c X k).testBit i = true ↔ ∃ s, s < k ∧ X.testBit s = true ∧ (c s).testBit i = true
  | 0, i => by simp [unc]
  | k + 1, i => by
    have ih := bit_unc c X k i
    simp only [unc]
    split
    · rename_i h
      rw [Nat.testBit_or, Bool.or_eq_true, ih]
      constructor
      · rintro (⟨s, h1, h2⟩ | h2)
        · exact ⟨s, by omega, h2⟩
        · exact ⟨k, by omega, h, h2⟩
      · rintro ⟨s, h1, h2, h3⟩
        by_cases e : s = k
        · subst e; exact Or.inr h3
        · exact Or.inl ⟨s, by omega, h2, h3⟩
    · rename_i h
      rw [ih]
      constructor
      · rintro ⟨s, h1, h2⟩; exact ⟨s, by omega, h2⟩
      · rintro ⟨s, h1, h2, h3⟩
        by_cases e : s = k
        · subst e; exact absurd h2 h
        · exact ⟨s, by omega, h2, h3⟩
theorem eq_of_bits {X Y : Nat} (h : ∀ i, X.testBit i = true ↔ Y.testBit i = true) : X = Y :=
  Nat.eq_of_testBit_eq fun i => Bool.eq_iff_iff.2 (h i)

section
variable (n : Nat) (nx mk : Nat → Nat)
/-- The states, of the first k, with the same marks and next states in the same classes. -/
def spl (c : Nat → Nat) (s : Nat) : Nat → Nat
  | 0 => 0
  | k + 1 => if mk s = mk k ∧ unc c (nx s) n = unc c (nx k) n then spl c s k ||| 2 ^ k else spl c s k
/-- The classes after so many rounds. -/
def rnd : Nat → Nat → Nat
  | 0 => fun _ => 0
  | k + 1 => fun s => spl n nx mk (rnd k) s n
end
variable {n : Nat} {nx mk : Nat → Nat}
theorem bit_spl (c : Nat → Nat) (s : Nat) : ∀ k t, (spl n nx mk c s k).testBit t = true ↔ t < k ∧ mk s = mk t ∧ unc c (nx s) n = unc c (nx t) n
  | 0, t => by simp [spl]
  | k + 1, t => by
    have ih := bit_spl c s k t
    simp only [spl]
    split
    · rename_i h
      rw [Nat.testBit_or, Bool.or_eq_true, ih, bit_pow, decide_eq_true_eq]
      constructor
      · rintro (⟨h1, h2⟩ | rfl)
        · exact ⟨by omega, h2⟩
        · exact ⟨by omega, h⟩
      · rintro ⟨h1, h2⟩
        by_cases e : k = t
        · exact Or.inr e
        · exact Or.inl ⟨by omega, h2⟩
    · rename_i h
      rw [ih]
      constructor
      · rintro ⟨h1, h2⟩; exact ⟨by omega, h2⟩
      · rintro ⟨h1, h2⟩
        by_cases e : t = k
        · subst e; exact absurd h2 h
        · exact ⟨by omega, h2⟩
theorem spl_lt (c : Nat → Nat) (s : Nat) : spl n nx mk c s n < 2 ^ n := lt_of_bits fun i hi => ((bit_spl c s n i).1 hi).1
theorem rnd_lt : ∀ k s, rnd n nx mk k s < 2 ^ n
  | 0, _ => Nat.two_pow_pos n
  | _ + 1, s => spl_lt _ s
theorem bit_rnd (k s t : Nat) : (rnd n nx mk (k + 1) s).testBit t = true ↔ t < n ∧ mk s = mk t ∧ unc (rnd n nx mk k) (nx s) n = unc (rnd n nx mk k) (nx t) n := bit_spl _ s n t
theorem rnd_self {k s : Nat} (h : s < n) : (rnd n nx mk (k + 1) s).testBit s = true := (bit_rnd k s s).2 ⟨h, rfl, rfl⟩
theorem rnd_trans {k s t u : Nat} (h1 : (rnd n nx mk (k + 1) s).testBit t = true) (h2 : (rnd n nx mk (k + 1) t).testBit u = true) : (rnd n nx mk (k + 1) s).testBit u = true := by
  rw [bit_rnd] at *
  exact ⟨h2.1, h1.2.1.trans h2.2.1, h1.2.2.trans h2.2.2⟩
theorem unc_zero (X : Nat) (k : Nat) : unc (fun _ => 0) X k = 0 := eq_of_bits fun i => by rw [bit_unc]; simp
theorem rnd_finer : ∀ {k s t : Nat}, (rnd n nx mk (k + 2) s).testBit t = true → (rnd n nx mk (k + 1) s).testBit t = true
  | 0, s, t, h => by
    rw [bit_rnd] at h ⊢
    refine ⟨h.1, h.2.1, ?_⟩
    show unc (fun _ => 0) _ _ = unc (fun _ => 0) _ _
    rw [unc_zero, unc_zero]
  | k + 1, s, t, h => by
    have key : ∀ X, unc (rnd n nx mk (k + 1)) X n = unc (rnd n nx mk (k + 1)) (unc (rnd n nx mk (k + 2)) X n) n := by
      intro X
      refine eq_of_bits fun v => ?_
      rw [bit_unc, bit_unc]
      constructor
      · rintro ⟨u, h1, h2, h3⟩
        exact ⟨u, h1, (bit_unc _ _ _ _).2 ⟨u, h1, h2, rnd_self h1⟩, h3⟩
      · rintro ⟨w, h1, h2, h3⟩
        obtain ⟨u, g1, g2, g3⟩ := (bit_unc _ _ _ _).1 h2
        exact ⟨u, g1, g2, rnd_trans (rnd_finer g3) h3⟩
    rw [bit_rnd] at h ⊢
    refine ⟨h.1, h.2.1, ?_⟩
    rw [key (nx s), key (nx t), h.2.2]

/-- How large all classes are together. -/
def tot (c : Nat → Nat) : Nat → Nat
  | 0 => 0
  | k + 1 => tot c k + c k
theorem Sub.le {X Y : Nat} (h : Sub X Y) : X ≤ Y := by
  have : X &&& Y = X := eq_of_bits fun i => by
    rw [Nat.testBit_and, Bool.and_eq_true]
    exact ⟨fun g => g.1, fun g => ⟨g, h i g⟩⟩
  rw [← this]; exact Nat.and_le_right
theorem tot_le {c d : Nat → Nat} (h : ∀ s, c s ≤ d s) : ∀ k, tot c k ≤ tot d k
  | 0 => Nat.le_refl _
  | k + 1 => Nat.add_le_add (tot_le h k) (h k)
theorem tot_lt {c d : Nat → Nat} (h : ∀ s, c s ≤ d s) : ∀ k, (∃ s, s < k ∧ c s ≠ d s) → tot c k < tot d k
  | 0, ⟨s, hs, _⟩ => absurd hs (Nat.not_lt_zero s)
  | k + 1, ⟨s, hs, hne⟩ => by
    have h1 := tot_le h k
    have h2 := h k
    simp only [tot]
    by_cases e : s = k
    · subst e; omega
    · have := tot_lt h k ⟨s, by omega, hne⟩; omega
/-- After so many rounds the classes stay. -/
def Stays (n : Nat) (nx mk : Nat → Nat) (k : Nat) : Prop := ∀ s, s < n → rnd n nx mk (k + 1) s = rnd n nx mk k s
theorem stays_not_zero (h : 1 ≤ n) : ¬ Stays n nx mk 0 := fun g => by
  have h1 := g 0 (by omega)
  have h2 : (rnd n nx mk 1 0).testBit 0 = true := rnd_self (by omega)
  rw [show rnd n nx mk (0 + 1) 0 = rnd n nx mk 1 0 from rfl] at h1
  rw [h1] at h2
  simp [rnd] at h2
theorem tot_bd {c : Nat → Nat} {B : Nat} (h : ∀ s, c s ≤ B) : ∀ k, tot c k ≤ k * B
  | 0 => by simp [tot]
  | k + 1 => by
    have h1 := tot_bd h k
    have h2 := h k
    simp only [tot, Nat.add_mul, Nat.one_mul]; omega
theorem stays_some : ∃ k, k ≤ n * 2 ^ n + 1 ∧ Stays n nx mk (k + 1) := by
  refine Classical.byContradiction fun hno => ?_
  have hne : ∀ k, k ≤ n * 2 ^ n + 1 → ∃ s, s < n ∧ rnd n nx mk (k + 2) s ≠ rnd n nx mk (k + 1) s := fun k hk => by
    refine Classical.byContradiction fun h => hno ⟨k, hk, fun s hs => ?_⟩
    exact Classical.byContradiction fun g => h ⟨s, hs, g⟩
  have hd : ∀ k, k ≤ n * 2 ^ n + 1 → tot (rnd n nx mk (k + 2)) n < tot (rnd n nx mk (k + 1)) n := fun k hk =>
    tot_lt (fun s => Sub.le fun i hi => rnd_finer hi) n (hne k hk)
  have : ∀ k, k ≤ n * 2 ^ n + 1 → tot (rnd n nx mk (k + 1)) n + k ≤ tot (rnd n nx mk 1) n := by
    intro k
    induction k with
    | zero => intro _; exact Nat.le_refl _
    | succ k ih =>
      intro hk
      have hd' : tot (rnd n nx mk (k + 1 + 1)) n < tot (rnd n nx mk (k + 1)) n := hd k (by omega)
      have := ih (by omega)
      omega
  have h1 := this (n * 2 ^ n + 1) (Nat.le_refl _)
  have h2 := tot_bd (c := rnd n nx mk 1) (B := 2 ^ n) (fun s => Nat.le_of_lt (rnd_lt 1 s)) n
  omega
theorem stays_first (h : 1 ≤ n) (h6 : n ≤ 6) : ∃ r, 1 ≤ r ∧ r ≤ 400 ∧ Stays n nx mk r ∧ ∀ j, j < r → ¬ Stays n nx mk j := by
  obtain ⟨k, hk0, hk⟩ := stays_some (n := n) (nx := nx) (mk := mk)
  obtain ⟨r, hr, h1, h2⟩ := least_of (P := Stays n nx mk) (n := k + 1) ⟨k + 1, Nat.le_refl _, hk⟩
  have hb : n * 2 ^ n ≤ 384 := by
    rcases (show n = 1 ∨ n = 2 ∨ n = 3 ∨ n = 4 ∨ n = 5 ∨ n = 6 by omega) with rfl | rfl | rfl | rfl | rfl | rfl <;> decide
  refine ⟨r, ?_, by omega, h1, h2⟩
  cases r with
  | zero => exact absurd h1 (stays_not_zero h)
  | succ r => omega

/-- Classes that stay. -/
structure Cls (n : Nat) (nx mk : Nat → Nat) (c : Nat → Nat) : Prop where
  bit : ∀ s, s < n → ∀ t, (c s).testBit t = true ↔ t < n ∧ mk s = mk t ∧ unc c (nx s) n = unc c (nx t) n
theorem unc_congr {c d : Nat → Nat} (h : ∀ s, s < n → c s = d s) (X : Nat) : unc c X n = unc d X n := eq_of_bits fun i => by
  rw [bit_unc, bit_unc]
  constructor <;> rintro ⟨s, h1, h2, h3⟩
  · exact ⟨s, h1, h2, by rw [← h s h1]; exact h3⟩
  · exact ⟨s, h1, h2, by rw [h s h1]; exact h3⟩
theorem Stays.cls {r : Nat} (h : Stays n nx mk r) : Cls n nx mk (rnd n nx mk r) := ⟨fun s hs t => by rw [← h s hs]; exact bit_rnd r s t⟩
theorem Cls.self {c : Nat → Nat} (h : Cls n nx mk c) {s : Nat} (hs : s < n) : (c s).testBit s = true := (h.bit s hs s).2 ⟨hs, rfl, rfl⟩
theorem Cls.symm {c : Nat → Nat} (h : Cls n nx mk c) {s t : Nat} (hs : s < n) (ht : (c s).testBit t = true) : (c t).testBit s = true := by
  obtain ⟨h1, h2, h3⟩ := (h.bit s hs t).1 ht
  exact (h.bit t h1 s).2 ⟨hs, h2.symm, h3.symm⟩
theorem Cls.lt {c : Nat → Nat} (h : Cls n nx mk c) {s : Nat} (hs : s < n) : c s < 2 ^ n := lt_of_bits fun i hi => ((h.bit s hs i).1 hi).1
theorem Cls.same {c : Nat → Nat} (h : Cls n nx mk c) {s t : Nat} (hs : s < n) (ht : (c s).testBit t = true) : c s = c t := by
  obtain ⟨h1, h2, h3⟩ := (h.bit s hs t).1 ht
  refine eq_of_bits fun i => ?_
  rw [h.bit s hs, h.bit t h1, h2, h3]
theorem Cls.apart {c : Nat → Nat} (h : Cls n nx mk c) {s t : Nat} (hs : s < n) (ht : t < n) (hne : c s ≠ c t) : c s &&& c t = 0 := by
  refine Classical.byContradiction fun g => ?_
  obtain ⟨i, h1, h2⟩ := and_ne.1 g
  exact hne ((h.same hs h1).trans (h.same ht h2).symm)

/-- A set that holds with each state all that are equal to it. -/
def Clo (n : Nat) (c : Nat → Nat) (X : Nat) : Prop := ∀ s t, s < n → (c s).testBit t = true → X.testBit s = true → X.testBit t = true
theorem Clo.and {c : Nat → Nat} {X Y : Nat} (h : Clo n c X) (k : Clo n c Y) : Clo n c (X &&& Y) := fun s t hs ht hX => by
  rw [Nat.testBit_and, Bool.and_eq_true] at hX ⊢
  exact ⟨h s t hs ht hX.1, k s t hs ht hX.2⟩
theorem Clo.or {c : Nat → Nat} {X Y : Nat} (h : Clo n c X) (k : Clo n c Y) : Clo n c (X ||| Y) := fun s t hs ht hX => by
  rw [Nat.testBit_or, Bool.or_eq_true] at hX ⊢
  exact hX.imp (h s t hs ht) (k s t hs ht)
theorem Clo.com {c : Nat → Nat} (hc : Cls n nx mk c) {X : Nat} (h : Clo n c X) : Clo n c (sdf (2 ^ n - 1) X) := fun s t hs ht hX => by
  rw [bit_sdf, bit_all, Bool.and_eq_true] at hX ⊢
  have htn := ((hc.bit s hs t).1 ht).1
  refine ⟨decide_eq_true htn, ?_⟩
  cases hXt : X.testBit t
  · rfl
  · have := h t s htn (hc.symm hs ht) hXt
    rw [this] at hX; exact absurd hX.2 (by decide)
theorem Clo.bef {c : Nat → Nat} (hc : Cls n nx mk c) {X : Nat} (hX : X < 2 ^ n) (h : Clo n c X) : Clo n c (bef nx X n) := fun s t hs ht hb => by
  rw [bit_bef, Bool.and_eq_true, decide_eq_true_eq, decide_eq_true_eq] at hb ⊢
  obtain ⟨h1, h2, h3⟩ := (hc.bit s hs t).1 ht
  refine ⟨h1, ?_⟩
  obtain ⟨u, g1, g2⟩ := and_ne.1 hb.2
  have hu := bit_in hX g2
  have : (unc c (nx s) n).testBit u = true := (bit_unc _ _ _ _).2 ⟨u, hu, g1, hc.self hu⟩
  rw [h3] at this
  obtain ⟨v, k1, k2, k3⟩ := (bit_unc _ _ _ _).1 this
  exact and_ne.2 ⟨v, k2, h u v hu (hc.symm k1 k3) g2⟩
theorem Clo.all {c : Nat → Nat} (hc : Cls n nx mk c) : Clo n c (2 ^ n - 1) := fun s t hs ht _ => by
  rw [bit_all]; exact decide_eq_true ((hc.bit s hs t).1 ht).1
theorem Clo.zero {c : Nat → Nat} : Clo n c 0 := fun s t _ _ h => by simp at h
theorem den_clo {c : Nat → Nat} (hc : Cls n nx mk c) (F : Fm) : ∀ {e : Nat → Nat}, EnvOk n e → (∀ i, Clo n c (e i)) → Clo n c (den n nx mk F e) := by
  have hm : ∀ k, Clo n c (mkd mk k n) := fun k s t hs ht hX => by
    rw [bit_mkd, Bool.and_eq_true] at hX ⊢
    obtain ⟨h1, h2, _⟩ := (hc.bit s hs t).1 ht
    exact ⟨decide_eq_true h1, by rw [← h2]; exact hX.2⟩
  induction F with
  | mark k => intro e _ _; exact hm k
  | unm k => intro e _ _; exact (hm k).com hc
  | tt => intro e _ _; exact Clo.all hc
  | ff => intro e _ _; exact Clo.zero
  | two a l r ih1 ih2 =>
    intro e he hC
    cases a
    · exact (ih1 he hC).or (ih2 he hC)
    · exact (ih1 he hC).and (ih2 he hC)
  | ahead d l ih =>
    intro e he hC
    cases d
    · exact Clo.com hc (Clo.bef hc (sdf_lt _ (all_lt n)) (Clo.com hc (ih he hC)))
    · exact Clo.bef hc (den_lt l he) (ih he hC)
  | var i => intro e _ hC; exact hC i
  | fix g i l ih =>
    intro e he hC
    have hs : ∀ X, X < 2 ^ n → Clo n c X → Clo n c (den n nx mk l (upd e i X)) := fun X hX hCX => ih (he.upd i hX) (fun j => by
      unfold upd; split
      · exact hCX
      · exact hC j)
    have : ∀ k, Clo n c (iter (fun X => den n nx mk l (upd e i X)) (beg g n) k) := by
      intro k
      induction k with
      | zero => cases g; exact Clo.zero; exact Clo.all hc
      | succ k ih2 => exact hs _ (iter_lt (fun X hX => den_lt l (he.upd i hX)) (beg_lt g n) k) ih2
    exact this n
theorem holds_clo {c : Nat → Nat} (hc : Cls n nx mk c) (F : Fm) : Clo n c (holds n nx mk F) := den_clo hc F (EnvOk.zero n) fun _ => Clo.zero
/-- A formula holds in none of a class, or in all of it. -/
theorem clo_class {c : Nat → Nat} (hc : Cls n nx mk c) {X : Nat} (h : Clo n c X) {s : Nat} (hs : s < n) : X &&& c s = 0 ∨ X &&& c s = c s := by
  by_cases g : X &&& c s = 0
  · exact Or.inl g
  · obtain ⟨i, h1, h2⟩ := and_ne.1 g
    have hi := ((hc.bit s hs i).1 h2).1
    refine Or.inr (eq_of_bits fun j => ?_)
    rw [Nat.testBit_and, Bool.and_eq_true]
    refine ⟨fun k => k.2, fun k => ⟨?_, k⟩⟩
    rw [hc.same hs h2] at k
    exact h i j hi k h1
end Go.Proofs.Ytkbbijhknbcflab
