/-
  Sets of states as numbers; what comes of working a change of sets out again and again.
-/
import Derived.Test.YtkbbijhknbcflabMath1
namespace Go.Proofs.Ytkbbijhknbcflab

/-- What is in one set and not in another one. -/
def sdf (s t : Nat) : Nat := s ^^^ (s &&& t)
theorem bit_sdf (s t i : Nat) : (sdf s t).testBit i = (s.testBit i && !t.testBit i) := by
  simp only [sdf, Nat.testBit_xor, Nat.testBit_and]; cases s.testBit i <;> cases t.testBit i <;> rfl
theorem bit_all (n i : Nat) : (2 ^ n - 1).testBit i = decide (i < n) := Nat.testBit_two_pow_sub_one n i
theorem bit_out {X n i : Nat} (h : X < 2 ^ n) (hi : n ≤ i) : X.testBit i = false :=
  Nat.testBit_lt_two_pow (Nat.lt_of_lt_of_le h (Nat.pow_le_pow_right (by decide) hi))
theorem bit_in {X n i : Nat} (h : X < 2 ^ n) (hi : X.testBit i = true) : i < n := by
  rcases Nat.lt_or_ge i n with h1 | h1
  · exact h1
  · rw [bit_out h h1] at hi; cases hi
theorem lt_of_bits {X n : Nat} (h : ∀ i, X.testBit i = true → i < n) : X < 2 ^ n := by
  refine Nat.lt_pow_two_of_testBit X fun i hi => ?_
  cases e : X.testBit i
  · rfl
  · have := h i e; omega
theorem bit_pow (k i : Nat) : (2 ^ k).testBit i = decide (k = i) := Nat.testBit_two_pow

/-- One set is a part of another one. -/
def Sub (X Y : Nat) : Prop := ∀ i, X.testBit i = true → Y.testBit i = true
theorem Sub.refl (X : Nat) : Sub X X := fun _ h => h
theorem Sub.trans {X Y Z : Nat} (h : Sub X Y) (k : Sub Y Z) : Sub X Z := fun i hi => k i (h i hi)
theorem Sub.antisymm {X Y : Nat} (h : Sub X Y) (k : Sub Y X) : X = Y := by
  refine Nat.eq_of_testBit_eq fun i => ?_
  cases hx : X.testBit i <;> cases hy : Y.testBit i
  · rfl
  · rw [k i hy] at hx; cases hx
  · rw [h i hx] at hy; cases hy
  · rfl
theorem Sub.zero (X : Nat) : Sub 0 X := fun i h => by simp at h
theorem Sub.all {X n : Nat} (h : X < 2 ^ n) : Sub X (2 ^ n - 1) := fun i hi => by rw [bit_all]; exact decide_eq_true (bit_in h hi)
theorem Sub.lt {X Y n : Nat} (h : Sub X Y) (k : Y < 2 ^ n) : X < 2 ^ n := lt_of_bits fun i hi => bit_in k (h i hi)
theorem all_lt (n : Nat) : 2 ^ n - 1 < 2 ^ n := Nat.sub_lt (Nat.two_pow_pos n) (by decide)
theorem sdf_lt {s n : Nat} (t : Nat) (h : s < 2 ^ n) : sdf s t < 2 ^ n := lt_of_bits fun i hi => by
  rw [bit_sdf] at hi; simp at hi; exact bit_in h hi.1

/-- How many there are in a set below n. -/
def cnt (X : Nat) : Nat → Nat
  | 0 => 0
  | n + 1 => cnt X n + if X.testBit n then 1 else 0
theorem cnt_le (X : Nat) : ∀ n, cnt X n ≤ n
  | 0 => Nat.le_refl _
  | n + 1 => by have := cnt_le X n; simp only [cnt]; split <;> omega
theorem cnt_sub {X Y : Nat} (h : Sub X Y) : ∀ n, cnt X n ≤ cnt Y n
  | 0 => Nat.le_refl _
  | n + 1 => by
    have := cnt_sub h n
    simp only [cnt]
    cases hx : X.testBit n
    · simp; split <;> omega
    · rw [h n hx]; simpa using this
theorem cnt_lt {X Y : Nat} (h : Sub X Y) : ∀ n, (∃ i, i < n ∧ X.testBit i = false ∧ Y.testBit i = true) → cnt X n < cnt Y n
  | 0, ⟨i, hi, _⟩ => absurd hi (Nat.not_lt_zero _)
  | n + 1, ⟨i, hi, hx, hy⟩ => by
    by_cases e : i = n
    · subst e
      have := cnt_sub h i
      simp only [cnt, hx, hy]; simp; omega
    · have := cnt_lt h n ⟨i, by omega, hx, hy⟩
      simp only [cnt]
      cases hxn : X.testBit n
      · simp; split <;> omega
      · rw [h n hxn]; simpa using this
theorem sub_new {X Y n : Nat} (h : Sub X Y) (hY : Y < 2 ^ n) (hne : Y ≠ X) : ∃ i, i < n ∧ X.testBit i = false ∧ Y.testBit i = true := by
  refine Classical.byContradiction fun hc => hne (Sub.antisymm (fun i hi => ?_) h)
  cases hx : X.testBit i
  · exact absurd ⟨i, bit_in hY hi, hx, hi⟩ hc
  · rfl

/-- A change worked out k times. -/
def iter (F : Nat → Nat) (s : Nat) : Nat → Nat
  | 0 => s
  | k + 1 => F (iter F s k)
/-- It is worked out for the first time, so that nothing changes. -/
def First (F : Nat → Nat) (s k : Nat) : Prop := F (iter F s k) = iter F s k ∧ ∀ j, j < k → F (iter F s j) ≠ iter F s j
theorem First.uniq {F : Nat → Nat} {s k k' : Nat} (h : First F s k) (h' : First F s k') : k = k' := by
  rcases Nat.lt_trichotomy k k' with hlt | rfl | hgt
  · exact absurd h.1 (h'.2 k hlt)
  · rfl
  · exact absurd h'.1 (h.2 k' hgt)
theorem iter_stay {F : Nat → Nat} {s k : Nat} (h : F (iter F s k) = iter F s k) : ∀ j, iter F s (k + j) = iter F s k
  | 0 => rfl
  | j + 1 => by rw [← Nat.add_assoc, iter, iter_stay h j, h]
theorem First.stay {F : Nat → Nat} {s k n : Nat} (h : First F s k) (hn : k ≤ n) : iter F s n = iter F s k := by
  obtain ⟨j, rfl⟩ : ∃ j, n = k + j := ⟨n - k, by omega⟩
  exact iter_stay h.1 j
theorem least_of {P : Nat → Prop} {n : Nat} (h : ∃ k, k ≤ n ∧ P k) : ∃ k, k ≤ n ∧ P k ∧ ∀ j, j < k → ¬ P j := by
  induction n with
  | zero => obtain ⟨k, hk, hP⟩ := h; exact ⟨k, hk, hP, fun j hj => by omega⟩
  | succ n ih =>
    by_cases hq : ∃ k, k ≤ n ∧ P k
    · obtain ⟨k, hk, r⟩ := ih hq
      exact ⟨k, by omega, r⟩
    · obtain ⟨k, hk, hP⟩ := h
      refine ⟨k, hk, hP, fun j hj hPj => hq ⟨j, by omega, hPj⟩⟩
theorem first_of {F : Nat → Nat} {s n : Nat} (c : Nat → Nat) (hc : ∀ k, F (iter F s k) ≠ iter F s k → c (iter F s k) < c (iter F s (k + 1))) (hb : ∀ k, c (iter F s k) ≤ n) : ∃ k, k ≤ n ∧ First F s k := by
  have h : ∃ k, k ≤ n ∧ F (iter F s k) = iter F s k := by
    refine Classical.byContradiction fun hno => ?_
    have up : ∀ k, k ≤ n + 1 → k ≤ c (iter F s k) := by
      intro k
      induction k with
      | zero => intro _; exact Nat.zero_le _
      | succ k ih =>
        intro hk
        have h1 := ih (by omega)
        have h2 := hc k (fun e => hno ⟨k, by omega, e⟩)
        omega
    have := up (n + 1) (Nat.le_refl _)
    have := hb (n + 1)
    omega
  obtain ⟨k, hk, hP, hl⟩ := least_of h
  exact ⟨k, hk, hP, hl⟩

/-- A change that is monotone and stays within the sets of n states. -/
structure Mono (n : Nat) (F : Nat → Nat) : Prop where
  mono : ∀ {X Y}, X < 2 ^ n → Y < 2 ^ n → Sub X Y → Sub (F X) (F Y)
  lt : ∀ {X}, X < 2 ^ n → F X < 2 ^ n
theorem Mono.iter_lt {n : Nat} {F : Nat → Nat} (h : Mono n F) {s : Nat} (hs : s < 2 ^ n) : ∀ k, iter F s k < 2 ^ n
  | 0 => hs
  | k + 1 => h.lt (h.iter_lt hs k)
theorem Mono.up {n : Nat} {F : Nat → Nat} (h : Mono n F) : ∀ k, Sub (iter F 0 k) (iter F 0 (k + 1))
  | 0 => Sub.zero _
  | k + 1 => h.mono (h.iter_lt (Nat.two_pow_pos n) k) (h.iter_lt (Nat.two_pow_pos n) (k + 1)) (h.up k)
theorem Mono.down {n : Nat} {F : Nat → Nat} (h : Mono n F) : ∀ k, Sub (iter F (2 ^ n - 1) (k + 1)) (iter F (2 ^ n - 1) k)
  | 0 => Sub.all (h.lt (all_lt n))
  | k + 1 => h.mono (h.iter_lt (all_lt n) (k + 1)) (h.iter_lt (all_lt n) k) (h.down k)
theorem Mono.first_up {n : Nat} {F : Nat → Nat} (h : Mono n F) : ∃ k, k ≤ n ∧ First F 0 k :=
  first_of (fun X => cnt X n) (fun k hne => cnt_lt (h.up k) n (sub_new (h.up k) (h.iter_lt (Nat.two_pow_pos n) (k + 1)) hne)) (fun _ => cnt_le _ n)
theorem Mono.first_down {n : Nat} {F : Nat → Nat} (h : Mono n F) : ∃ k, k ≤ n ∧ First F (2 ^ n - 1) k :=
  first_of (fun X => n - cnt X n) (fun k hne => by
    have h1 := cnt_lt (h.down k) n (sub_new (h.down k) (h.iter_lt (all_lt n) k) (fun e => hne e.symm))
    have h2 := cnt_le (iter F (2 ^ n - 1) k) n
    omega) (fun _ => Nat.sub_le _ _)

/-- Where it begins: with nothing, or with all. -/
def beg (g : Bool) (n : Nat) : Nat := if g then 2 ^ n - 1 else 0
theorem beg_lt (g : Bool) (n : Nat) : beg g n < 2 ^ n := by cases g; exact Nat.two_pow_pos n; exact all_lt n
theorem Mono.first {n : Nat} {F : Nat → Nat} (h : Mono n F) (g : Bool) : ∃ k, k ≤ n ∧ First F (beg g n) k := by
  cases g
  · exact h.first_up
  · exact h.first_down
/-- What it comes to. -/
def fixp (g : Bool) (n : Nat) (F : Nat → Nat) : Nat := iter F (beg g n) n
theorem Mono.fix {n : Nat} {F : Nat → Nat} (h : Mono n F) (g : Bool) : F (fixp g n F) = fixp g n F := by
  obtain ⟨k, hk, hf⟩ := h.first g
  rw [fixp, hf.stay hk]; exact hf.1
theorem Mono.fix_lt {n : Nat} {F : Nat → Nat} (h : Mono n F) (g : Bool) : fixp g n F < 2 ^ n := h.iter_lt (beg_lt g n) n
theorem Mono.least {n : Nat} {F : Nat → Nat} (h : Mono n F) {X : Nat} (hX : X < 2 ^ n) (hF : Sub (F X) X) : Sub (fixp false n F) X := by
  have : ∀ k, Sub (iter F 0 k) X := by
    intro k
    induction k with
    | zero => exact Sub.zero _
    | succ k ih => exact (h.mono (h.iter_lt (Nat.two_pow_pos n) k) hX ih).trans hF
  exact this n
theorem Mono.most {n : Nat} {F : Nat → Nat} (h : Mono n F) {X : Nat} (hX : X < 2 ^ n) (hF : Sub X (F X)) : Sub X (fixp true n F) := by
  have : ∀ k, Sub X (iter F (2 ^ n - 1) k) := by
    intro k
    induction k with
    | zero => exact Sub.all hX
    | succ k ih => exact hF.trans (h.mono hX (h.iter_lt (all_lt n) k) ih)
  exact this n
theorem iter_sub {F G : Nat → Nat} {n s t : Nat} (hF : Mono n F) (hG : Mono n G) (hs : s < 2 ^ n) (ht : t < 2 ^ n) (hst : Sub s t) (h : ∀ X, X < 2 ^ n → Sub (F X) (G X)) : ∀ k, Sub (iter F s k) (iter G t k)
  | 0 => hst
  | k + 1 => (hF.mono (hF.iter_lt hs k) (hG.iter_lt ht k) (iter_sub hF hG hs ht hst h k)).trans (h _ (hG.iter_lt ht k))
theorem fixp_sub {F G : Nat → Nat} {n : Nat} (g : Bool) (hF : Mono n F) (hG : Mono n G) (h : ∀ X, X < 2 ^ n → Sub (F X) (G X)) : Sub (fixp g n F) (fixp g n G) :=
  iter_sub hF hG (beg_lt g n) (beg_lt g n) (Sub.refl _) h n
theorem iter_congr {F G : Nat → Nat} {n s : Nat} (hF : ∀ X, X < 2 ^ n → F X < 2 ^ n) (hs : s < 2 ^ n) (h : ∀ X, X < 2 ^ n → F X = G X) : ∀ k, iter F s k = iter G s k ∧ iter F s k < 2 ^ n
  | 0 => ⟨rfl, hs⟩
  | k + 1 => by
    obtain ⟨e, l⟩ := iter_congr hF hs h k
    exact ⟨by rw [iter, iter, ← e, h _ l], hF _ l⟩
end Go.Proofs.Ytkbbijhknbcflab
