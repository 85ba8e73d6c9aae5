/-
  What a formula means: the set of states where it holds, with sets for its letters.
-/
import Derived.Test.YtkbbijhknbcflabMath2
namespace Go.Proofs.Ytkbbijhknbcflab

/-- The states, of the first k, that have a next state in a set. -/
def bef (nx : Nat → Nat) (X : Nat) : Nat → Nat
  | 0 => 0
  | k + 1 => if nx k &&& X = 0 then bef nx X k else bef nx X k ||| 2 ^ k
/-- The states, of the first k, that have a mark. -/
def mkd (mk : Nat → Nat) (j : Nat) : Nat → Nat
  | 0 => 0
  | k + 1 => if (mk k).testBit j then mkd mk j k ||| 2 ^ k else mkd mk j k
theorem bit_bef (nx : Nat → Nat) (X : Nat) : ∀ k i, (bef nx X k).testBit i = (decide (i < k) && decide (nx i &&& X ≠ 0))
  | 0, i => by simp [bef]
  | k + 1, i => by
    simp only [bef]
    split
    · rename_i h
      rw [bit_bef nx X k i]
      by_cases e : i = k
      · subst e; simp [h]
      · have : decide (i < k) = decide (i < k + 1) := by rw [decide_eq_decide]; omega
        rw [this]
    · rename_i h
      rw [Nat.testBit_or, bit_bef nx X k i, bit_pow]
      by_cases e : i = k
      · subst e; simp [h]
      · have : decide (i < k) = decide (i < k + 1) := by rw [decide_eq_decide]; omega
        rw [this]
        simp [show ¬ k = i from fun h => e h.symm]
theorem bit_mkd (mk : Nat → Nat) (j : Nat) : ∀ k i, (mkd mk j k).testBit i = (decide (i < k) && (mk i).testBit j)
  | 0, i => by simp [mkd]
  | k + 1, i => by
    simp only [mkd]
    split
    · rename_i h
      rw [Nat.testBit_or, bit_mkd mk j k i, bit_pow]
      by_cases e : i = k
      · subst e; simp [h]
      · have : decide (i < k) = decide (i < k + 1) := by rw [decide_eq_decide]; omega
        rw [this]
        simp [show ¬ k = i from fun h => e h.symm]
    · rename_i h
      rw [bit_mkd mk j k i]
      by_cases e : i = k
      · subst e; simp [h]
      · have : decide (i < k) = decide (i < k + 1) := by rw [decide_eq_decide]; omega
        rw [this]
theorem bef_lt (nx : Nat → Nat) (X k : Nat) : bef nx X k < 2 ^ k := lt_of_bits fun i hi => by rw [bit_bef] at hi; simp at hi; exact hi.1
theorem mkd_lt (mk : Nat → Nat) (j k : Nat) : mkd mk j k < 2 ^ k := lt_of_bits fun i hi => by rw [bit_mkd] at hi; simp at hi; exact hi.1
theorem and_ne {a b : Nat} : a &&& b ≠ 0 ↔ ∃ i, a.testBit i = true ∧ b.testBit i = true := by
  constructor
  · intro h
    refine Classical.byContradiction fun hc => h (Nat.eq_of_testBit_eq fun i => ?_)
    rw [Nat.testBit_and, Nat.zero_testBit]
    cases ha : a.testBit i <;> cases hb : b.testBit i
    · rfl
    · rfl
    · rfl
    · exact absurd ⟨i, ha, hb⟩ hc
  · rintro ⟨i, ha, hb⟩ h
    have := congrArg (·.testBit i) h
    simp [Nat.testBit_and, ha, hb] at this
theorem bef_sub {nx : Nat → Nat} {X Y : Nat} (h : Sub X Y) (k : Nat) : Sub (bef nx X k) (bef nx Y k) := fun i hi => by
  rw [bit_bef] at hi ⊢
  simp only [Bool.and_eq_true, decide_eq_true_eq] at hi ⊢
  obtain ⟨j, h1, h2⟩ := and_ne.1 hi.2
  exact ⟨hi.1, and_ne.2 ⟨j, h1, h j h2⟩⟩

/-- A set for a letter. -/
def upd (e : Nat → Nat) (c X : Nat) : Nat → Nat := fun i => if i = c then X else e i
theorem upd_same (e : Nat → Nat) (c X : Nat) : upd e c X c = X := by simp [upd]
theorem upd_other (e : Nat → Nat) {c i : Nat} (X : Nat) (h : i ≠ c) : upd e c X i = e i := by simp [upd, h]

section
variable (n : Nat) (nx mk : Nat → Nat)
/-- The states where it holds. -/
def den : Fm → (Nat → Nat) → Nat
  | .mark k, _ => mkd mk k n
  | .unm k, _ => sdf (2 ^ n - 1) (mkd mk k n)
  | .tt, _ => 2 ^ n - 1
  | .ff, _ => 0
  | .two a l r, e => if a then den l e &&& den r e else den l e ||| den r e
  | .ahead d l, e => if d then bef nx (den l e) n else sdf (2 ^ n - 1) (bef nx (sdf (2 ^ n - 1) (den l e)) n)
  | .var c, e => e c
  | .fix g c l, e => fixp g n fun X => den l (upd e c X)
end

/-- What the sets for the letters are: those of n states. -/
def EnvOk (n : Nat) (e : Nat → Nat) : Prop := ∀ i, e i < 2 ^ n
theorem EnvOk.upd {n : Nat} {e : Nat → Nat} (h : EnvOk n e) (c : Nat) {X : Nat} (hX : X < 2 ^ n) : EnvOk n (upd e c X) := fun i => by
  simp only [Go.Proofs.Ytkbbijhknbcflab.upd]; split
  · exact hX
  · exact h i
theorem EnvOk.zero (n : Nat) : EnvOk n (fun _ => 0) := fun _ => Nat.two_pow_pos n

theorem iter_lt {n : Nat} {F : Nat → Nat} (h : ∀ X, X < 2 ^ n → F X < 2 ^ n) {s : Nat} (hs : s < 2 ^ n) : ∀ k, iter F s k < 2 ^ n
  | 0 => hs
  | k + 1 => h _ (iter_lt h hs k)
theorem den_lt {n : Nat} {nx mk : Nat → Nat} (F : Fm) : ∀ {e : Nat → Nat}, EnvOk n e → den n nx mk F e < 2 ^ n := by
  induction F with
  | mark k => intro e _; exact mkd_lt _ _ _
  | unm k => intro e _; exact sdf_lt _ (all_lt n)
  | tt => intro e _; exact all_lt n
  | ff => intro e _; exact Nat.two_pow_pos n
  | two a l r ih1 ih2 =>
    intro e he
    cases a
    · exact Nat.or_lt_two_pow (ih1 he) (ih2 he)
    · exact Nat.and_lt_two_pow _ (ih2 he)
  | ahead d l ih =>
    intro e he
    cases d
    · exact sdf_lt _ (all_lt n)
    · exact bef_lt _ _ _
  | var c => intro e he; exact he c
  | fix g c l ih => intro e he; exact iter_lt (fun X hX => ih (he.upd c hX)) (beg_lt g n) n
theorem den_mono {n : Nat} {nx mk : Nat → Nat} (F : Fm) : ∀ {e e' : Nat → Nat}, EnvOk n e → EnvOk n e' → (∀ i, Sub (e i) (e' i)) → Sub (den n nx mk F e) (den n nx mk F e') := by
  induction F with
  | mark k => intro e e' _ _ _; exact Sub.refl _
  | unm k => intro e e' _ _ _; exact Sub.refl _
  | tt => intro e e' _ _ _; exact Sub.refl _
  | ff => intro e e' _ _ _; exact Sub.refl _
  | two a l r ih1 ih2 =>
    intro e e' he he' h i hi
    have h1 := ih1 he he' h i
    have h2 := ih2 he he' h i
    cases a <;> simp only [den, Bool.false_eq_true, if_false, if_true, Nat.testBit_or, Nat.testBit_and, Bool.or_eq_true, Bool.and_eq_true] at hi ⊢
    · exact hi.imp h1 h2
    · exact ⟨h1 hi.1, h2 hi.2⟩
  | ahead d l ih =>
    intro e e' he he' h
    have h1 := ih he he' h
    cases d
    · intro i hi
      simp only [den, Bool.false_eq_true, if_false, bit_sdf, bit_all, Bool.and_eq_true] at hi ⊢
      refine ⟨hi.1, ?_⟩
      have := bef_sub (nx := nx) (X := sdf (2 ^ n - 1) (den n nx mk l e')) (Y := sdf (2 ^ n - 1) (den n nx mk l e)) (fun j hj => by
        simp only [bit_sdf, Bool.and_eq_true] at hj ⊢
        refine ⟨hj.1, ?_⟩
        cases hx : (den n nx mk l e).testBit j
        · rfl
        · rw [h1 j hx] at hj; exact hj.2) n i
      cases hx : (bef nx (sdf (2 ^ n - 1) (den n nx mk l e')) n).testBit i
      · rfl
      · rw [this hx] at hi; exact absurd hi.2 (by decide)
    · exact bef_sub h1 n
  | var c => intro e e' _ _ h; exact h c
  | fix g c l ih =>
    intro e e' he he' h
    have up : ∀ (e : Nat → Nat), EnvOk n e → Mono n fun X => den n nx mk l (upd e c X) := fun e he =>
      ⟨fun hX hY hXY => ih (he.upd c hX) (he.upd c hY) (fun i => by simp only [upd]; split; exact hXY; exact Sub.refl _), fun hX => den_lt l (he.upd c hX)⟩
    exact fixp_sub g (up e he) (up e' he') fun X hX => ih (he.upd c hX) (he'.upd c hX) (fun i => by simp only [upd]; split; exact Sub.refl _; exact h i)
theorem den_step {n : Nat} {nx mk : Nat → Nat} (l : Fm) (c : Nat) {e : Nat → Nat} (he : EnvOk n e) : Mono n fun X => den n nx mk l (upd e c X) :=
  ⟨fun hX hY hXY => den_mono l (he.upd c hX) (he.upd c hY) (fun i => by simp only [upd]; split; exact hXY; exact Sub.refl _), fun hX => den_lt l (he.upd c hX)⟩

/-- The sets for the letters that may be used are all that matters. -/
theorem den_congr {n : Nat} {nx mk : Nat → Nat} (F : Fm) : ∀ {m : Nat → Bool} {e e' : Nat → Nat}, wf m F → (∀ i, i < 3 → m i = true → e i = e' i) → den n nx mk F e = den n nx mk F e' := by
  induction F with
  | mark k => intros; rfl
  | unm k => intros; rfl
  | tt => intros; rfl
  | ff => intros; rfl
  | two a l r ih1 ih2 => intro m e e' hw h; simp only [den]; rw [ih1 hw.1 h, ih2 hw.2 h]
  | ahead d l ih => intro m e e' hw h; simp only [den]; rw [ih hw h]
  | var c => intro m e e' hw h; exact h c hw.1 hw.2
  | fix g c l ih =>
    intro m e e' hw h
    simp only [den, fixp]
    have : (fun X => den n nx mk l (upd e c X)) = fun X => den n nx mk l (upd e' c X) := by
      funext X
      refine ih hw.2 fun i hi hm => ?_
      simp only [upd]
      split
      · rfl
      · rename_i hne
        have : m i = true := by simpa [hne] using hm
        exact h i hi this
    rw [this]

/-- Where a formula without letters holds. -/
def holds (n : Nat) (nx mk : Nat → Nat) (F : Fm) : Nat := den n nx mk F fun _ => 0
theorem holds_lt {n : Nat} {nx mk : Nat → Nat} (F : Fm) : holds n nx mk F < 2 ^ n := den_lt F (EnvOk.zero n)
theorem den_holds {n : Nat} {nx mk : Nat → Nat} {F : Fm} (h : wf (fun _ => false) F) (e : Nat → Nat) : den n nx mk F e = holds n nx mk F := den_congr F h fun _ _ h => by cases h
end Go.Proofs.Ytkbbijhknbcflab
