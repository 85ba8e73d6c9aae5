/-
  Reaching a set, and staying in it; formulas of the other states.
-/
import Derived.Test.YtkbbijhknbcflabMath3
namespace Go.Proofs.Ytkbbijhknbcflab

theorem and_sub {a X Y : Nat} (h : Sub X Y) (hx : a &&& X ≠ 0) : a &&& Y ≠ 0 := by
  obtain ⟨j, h1, h2⟩ := and_ne.1 hx
  exact and_ne.2 ⟨j, h1, h j h2⟩
/-- One round of reaching: the states of the first k. -/
def rea (nx : Nat → Nat) (X : Nat) : Nat → Nat
  | 0 => X
  | k + 1 => if nx k &&& rea nx X k = 0 then rea nx X k else rea nx X k ||| 2 ^ k
theorem rea_lt {nx : Nat → Nat} {X n : Nat} (h : X < 2 ^ n) : ∀ k, k ≤ n → rea nx X k < 2 ^ n
  | 0, _ => h
  | k + 1, hk => by
    simp only [rea]
    have := rea_lt (nx := nx) h k (by omega)
    split
    · exact this
    · exact Nat.or_lt_two_pow this (Nat.pow_lt_pow_right (by decide) (by omega))
theorem rea_up (nx : Nat → Nat) (X : Nat) : ∀ k, Sub X (rea nx X k)
  | 0 => Sub.refl _
  | k + 1 => by
    simp only [rea]
    split
    · exact rea_up nx X k
    · exact fun i hi => by rw [Nat.testBit_or, rea_up nx X k i hi]; rfl
theorem rea_step (nx : Nat → Nat) (X : Nat) {k m : Nat} (h : k ≤ m) : Sub (rea nx X k) (rea nx X m) := by
  induction m with
  | zero => obtain rfl : k = 0 := by omega
            exact Sub.refl _
  | succ m ih =>
    by_cases e : k = m + 1
    · subst e; exact Sub.refl _
    · refine (ih (by omega)).trans ?_
      simp only [rea]
      split
      · exact Sub.refl _
      · exact fun i hi => by rw [Nat.testBit_or, hi]; rfl
theorem rea_get {nx : Nat → Nat} {X n i : Nat} (hi : i < n) (h : nx i &&& X ≠ 0) : (rea nx X n).testBit i = true := by
  refine rea_step nx X (k := i + 1) (by omega) i ?_
  simp only [rea]
  rw [if_neg (and_sub (rea_up nx X i) h), Nat.testBit_or, bit_pow]
  simp
theorem rea_in {nx : Nat → Nat} {X n : Nat} {L : Nat} (hL : ∀ i, i < n → nx i &&& L ≠ 0 → L.testBit i = true) (hX : Sub X L) : ∀ k, k ≤ n → Sub (rea nx X k) L
  | 0, _ => hX
  | k + 1, hk => by
    have ih := rea_in hL hX k (by omega)
    simp only [rea]
    split
    · exact ih
    · rename_i hne
      intro i hi
      rw [Nat.testBit_or, bit_pow] at hi
      by_cases e : k = i
      · subst e; exact hL k (by omega) (and_sub ih hne)
      · simp [e] at hi; exact ih i hi
/-- The change whose least set is what reaches a set. -/
def reF (n : Nat) (nx : Nat → Nat) (s X : Nat) : Nat := s ||| bef nx X n
theorem reF_mono {n : Nat} {nx : Nat → Nat} {s : Nat} (hs : s < 2 ^ n) : Mono n (reF n nx s) :=
  ⟨fun _ _ h i hi => by
    simp only [reF, Nat.testBit_or, Bool.or_eq_true] at hi ⊢
    exact hi.imp id (bef_sub h n i), fun _ => Nat.or_lt_two_pow hs (bef_lt _ _ _)⟩
theorem reach_is {n : Nat} {nx : Nat → Nat} {s : Nat} (hs : s < 2 ^ n) : iter (fun X => rea nx X n) s n = fixp false n (reF n nx s) := by
  have hm := reF_mono (nx := nx) hs
  have hfix := hm.fix false
  refine Sub.antisymm ?_ ?_
  · have hsL : Sub s (fixp false n (reF n nx s)) := by
      intro i hi; rw [← hfix, reF, Nat.testBit_or, hi]; rfl
    have hL : ∀ i, i < n → nx i &&& fixp false n (reF n nx s) ≠ 0 → (fixp false n (reF n nx s)).testBit i = true := by
      intro i hi h
      rw [← hfix, reF, Nat.testBit_or, bit_bef]
      simp [hi, h]
    have : ∀ k, Sub (iter (fun X => rea nx X n) s k) (fixp false n (reF n nx s)) := by
      intro k
      induction k with
      | zero => exact hsL
      | succ k ih => exact rea_in hL ih n (Nat.le_refl _)
    exact this n
  · have hsG : ∀ k, Sub s (iter (fun X => rea nx X n) s k) := by
      intro k
      induction k with
      | zero => exact Sub.refl _
      | succ k ih => exact ih.trans (rea_up nx _ n)
    have : ∀ k, Sub (iter (reF n nx s) 0 k) (iter (fun X => rea nx X n) s k) := by
      intro k
      induction k with
      | zero => exact Sub.zero _
      | succ k ih =>
        intro i hi
        simp only [iter, reF, Nat.testBit_or, Bool.or_eq_true] at hi
        rcases hi with hi | hi
        · exact hsG (k + 1) i hi
        · rw [bit_bef] at hi
          simp only [Bool.and_eq_true, decide_eq_true_eq] at hi
          exact rea_get hi.1 (and_sub ih hi.2)
    exact this n

/-- One round of staying: the states of the first k. -/
def sta (nx : Nat → Nat) (X : Nat) : Nat → Nat
  | 0 => X
  | k + 1 => if nx k &&& sta nx X k = 0 then sdf (sta nx X k) (2 ^ k) else sta nx X k
theorem sta_step (nx : Nat → Nat) (X : Nat) {k m : Nat} (h : k ≤ m) : Sub (sta nx X m) (sta nx X k) := by
  induction m with
  | zero => obtain rfl : k = 0 := by omega
            exact Sub.refl _
  | succ m ih =>
    by_cases e : k = m + 1
    · subst e; exact Sub.refl _
    · refine Sub.trans ?_ (ih (by omega))
      simp only [sta]
      split
      · exact fun i hi => by rw [bit_sdf] at hi; simp at hi; exact hi.1
      · exact Sub.refl _
theorem sta_down (nx : Nat → Nat) (X k : Nat) : Sub (sta nx X k) X := sta_step nx X (Nat.zero_le k)
theorem sta_lt {nx : Nat → Nat} {X n : Nat} (h : X < 2 ^ n) (k : Nat) : sta nx X k < 2 ^ n := (sta_down nx X k).lt h
theorem sta_get {nx : Nat → Nat} {X n i : Nat} (hi : i < n) (h : (sta nx X n).testBit i = true) : nx i &&& X ≠ 0 := by
  have h1 := sta_step nx X (k := i + 1) (m := n) (by omega) i h
  simp only [sta] at h1
  split at h1
  · rw [bit_sdf, bit_pow] at h1; simp at h1
  · rename_i hne
    exact and_sub (sta_down nx X i) hne
theorem sta_in {nx : Nat → Nat} {X n : Nat} {L : Nat} (hL : ∀ i, i < n → L.testBit i = true → nx i &&& L ≠ 0) (hX : Sub L X) : ∀ k, k ≤ n → Sub L (sta nx X k)
  | 0, _ => hX
  | k + 1, hk => by
    have ih := sta_in hL hX k (by omega)
    simp only [sta]
    split
    · rename_i he
      intro i hi
      rw [bit_sdf, bit_pow, ih i hi]
      by_cases e : k = i
      · subst e; exact absurd he (and_sub ih (hL k (by omega) hi))
      · simp [e]
    · exact ih
/-- The change whose greatest set is what stays in a set. -/
def stF (n : Nat) (nx : Nat → Nat) (s X : Nat) : Nat := s &&& bef nx X n
theorem stF_mono {n : Nat} {nx : Nat → Nat} {s : Nat} : Mono n (stF n nx s) :=
  ⟨fun _ _ h i hi => by
    simp only [stF, Nat.testBit_and, Bool.and_eq_true] at hi ⊢
    exact ⟨hi.1, bef_sub h n i hi.2⟩, fun _ => Nat.and_lt_two_pow _ (bef_lt _ _ _)⟩
theorem always_is {n : Nat} {nx : Nat → Nat} {s : Nat} (hs : s < 2 ^ n) : iter (fun X => sta nx X n) s n = fixp true n (stF n nx s) := by
  have hm := stF_mono (nx := nx) (s := s) (n := n)
  have hfix := hm.fix true
  refine Sub.antisymm ?_ ?_
  · have hsG : ∀ k, Sub (iter (fun X => sta nx X n) s k) s := by
      intro k
      induction k with
      | zero => exact Sub.refl _
      | succ k ih => exact (sta_down nx _ n).trans ih
    have : ∀ k, Sub (iter (fun X => sta nx X n) s k) (iter (stF n nx s) (2 ^ n - 1) k) := by
      intro k
      induction k with
      | zero => exact Sub.all hs
      | succ k ih =>
        intro i hi
        have hin : i < n := bit_in ((hsG (k + 1)).lt hs) hi
        simp only [iter, stF, Nat.testBit_and, Bool.and_eq_true]
        refine ⟨hsG (k + 1) i hi, ?_⟩
        rw [bit_bef]
        simp only [Bool.and_eq_true, decide_eq_true_eq]
        exact ⟨hin, and_sub ih (sta_get hin hi)⟩
    exact this n
  · have hsL : Sub (fixp true n (stF n nx s)) s := by
      intro i hi; rw [← hfix, stF, Nat.testBit_and] at hi; simp at hi; exact hi.1
    have hL : ∀ i, i < n → (fixp true n (stF n nx s)).testBit i = true → nx i &&& fixp true n (stF n nx s) ≠ 0 := by
      intro i _ h
      rw [← hfix, stF, Nat.testBit_and, bit_bef] at h
      simp at h; exact h.2.2
    have : ∀ k, Sub (fixp true n (stF n nx s)) (iter (fun X => sta nx X n) s k) := by
      intro k
      induction k with
      | zero => exact hsL
      | succ k ih => exact sta_in hL ih n (Nat.le_refl _)
    exact this n

/-- The formula of the other states. -/
def neg : Fm → Fm
  | .mark k => .unm k
  | .unm k => .mark k
  | .tt => .ff
  | .ff => .tt
  | .two a l r => .two (!a) (neg l) (neg r)
  | .ahead d l => .ahead (!d) (neg l)
  | .var c => .var c
  | .fix g c l => .fix (!g) c (neg l)
theorem neg_neg (F : Fm) : neg (neg F) = F := by
  induction F with
  | two a l r ih1 ih2 => simp [neg, ih1, ih2]
  | ahead d l ih => simp [neg, ih]
  | fix g c l ih => simp [neg, ih]
  | _ => rfl
theorem neg_wf {m : Nat → Bool} {F : Fm} (h : wf m F) : wf m (neg F) := by
  induction F generalizing m with
  | two a l r ih1 ih2 => exact ⟨ih1 h.1, ih2 h.2⟩
  | ahead d l ih => exact ih h
  | fix g c l ih => exact ⟨h.1, ih h.2⟩
  | _ => exact h
/-- All other states. -/
def com (n X : Nat) : Nat := sdf (2 ^ n - 1) X
theorem bit_com (n X i : Nat) : (com n X).testBit i = (decide (i < n) && !X.testBit i) := by rw [com, bit_sdf, bit_all]
theorem com_lt (n X : Nat) : com n X < 2 ^ n := sdf_lt _ (all_lt n)
theorem com_com {n X : Nat} (h : X < 2 ^ n) : com n (com n X) = X := by
  refine Nat.eq_of_testBit_eq fun i => ?_
  rw [bit_com, bit_com]
  by_cases hi : i < n
  · simp [hi]
  · rw [bit_out h (by omega)]; simp [hi]
theorem com_all (n : Nat) : com n (2 ^ n - 1) = 0 := by
  refine Nat.eq_of_testBit_eq fun i => ?_
  rw [bit_com, bit_all]; simp
theorem com_zero (n : Nat) : com n 0 = 2 ^ n - 1 := by
  refine Nat.eq_of_testBit_eq fun i => ?_
  rw [bit_com, bit_all]; simp
theorem com_and {n : Nat} (X Y : Nat) : com n (X &&& Y) = com n X ||| com n Y := by
  refine Nat.eq_of_testBit_eq fun i => ?_
  simp only [bit_com, Nat.testBit_and, Nat.testBit_or]
  cases decide (i < n) <;> cases X.testBit i <;> cases Y.testBit i <;> rfl
theorem com_or {n : Nat} (X Y : Nat) : com n (X ||| Y) = com n X &&& com n Y := by
  refine Nat.eq_of_testBit_eq fun i => ?_
  simp only [bit_com, Nat.testBit_and, Nat.testBit_or]
  cases decide (i < n) <;> cases X.testBit i <;> cases Y.testBit i <;> rfl
theorem com_and_self (n X : Nat) : com n X &&& X = 0 := by
  refine Nat.eq_of_testBit_eq fun i => ?_
  simp only [bit_com, Nat.testBit_and, Nat.zero_testBit]
  cases decide (i < n) <;> cases X.testBit i <;> rfl
theorem com_or_self {n X : Nat} (h : X < 2 ^ n) : com n X ||| X = 2 ^ n - 1 := by
  refine Nat.eq_of_testBit_eq fun i => ?_
  simp only [bit_com, Nat.testBit_or, bit_all]
  by_cases hi : i < n
  · simp [hi]
  · rw [bit_out h (by omega)]; simp [hi]
theorem iter_com {n : Nat} {F G : Nat → Nat} {s : Nat} (hF : ∀ X, X < 2 ^ n → F X < 2 ^ n) (hs : s < 2 ^ n) (h : ∀ X, X < 2 ^ n → G (com n X) = com n (F X)) : ∀ k, iter G (com n s) k = com n (iter F s k)
  | 0 => rfl
  | k + 1 => by rw [iter, iter_com hF hs h k, h _ (iter_lt hF hs k), iter]
theorem den_neg {n : Nat} {nx mk : Nat → Nat} (F : Fm) : ∀ {e : Nat → Nat}, EnvOk n e → den n nx mk (neg F) (fun i => com n (e i)) = com n (den n nx mk F e) := by
  induction F with
  | mark k => intros; rfl
  | unm k => intro e _; exact (com_com (mkd_lt mk k n)).symm
  | tt => intro e _; exact (com_all n).symm
  | ff => intro e _; exact (com_zero n).symm
  | two a l r ih1 ih2 =>
    intro e he
    simp only [neg, den]
    rw [ih1 he, ih2 he]
    cases a
    · simp [com_or]
    · simp [com_and]
  | ahead d l ih =>
    intro e he
    simp only [neg, den]
    rw [ih he]
    cases d
    · simp only [Bool.not_false, if_true, Bool.false_eq_true, if_false]
      exact (com_com (bef_lt nx _ n)).symm
    · simp only [Bool.not_true, Bool.false_eq_true, if_false, if_true]
      have := com_com (den_lt (nx := nx) (mk := mk) l he)
      unfold com at this ⊢
      rw [this]
  | var c => intros; rfl
  | fix g c l ih =>
    intro e he
    simp only [neg, den, fixp]
    have hs : beg (!g) n = com n (beg g n) := by cases g; exact (com_zero n).symm; exact (com_all n).symm
    rw [hs]
    refine iter_com (F := fun X => den n nx mk l (upd e c X)) (fun X hX => den_lt l (he.upd c hX)) (beg_lt g n) (fun X hX => ?_) n
    rw [← ih (he.upd c hX)]
    congr 1
    funext i
    simp only [upd]
    split <;> rfl
theorem holds_neg {n : Nat} {nx mk : Nat → Nat} {F : Fm} (h : wf (fun _ => false) F) : holds n nx mk (neg F) = com n (holds n nx mk F) := by
  have := den_neg (nx := nx) (mk := mk) F (EnvOk.zero n)
  rw [den_holds (neg_wf h)] at this
  exact this
end Go.Proofs.Ytkbbijhknbcflab
