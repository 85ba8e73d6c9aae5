/-
  A text from a place on; masks of letters; the depth of a formula.
-/
import Derived.Test.YtkbbijhknbcflabMath5
namespace Go.Proofs.Ytkbbijhknbcflab

/-- The letters of a mask. -/
def bm (y : Nat) : Nat → Bool := fun c => y.testBit c
theorem bm_zero : bm 0 = fun _ => false := by funext c; simp [bm]
theorem bm_or {y c : Nat} (i : Nat) : bm (y ||| 2 ^ c) i = (bm y i || i == c) := by
  simp only [bm, Nat.testBit_or, Nat.testBit_two_pow]
  congr 1
  rw [Bool.eq_iff_iff]
  simp only [decide_eq_true_eq, beq_iff_eq]
  exact ⟨fun h => h.symm, fun h => h.symm⟩

/-- How deep it is. -/
def dep : Fm → Nat
  | .mark _ => 0
  | .unm _ => 0
  | .tt => 0
  | .ff => 0
  | .two _ l r => max (dep l) (dep r)
  | .ahead _ l => dep l + 1
  | .var _ => 0
  | .fix _ _ l => dep l
theorem dep_lt (F : Fm) : dep F < (str F).length := by
  induction F with
  | two a l r ih1 ih2 => simp only [dep, str, List.length_cons, List.length_append]; omega
  | ahead d l ih => simp only [dep, str, List.length_cons]; omega
  | fix g c l ih => simp only [dep, str, List.length_cons]; omega
  | _ => simp [dep, str]

/-- A formula begins at a place of a text, and ends ahead of another one. -/
def At (m : Nat → Bool) (l : List UInt8) (a : Nat) (F : Fm) (z : Nat) : Prop := l.drop a = str F ++ l.drop z ∧ z = a + (str F).length ∧ wf m F
theorem At.begins {m : Nat → Bool} {l : List UInt8} {a z : Nat} {F : Fm} (h : At m l a F z) : Begins m (l.drop a) F (l.drop z) := ⟨h.1, h.2.2⟩
theorem At.of {m : Nat → Bool} {l : List UInt8} {a : Nat} {F : Fm} {r : List UInt8} (h : Begins m (l.drop a) F r) : At m l a F (a + (str F).length) := by
  refine ⟨?_, rfl, h.2⟩
  have e : l.drop (a + (str F).length) = r := by
    rw [← List.drop_drop, h.1]; simp
  rw [e]; exact h.1
theorem At.uniq {m m' : Nat → Bool} {l : List UInt8} {a z z' : Nat} {F G : Fm} (h : At m l a F z) (h' : At m' l a G z') : F = G ∧ z = z' := by
  obtain ⟨e, _⟩ := h.begins.uniq h'.begins
  subst e
  exact ⟨rfl, h.2.1.trans h'.2.1.symm⟩
theorem At.le {m : Nat → Bool} {l : List UInt8} {a z : Nat} {F : Fm} (h : At m l a F z) : a < z ∧ z ≤ l.length := by
  have h1 := str_pos F
  have h2 := h.2.1
  have h3 := congrArg List.length h.1
  simp only [List.length_drop, List.length_append] at h3
  refine ⟨by omega, ?_⟩
  omega
theorem drop_cons {l : List UInt8} {a : Nat} (h : a < l.length) : l.drop a = l[a] :: l.drop (a + 1) := by
  rw [List.drop_eq_getElem_cons h]
theorem drop_at {l : List UInt8} {a : Nat} {x : UInt8} (h : a < l.length) (hx : l[a] = x) : l.drop a = x :: l.drop (a + 1) := by
  rw [drop_cons h, hx]
theorem at_val {m : Nat → Bool} {l : List UInt8} {a : Nat} {x : UInt8} {F : Fm} (h : a < l.length) (hx : l[a] = x) (hs : str F = [x]) (hw : wf m F) : At m l a F (a + 1) := by
  have := At.of (m := m) (l := l) (a := a) (F := F) (r := l.drop (a + 1)) ⟨by rw [drop_at h hx, hs]; rfl, hw⟩
  rw [hs] at this; exact this
theorem at_unm {m : Nat → Bool} {l : List UInt8} {a k : Nat} (h : a + 1 < l.length) (hx : l[a] = 45) (hk : k < 4) (hx1 : l[a + 1] = dig k) : At m l a (.unm k) (a + 2) :=
  At.of (m := m) (l := l) (a := a) (F := .unm k) (r := l.drop (a + 2)) ⟨by rw [drop_at (by omega) hx, drop_at h hx1]; rfl, hk⟩
theorem at_unm_inv {m : Nat → Bool} {l : List UInt8} {a z : Nat} {F : Fm} (h : a < l.length) (hx : l[a] = 45) (hA : At m l a F z) : ∃ k, k < 4 ∧ ∃ h1 : a + 1 < l.length, l[a + 1] = dig k := by
  have hB := hA.begins
  rw [drop_at h hx] at hB
  obtain ⟨k, _, hk, e⟩ := begins_unm hB
  have h1 : a + 1 < l.length := by
    have := congrArg List.length e
    simp at this; omega
  rw [drop_cons h1] at e
  exact ⟨k, hk, h1, (List.cons.inj e).1⟩
theorem at_two {m : Nat → Bool} {l : List UInt8} {a z1 z2 : Nat} {t : Bool} {F G : Fm} (h : a < l.length) (hx : l[a] = if t then 38 else 124) (h1 : At m l (a + 1) F z1) (h2 : At m l z1 G z2) : At m l a (.two t F G) z2 := by
  refine ⟨?_, ?_, h1.2.2, h2.2.2⟩
  · rw [drop_at h hx, h1.1, h2.1]; simp [str]
  · have := h1.2.1; have := h2.2.1; simp only [str, List.length_cons, List.length_append]; omega
theorem at_two_inv {m : Nat → Bool} {l : List UInt8} {a z : Nat} {H : Fm} (h : a < l.length) (hx : kind l[a] = 5) (hA : At m l a H z) : ∃ F G z1 z2, At m l (a + 1) F z1 ∧ At m l z1 G z2 := by
  have hB := hA.begins
  rw [drop_cons h] at hB
  obtain ⟨t, F, G, _, s, h1, h2⟩ := begins_two hx hB
  have a1 := At.of h1
  have es : l.drop (a + 1 + (str F).length) = s := by rw [← List.drop_drop, h1.1]; simp
  rw [← es] at h2
  exact ⟨F, G, _, _, a1, At.of h2⟩
theorem at_ahead {m : Nat → Bool} {l : List UInt8} {a z : Nat} {t : Bool} {F : Fm} (h : a < l.length) (hx : l[a] = if t then 60 else 91) (h1 : At m l (a + 1) F z) : At m l a (.ahead t F) z := by
  refine ⟨?_, ?_, h1.2.2⟩
  · rw [drop_at h hx, h1.1]; simp [str]
  · have := h1.2.1; simp only [str, List.length_cons]; omega
theorem at_ahead_inv {m : Nat → Bool} {l : List UInt8} {a z : Nat} {H : Fm} (h : a < l.length) (hx : kind l[a] = 6) (hA : At m l a H z) : ∃ F z1, At m l (a + 1) F z1 := by
  have hB := hA.begins
  rw [drop_cons h] at hB
  obtain ⟨t, F, _, h1⟩ := begins_ahead hx hB
  exact ⟨F, _, At.of h1⟩
theorem at_fix {m : Nat → Bool} {l : List UInt8} {a z c : Nat} {t : Bool} {F : Fm} (h : a + 1 < l.length) (hx : l[a] = if t then 103 else 109) (hc : c < 3) (hx1 : l[a + 1] = lett c) (hm : m c = false) (h1 : At (fun i => m i || i == c) l (a + 2) F z) : At m l a (.fix t c F) z := by
  refine ⟨?_, ?_, ⟨hc, hm⟩, h1.2.2⟩
  · rw [drop_at (by omega) hx, drop_at h hx1, h1.1]; simp [str]
  · have := h1.2.1; simp only [str, List.length_cons]; omega
theorem at_fix_inv {m : Nat → Bool} {l : List UInt8} {a z : Nat} {H : Fm} (h : a < l.length) (hx : kind l[a] = 8) (hA : At m l a H z) : ∃ c, c < 3 ∧ m c = false ∧ ∃ h1 : a + 1 < l.length, l[a + 1] = lett c ∧ ∃ F z1, At (fun i => m i || i == c) l (a + 2) F z1 := by
  have hB := hA.begins
  rw [drop_cons h] at hB
  obtain ⟨g, c, F, _, t', e, hc, hm, h1⟩ := begins_fix hx hB
  have hl : a + 1 < l.length := by
    have := congrArg List.length e
    simp at this; omega
  rw [drop_cons hl] at e
  obtain ⟨e1, e2⟩ := List.cons.inj e
  subst e2
  exact ⟨c, hc, hm, hl, e1, F, _, At.of h1⟩
theorem at_var_inv {m : Nat → Bool} {l : List UInt8} {a z c : Nat} {F : Fm} (h : a < l.length) (hc : c < 3) (hx : l[a] = lett c) (hA : At m l a F z) : m c = true := by
  have hB := hA.begins
  rw [drop_at h hx] at hB
  exact (begins_var hc hB).2.1
theorem at_none {m : Nat → Bool} {l : List UInt8} {a z : Nat} {F : Fm} (h : a < l.length) (hx : kind l[a] = 0) : ¬ At m l a F z := by
  intro hA
  have hB := hA.begins
  rw [drop_cons h] at hB
  exact begins_none hx hB
theorem at_end {m : Nat → Bool} {l : List UInt8} {a z : Nat} {F : Fm} (h : l.length ≤ a) : ¬ At m l a F z := by
  intro hA
  have hB := hA.begins
  rw [List.drop_eq_nil_of_le h] at hB
  exact begins_nil hB
theorem At.congr {m m' : Nat → Bool} {l : List UInt8} {a z : Nat} {F : Fm} (h : At m l a F z) (e : ∀ i, i < 3 → m i = m' i) : At m' l a F z := ⟨h.1, h.2.1, wf_congr F e h.2.2⟩
/-- The last place: the text is a formula. -/
theorem isF_iff {m : Nat → Bool} {l : List UInt8} {F : Fm} : isF m l F ↔ At m l 0 F l.length := by
  constructor
  · intro h
    refine ⟨by simp [h.1], by rw [h.1]; simp, h.2⟩
  · intro h
    refine ⟨by simpa using h.1, h.2.2⟩
end Go.Proofs.Ytkbbijhknbcflab
