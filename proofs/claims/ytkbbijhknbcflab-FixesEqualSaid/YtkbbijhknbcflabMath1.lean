/-
  Formulas: what they are written as, that no text can be read as two of them, and which letters they may have.
-/
namespace Go.Proofs.Ytkbbijhknbcflab

/-- A formula. -/
inductive Fm where
  | mark (k : Nat)
  | unm (k : Nat)
  | tt
  | ff
  | two (a : Bool) (l r : Fm)
  | ahead (d : Bool) (l : Fm)
  | var (c : Nat)
  | fix (g : Bool) (c : Nat) (l : Fm)

/-- The byte of a digit, and of a letter. -/
def dig (k : Nat) : UInt8 := UInt8.ofNat (48 + k)
def lett (c : Nat) : UInt8 := UInt8.ofNat (120 + c)

/-- How it is written. -/
def str : Fm → List UInt8
  | .mark k => [dig k]
  | .unm k => [45, dig k]
  | .tt => [116]
  | .ff => [102]
  | .two a l r => (if a then 38 else 124) :: (str l ++ str r)
  | .ahead d l => (if d then 60 else 91) :: str l
  | .var c => [lett c]
  | .fix g c l => (if g then 103 else 109) :: lett c :: str l

/-- Is it one where just the letters of a set may be used? -/
def wf (m : Nat → Bool) : Fm → Prop
  | .mark k => k < 4
  | .unm k => k < 4
  | .tt => True
  | .ff => True
  | .two _ l r => wf m l ∧ wf m r
  | .ahead _ l => wf m l
  | .var c => c < 3 ∧ m c = true
  | .fix _ c l => (c < 3 ∧ m c = false) ∧ wf (fun i => m i || i == c) l

theorem cases4 {k : Nat} (h : k < 4) : k = 0 ∨ k = 1 ∨ k = 2 ∨ k = 3 := by omega
theorem cases3 {k : Nat} (h : k < 3) : k = 0 ∨ k = 1 ∨ k = 2 := by omega
theorem dig_inj {j k : Nat} (hj : j < 4) (hk : k < 4) (h : dig j = dig k) : j = k := by
  rcases cases4 hj with rfl | rfl | rfl | rfl <;> rcases cases4 hk with rfl | rfl | rfl | rfl <;> first | rfl | exact absurd h (by decide)
theorem lett_inj {j k : Nat} (hj : j < 3) (hk : k < 3) (h : lett j = lett k) : j = k := by
  rcases cases3 hj with rfl | rfl | rfl <;> rcases cases3 hk with rfl | rfl | rfl <;> first | rfl | exact absurd h (by decide)

/-- The kind of a first byte. -/
def kind (b : UInt8) : Nat :=
  if b = 48 ∨ b = 49 ∨ b = 50 ∨ b = 51 then 1 else if b = 45 then 2 else if b = 116 then 3 else if b = 102 then 4 else if b = 38 ∨ b = 124 then 5
  else if b = 60 ∨ b = 91 then 6 else if b = 120 ∨ b = 121 ∨ b = 122 then 7 else if b = 103 ∨ b = 109 then 8 else 0
theorem kind_dig {k : Nat} (h : k < 4) : kind (dig k) = 1 := by rcases cases4 h with rfl | rfl | rfl | rfl <;> decide
theorem kind_lett {k : Nat} (h : k < 3) : kind (lett k) = 7 := by rcases cases3 h with rfl | rfl | rfl <;> decide

theorem str_ne (F : Fm) : str F ≠ [] := by cases F <;> simp [str]
theorem str_pos (F : Fm) : 1 ≤ (str F).length := by cases F <;> simp [str]

/-- The kind of a formula. -/
def kd : Fm → Nat
  | .mark _ => 1
  | .unm _ => 2
  | .tt => 3
  | .ff => 4
  | .two _ _ _ => 5
  | .ahead _ _ => 6
  | .var _ => 7
  | .fix _ _ _ => 8
theorem kind_str {m : Nat → Bool} {F : Fm} (h : wf m F) (r : List UInt8) : ∃ b t, str F ++ r = b :: t ∧ kind b = kd F := by
  cases F with
  | mark k => exact ⟨_, _, rfl, kind_dig h⟩
  | unm k => exact ⟨_, _, rfl, rfl⟩
  | tt => exact ⟨_, _, rfl, rfl⟩
  | ff => exact ⟨_, _, rfl, rfl⟩
  | two a l r => exact ⟨_, _, rfl, by cases a <;> rfl⟩
  | ahead d l => exact ⟨_, _, rfl, by cases d <;> rfl⟩
  | var c => exact ⟨_, _, rfl, kind_lett h.1⟩
  | fix g c l => exact ⟨_, _, rfl, by cases g <;> rfl⟩
theorem same_kind {F G : Fm} {m m' : Nat → Bool} {r s : List UInt8} (hF : wf m F) (hG : wf m' G) (h : str F ++ r = str G ++ s) : kd F = kd G := by
  obtain ⟨b, t, e, k⟩ := kind_str hF r
  obtain ⟨b', t', e', k'⟩ := kind_str hG s
  rw [e, e'] at h
  rw [← k, ← k', (List.cons.inj h).1]

/-- No text begins with two formulas. -/
theorem str_uniq : ∀ (F G : Fm) (m m' : Nat → Bool) (r s : List UInt8), wf m F → wf m' G → str F ++ r = str G ++ s → F = G ∧ r = s := by
  intro F
  induction F with
  | mark k =>
    intro G m m' r s hF hG h
    have hk := same_kind hF hG h
    cases G <;> first | (simp [kd] at hk; done) | skip
    simp only [str, List.cons_append, List.nil_append, List.cons.injEq, wf] at h hF hG
    exact ⟨by rw [dig_inj hF hG h.1], h.2⟩
  | unm k =>
    intro G m m' r s hF hG h
    have hk := same_kind hF hG h
    cases G <;> first | (simp [kd] at hk; done) | skip
    simp only [str, List.cons_append, List.nil_append, List.cons.injEq, wf] at h hF hG
    exact ⟨by rw [dig_inj hF hG h.2.1], h.2.2⟩
  | tt =>
    intro G m m' r s hF hG h
    have hk := same_kind hF hG h
    cases G <;> first | (simp [kd] at hk; done) | skip
    exact ⟨rfl, (List.cons.inj h).2⟩
  | ff =>
    intro G m m' r s hF hG h
    have hk := same_kind hF hG h
    cases G <;> first | (simp [kd] at hk; done) | skip
    exact ⟨rfl, (List.cons.inj h).2⟩
  | var c =>
    intro G m m' r s hF hG h
    have hk := same_kind hF hG h
    cases G <;> first | (simp [kd] at hk; done) | skip
    simp only [str, List.cons_append, List.nil_append, List.cons.injEq, wf] at h hF hG
    exact ⟨by rw [lett_inj hF.1 hG.1 h.1], h.2⟩
  | two a l1 l2 ih1 ih2 =>
    intro G m m' r s hF hG h
    have hk := same_kind hF hG h
    cases G <;> first | (simp [kd] at hk; done) | skip
    rename_i b g1 g2
    simp only [str, List.cons_append, List.cons.injEq, wf] at h hF hG
    obtain ⟨h0, h1⟩ := h
    have ha : a = b := by cases a <;> cases b <;> first | rfl | exact absurd h0 (by decide)
    rw [List.append_assoc, List.append_assoc] at h1
    obtain ⟨rfl, h2⟩ := ih1 g1 m m' _ _ hF.1 hG.1 h1
    obtain ⟨rfl, h3⟩ := ih2 g2 m m' _ _ hF.2 hG.2 h2
    subst ha
    exact ⟨rfl, h3⟩
  | ahead d l ih =>
    intro G m m' r s hF hG h
    have hk := same_kind hF hG h
    cases G <;> first | (simp [kd] at hk; done) | skip
    rename_i b g
    simp only [str, List.cons_append, List.cons.injEq, wf] at h hF hG
    obtain ⟨h0, h1⟩ := h
    have ha : d = b := by cases d <;> cases b <;> first | rfl | exact absurd h0 (by decide)
    obtain ⟨rfl, h2⟩ := ih g m m' _ _ hF hG h1
    subst ha
    exact ⟨rfl, h2⟩
  | fix g c l ih =>
    intro G m m' r s hF hG h
    have hk := same_kind hF hG h
    cases G <;> first | (simp [kd] at hk; done) | skip
    rename_i b e f
    simp only [str, List.cons_append, List.cons.injEq, wf] at h hF hG
    obtain ⟨h0, h1, h2⟩ := h
    have ha : g = b := by cases g <;> cases b <;> first | rfl | exact absurd h0 (by decide)
    obtain rfl := lett_inj hF.1.1 hG.1.1 h1
    obtain ⟨rfl, h3⟩ := ih f _ _ _ _ hF.2 hG.2 h2
    subst ha
    exact ⟨rfl, h3⟩

/-- A text begins with a formula, and this is left. -/
def Begins (m : Nat → Bool) (l : List UInt8) (F : Fm) (r : List UInt8) : Prop := l = str F ++ r ∧ wf m F
theorem Begins.uniq {m m' : Nat → Bool} {l r s : List UInt8} {F G : Fm} (h : Begins m l F r) (h' : Begins m' l G s) : F = G ∧ r = s :=
  str_uniq F G m m' r s h.2 h'.2 (h.1.symm.trans h'.1)
/-- A text is a formula. -/
def isF (m : Nat → Bool) (l : List UInt8) (F : Fm) : Prop := l = str F ∧ wf m F
theorem isF.begins {m : Nat → Bool} {l : List UInt8} {F : Fm} (h : isF m l F) : Begins m l F [] := ⟨by simp [h.1], h.2⟩
theorem Begins.isF {m : Nat → Bool} {l : List UInt8} {F : Fm} (h : Begins m l F []) : isF m l F := ⟨by simpa using h.1, h.2⟩
theorem isF.uniq {m m' : Nat → Bool} {l : List UInt8} {F G : Fm} (h : Go.Proofs.Ytkbbijhknbcflab.isF m l F) (h' : Go.Proofs.Ytkbbijhknbcflab.isF m' l G) : F = G := (h.begins.uniq h'.begins).1

/-- Which letters may be used matters at those alone. -/
theorem wf_congr {m m' : Nat → Bool} (F : Fm) (h : ∀ i, i < 3 → m i = m' i) (hF : wf m F) : wf m' F := by
  induction F generalizing m m' with
  | mark k => exact hF
  | unm k => exact hF
  | tt => trivial
  | ff => trivial
  | two a l r ih1 ih2 => exact ⟨ih1 h hF.1, ih2 h hF.2⟩
  | ahead d l ih => exact ih h hF
  | var c => exact ⟨hF.1, by rw [← h c hF.1]; exact hF.2⟩
  | fix g c l ih => exact ⟨⟨hF.1.1, by rw [← h c hF.1.1]; exact hF.1.2⟩, ih (fun i hi => by simp [h i hi]) hF.2⟩
end Go.Proofs.Ytkbbijhknbcflab
