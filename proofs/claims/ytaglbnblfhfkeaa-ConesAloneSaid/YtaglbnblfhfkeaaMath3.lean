import Derived.Test.YtaglbnblfhfkeaaMath2
/-
  Plain mathematics: how many basic moves there are at most; the order of vectors; the opposite of a basic move; taking a move apart.
-/
namespace Go.Proofs.Ytaglbnblfhfkeaa
open Vec

theorem flatMap_len {α β : Type} {l : List α} {f : α → List β} {c : Nat} (h : ∀ v, (f v).length ≤ c) : (l.flatMap f).length ≤ l.length * c := by
  induction l with
  | nil => simp
  | cons v l ih =>
    rw [List.flatMap_cons, List.length_append, List.length_cons, Nat.add_mul]
    have := h v
    omega

/-- The numbers from -29 to 29. -/
def L59 : List Int := (List.range 59).map fun i : Nat => (i : Int) - 29
theorem mem_L59 {x : Int} (h : -29 ≤ x ∧ x ≤ 29) : x ∈ L59 :=
  List.mem_map.2 ⟨(x + 29).toNat, List.mem_range.2 (by omega), by omega⟩
theorem L59_len : L59.length = 59 := by simp [L59]
def box : List Vec := L59.flatMap fun a => L59.flatMap fun b => L59.flatMap fun c => L59.map fun d => ⟨a, b, c, d⟩
theorem box_len : box.length ≤ 12117361 := by
  have h3 : ∀ a b c : Int, (L59.map fun d => (⟨a, b, c, d⟩ : Vec)).length ≤ 59 := fun a b c => by simp [L59_len]
  have h2 : ∀ a b : Int, (L59.flatMap fun c => L59.map fun d => (⟨a, b, c, d⟩ : Vec)).length ≤ 3481 := fun a b => by
    have := flatMap_len (l := L59) (h3 a b); rw [L59_len] at this; omega
  have h1 : ∀ a : Int, (L59.flatMap fun b => L59.flatMap fun c => L59.map fun d => (⟨a, b, c, d⟩ : Vec)).length ≤ 205379 := fun a => by
    have := flatMap_len (l := L59) (h2 a); rw [L59_len] at this; omega
  have := flatMap_len (l := L59) h1
  rw [L59_len] at this
  exact this
theorem mem_box {v : Vec} (h : norm v ≤ 29) : v ∈ box := by
  simp only [norm] at h
  refine List.mem_flatMap.2 ⟨v.a, mem_L59 (by omega), List.mem_flatMap.2 ⟨v.b, mem_L59 (by omega), List.mem_flatMap.2 ⟨v.c, mem_L59 (by omega), List.mem_map.2 ⟨v.d, mem_L59 (by omega), rfl⟩⟩⟩⟩
theorem few {l : List Vec} (h : l.Nodup) (hn : ∀ v ∈ l, norm v ≤ 29) : l.length ≤ 12117361 :=
  Nat.le_trans (nodup_len h fun v hv => mem_box (hn v hv)) box_len

/-- Is it a move? -/
def isMoveB (m : Mx) (v : Vec) : Bool := decide (dot m.r0 v = 0 ∧ dot m.r1 v = 0)
theorem isMoveB_iff {m : Mx} {v : Vec} : isMoveB m v = true ↔ isMove m v := by simp [isMoveB, isMove]

/-- One vector before another one. -/
def ltV (u v : Vec) : Prop := u.a < v.a ∨ u.a = v.a ∧ (u.b < v.b ∨ u.b = v.b ∧ (u.c < v.c ∨ u.c = v.c ∧ u.d < v.d))
instance (u v : Vec) : Decidable (ltV u v) := by unfold ltV; exact inferInstance
/-- What comparing gives. -/
def cmpV (u v : Vec) : Int :=
  if u.a < v.a then -1 else if v.a < u.a then 1 else if u.b < v.b then -1 else if v.b < u.b then 1 else if u.c < v.c then -1 else if v.c < u.c then 1 else if u.d < v.d then -1 else if v.d < u.d then 1 else 0
theorem cmpV_lt {u v : Vec} : cmpV u v < 0 ↔ ltV u v := by
  unfold cmpV ltV
  constructor
  · intro h
    repeat' split at h
    all_goals first | omega | (exact absurd h (by decide))
  · intro h
    repeat' split
    all_goals omega
theorem ltV_irrefl (u : Vec) : ¬ ltV u u := by unfold ltV; omega
theorem ltV_trans {u v x : Vec} (h : ltV u v) (k : ltV v x) : ltV u x := by unfold ltV at *; omega
theorem ltV_total {u v : Vec} (h : ¬ ltV u v) (k : ¬ ltV v u) : u = v := by
  rw [ext_iff']; unfold ltV at *; omega

/-! ### Opposites -/
def neg (v : Vec) : Vec := ⟨-v.a, -v.b, -v.c, -v.d⟩
theorem neg_neg' (v : Vec) : neg (neg v) = v := by simp [neg]
theorem neg_zero' : neg zero = zero := rfl
theorem neg_cols {n : Nat} {v : Vec} (h : inCols n v) : inCols n (neg v) := by simp only [inCols, neg] at *; omega
theorem dot_neg (r v : Vec) : dot r (neg v) = - dot r v := by simp only [dot, neg, Int.mul_neg]; omega
theorem neg_move {m : Mx} {v : Vec} (h : isMove m v) : isMove m (neg v) := by
  refine ⟨?_, ?_⟩
  · rw [dot_neg, h.1]; rfl
  · rw [dot_neg, h.2]; rfl
theorem neg_fits {x y : Vec} (h : fits x y) : fits (neg x) (neg y) := by simp only [fits, fit1, neg] at *; omega
theorem neg_ne {v : Vec} (h : v ≠ zero) : neg v ≠ zero := fun e => h (by rw [← neg_neg' v, e]; rfl)
theorem neg_basic {m : Mx} {v : Vec} (h : Basic m v) : Basic m (neg v) := by
  refine ⟨neg_cols h.cols, neg_move h.move, neg_ne h.ne, fun y hc hm hn hf => ?_⟩
  have := h.least (neg y) (neg_cols hc) (neg_move hm) (neg_ne hn) (by have := neg_fits hf; rwa [neg_neg'] at this)
  rw [← this, neg_neg']

/-! ### Sums -/
def add (x y : Vec) : Vec := ⟨x.a + y.a, x.b + y.b, x.c + y.c, x.d + y.d⟩
def sumV : List Vec → Vec
  | [] => zero
  | v :: l => add v (sumV l)
theorem ext4 {x y : Vec} (h0 : x.a = y.a) (h1 : x.b = y.b) (h2 : x.c = y.c) (h3 : x.d = y.d) : x = y := ext_iff'.2 ⟨h0, h1, h2, h3⟩
theorem sumV_append (l k : List Vec) : sumV (l ++ k) = add (sumV l) (sumV k) := by
  induction l with
  | nil => apply ext4 <;> simp [sumV, add, zero]
  | cons v l ih => rw [List.cons_append, sumV, ih, sumV]; apply ext4 <;> simp only [add] <;> omega
theorem sub_isMove {m : Mx} {x y : Vec} (h : isMove m x) (k : isMove m y) : isMove m (sub x y) := ⟨by rw [dot_sub, h.1, k.1]; rfl, by rw [dot_sub, h.2, k.2]; rfl⟩
theorem sub_self' (x : Vec) : sub x x = zero := by apply ext4 <;> simp [sub, zero]

/-- Taking moves out of x: l was taken, r is left; the first k of the moves were tried. -/
structure Taken (m : Mx) (moves : List Vec) (x : Vec) (k : Nat) (l : List Vec) (r : Vec) : Prop where
  cols : inCols m.n r
  move : isMove m r
  fit : fits r x
  sum : add (sumV l) r = x
  mem : ∀ y ∈ l, y ∈ moves ∧ fits y x
  len : l.length + norm r ≤ norm x
  tried : ∀ j y, j < k → moves[j]? = some y → ¬ fits y r

theorem Taken.start {m : Mx} {moves : List Vec} {x : Vec} (hc : inCols m.n x) (hm : isMove m x) : Taken m moves x 0 [] x :=
  ⟨hc, hm, fits_refl x, by apply ext4 <;> simp [sumV, add, zero], fun _ h => (by cases h), by simp, fun j _ h => absurd h (Nat.not_lt_zero _)⟩
theorem norm_pos {v : Vec} (h : v ≠ zero) : 1 ≤ norm v := Nat.one_le_iff_ne_zero.2 fun e => h (norm_zero e)
theorem Taken.take {m : Mx} {moves : List Vec} {x r y : Vec} {k : Nat} {l : List Vec} (h : Taken m moves x k l r) (hy : y ∈ moves) (hb : Basic m y) (hf : fits y r) : Taken m moves x k (l ++ [y]) (sub r y) := by
  have hsr := fits_sub hf
  have hn := norm_sub hf
  have hp := norm_pos hb.ne
  refine ⟨inCols_sub h.cols hb.cols, sub_isMove h.move hb.move, fits_trans hsr h.fit, ?_, fun z hz => ?_, ?_, fun j z hj hz hzf => h.tried j z hj hz (fits_trans hzf hsr)⟩
  · rw [← h.sum, sumV_append]; apply ext4 <;> simp only [add, sub, sumV, zero] <;> omega
  · rcases List.mem_append.1 hz with hz | hz
    · exact h.mem z hz
    · simp at hz; subst hz; exact ⟨hy, fits_trans hf h.fit⟩
  · have := h.len
    simp only [List.length_append, List.length_cons, List.length_nil]; omega
theorem Taken.next {m : Mx} {moves : List Vec} {x r y : Vec} {k : Nat} {l : List Vec} (h : Taken m moves x k l r) (hy : moves[k]? = some y) (hf : ¬ fits y r) : Taken m moves x (k + 1) l r := by
  refine ⟨h.cols, h.move, h.fit, h.sum, h.mem, h.len, fun j z hj hz => ?_⟩
  by_cases e : j = k
  · subst e; rw [hy] at hz; cases hz; exact hf
  · exact h.tried j z (by omega) hz
theorem Taken.done {m : Mx} {moves : List Vec} {x r : Vec} {l : List Vec} (h : Taken m moves x moves.length l r) (hall : ∀ y, Basic m y → y ∈ moves) : r = zero := by
  refine Classical.byContradiction fun hr => ?_
  obtain ⟨y, hy, hf⟩ := basic_below m _ r (Nat.le_refl _) h.cols h.move hr
  obtain ⟨j, hj⟩ := List.getElem?_of_mem (hall y hy)
  exact h.tried j y (List.getElem?_eq_some_iff.1 hj).1 hj hf

end Go.Proofs.Ytaglbnblfhfkeaa
