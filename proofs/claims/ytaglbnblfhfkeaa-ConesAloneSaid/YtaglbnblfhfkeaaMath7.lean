import Derived.Test.YtaglbnblfhfkeaaMath4
/-
  Plain mathematics: where there is no pure move a family is finite, and basic moves lead to all of it.
-/
namespace Go.Proofs.Ytaglbnblfhfkeaa
open Vec

/-- No number is below 0. -/
def Whole0 (v : Vec) : Prop := 0 ≤ v.a ∧ 0 ≤ v.b ∧ 0 ≤ v.c ∧ 0 ≤ v.d

/-- y is in the family of x. -/
structure Fam (m : Mx) (x y : Vec) : Prop where
  cols : inCols m.n y
  whole : Whole0 y
  move : isMove m (sub y x)

/-- The numbers below 0, together. -/
def down1 (x : Int) : Int := if x < 0 then -x else 0
def down (v : Vec) : Int := down1 v.a + down1 v.b + down1 v.c + down1 v.d
theorem down1_nn (x : Int) : 0 ≤ down1 x := by unfold down1; split <;> omega
theorem down1_pos {x : Int} (h : x < 0) : 1 ≤ down1 x := by unfold down1; rw [if_pos h]; omega
theorem down1_add {s t x : Int} (h : side1 s x) (k : side1 t x) : down1 (s + t) = down1 s + down1 t := by
  simp only [side1, down1] at *
  repeat' split
  all_goals omega
theorem down1_le {x y : Int} (hx : 0 ≤ x) (hy : 0 ≤ y) : down1 (y - x) ≤ x.natAbs := by
  unfold down1; split <;> omega
theorem down_pos {v : Vec} (h : ¬ Whole0 v) : 1 ≤ down v := by
  have a := down1_nn v.a; have b := down1_nn v.b; have c := down1_nn v.c; have d := down1_nn v.d
  have h' : v.a < 0 ∨ v.b < 0 ∨ v.c < 0 ∨ v.d < 0 := by simp only [Whole0] at h; omega
  unfold down
  rcases h' with h | h | h | h
  all_goals
    have := down1_pos h
    omega
theorem down_add {u v x : Vec} (h : side u x) (k : side v x) : down (add u v) = down u + down v := by
  have a := down1_add h.1 k.1; have b := down1_add h.2.1 k.2.1; have c := down1_add h.2.2.1 k.2.2.1; have d := down1_add h.2.2.2 k.2.2.2
  simp only [down, add]; omega
theorem down_le {x y : Vec} (hx : Whole0 x) (hy : Whole0 y) : down (sub y x) ≤ norm x := by
  have a := down1_le hx.1 hy.1; have b := down1_le hx.2.1 hy.2.1; have c := down1_le hx.2.2.1 hy.2.2.1; have d := down1_le hx.2.2.2 hy.2.2.2
  simp only [down, sub, norm]; omega
theorem norm_add_le (u v : Vec) : norm (add u v) ≤ norm u + norm v := by
  have a := Int.natAbs_add_le u.a v.a; have b := Int.natAbs_add_le u.b v.b; have c := Int.natAbs_add_le u.c v.c; have d := Int.natAbs_add_le u.d v.d
  simp only [norm, add]; omega

theorem down_sum {x : Vec} : ∀ l : List Vec, (∀ y ∈ l, fits y x ∧ ¬ Whole0 y) → (l.length : Int) ≤ down (sumV l)
  | [], _ => by simp [sumV, down, down1, zero]
  | y :: l, h => by
    have h1 := down_sum l fun z hz => h z (List.mem_cons_of_mem _ hz)
    have h2 := h y List.mem_cons_self
    have h3 := down_pos h2.2
    rw [sumV, down_add (side_fits h2.1) (side_sum l fun z hz => (h z (List.mem_cons_of_mem _ hz)).1)]
    simp only [List.length_cons]; omega
theorem norm_sum {B : Nat} : ∀ l : List Vec, (∀ y ∈ l, norm y ≤ B) → norm (sumV l) ≤ l.length * B
  | [], _ => by simp [sumV, norm, zero]
  | y :: l, h => by
    have h1 := norm_sum l fun z hz => h z (List.mem_cons_of_mem _ hz)
    have h2 := h y List.mem_cons_self
    have h3 := norm_add_le y (sumV l)
    rw [sumV, List.length_cons, Nat.add_mul]; omega

/-- Every move is a sum of basic ones that fit. -/
theorem split_move {m : Mx} : ∀ k (y : Vec), norm y ≤ k → inCols m.n y → isMove m y → ∃ l : List Vec, (∀ b ∈ l, Basic m b ∧ fits b y) ∧ sumV l = y := by
  intro k
  induction k with
  | zero => intro y hk _ _; exact ⟨[], fun _ h => (by cases h), (norm_zero (by omega)).symm⟩
  | succ k ih =>
    intro y hk hc hm
    by_cases hz : y = zero
    · exact ⟨[], fun _ h => (by cases h), hz.symm⟩
    · obtain ⟨b, hb, hf⟩ := basic_below m _ y (Nat.le_refl _) hc hm hz
      have hn := norm_sub hf
      have hp := norm_pos hb.ne
      obtain ⟨l, h1, h2⟩ := ih (sub y b) (by omega) (inCols_sub hc hb.cols) (sub_isMove hm hb.move)
      refine ⟨b :: l, fun z hz => ?_, ?_⟩
      · rcases List.mem_cons.1 hz with rfl | hz
        · exact ⟨hb, hf⟩
        · exact ⟨(h1 z hz).1, fits_trans (h1 z hz).2 (fits_sub hf)⟩
      · rw [sumV, h2]; apply ext4 <;> simp only [add, sub] <;> omega

theorem Fam.split {m : Mx} {x y : Vec} (hxc : inCols m.n x) (h : Fam m x y) : ∃ l : List Vec, (∀ b ∈ l, Basic m b ∧ fits b (sub y x)) ∧ sumV l = sub y x :=
  split_move _ _ (Nat.le_refl _) (inCols_sub h.cols hxc) h.move

/-- A family has an end. -/
theorem Fam.bound {m : Mx} (hm : m.ok) {x y : Vec} (hxc : inCols m.n x) (hx : Whole0 x) (hp : ∀ b, Basic m b → ¬ Whole0 b) (h : Fam m x y) : norm y ≤ 30 * norm x := by
  obtain ⟨l, h1, h2⟩ := h.split hxc
  have d1 := down_sum l fun b hb => ⟨(h1 b hb).2, hp b (h1 b hb).1⟩
  have d2 := down_le hx h.whole
  have d3 := norm_sum (B := 29) l fun b hb => basic_norm hm (h1 b hb).1
  rw [h2] at d1 d3
  have d4 : y = add x (sub y x) := by apply ext4 <;> simp only [add, sub] <;> omega
  have d5 := norm_add_le x (sub y x)
  rw [← d4] at d5
  have d6 : l.length ≤ norm x := by omega
  have d7 : l.length * 29 ≤ norm x * 29 := Nat.mul_le_mul_right 29 d6
  omega

/-- Between x and y. -/
theorem fam_path {m : Mx} {x y : Vec} (hxc : inCols m.n x) (hx : Whole0 x) (S : Vec → Prop) (hS : S x) (hcl : ∀ v b, S v → Fam m x v → Basic m b → Whole0 (add v b) → S (add v b)) (h : Fam m x y) : S y := by
  obtain ⟨l, h1, h2⟩ := h.split hxc
  have key : ∀ k, k ≤ l.length → S (add x (sumV (l.take k))) ∧ Fam m x (add x (sumV (l.take k))) := by
    intro k
    induction k with
    | zero =>
      intro _
      have e : add x (sumV (l.take 0)) = x := by rw [List.take_zero]; apply ext4 <;> simp [add, sumV, zero]
      rw [e]
      refine ⟨hS, hxc, hx, ?_⟩
      rw [sub_self']; exact ⟨dot_zero _, dot_zero _⟩
    | succ k ih =>
      intro hk
      obtain ⟨g1, g2⟩ := ih (by omega)
      have hlt : k < l.length := by omega
      have hb := h1 _ (List.getElem_mem hlt)
      have hs := sum_take_succ (List.getElem?_eq_getElem hlt)
      have e : add x (sumV (l.take (k + 1))) = add (add x (sumV (l.take k))) l[k] := by rw [hs]; apply ext4 <;> simp only [add] <;> omega
      have hf := fits_take (fun z hz => (h1 z hz).2) h2 (k + 1)
      have hw : Whole0 (add x (sumV (l.take (k + 1)))) := by
        have hy := h.whole
        simp only [Whole0, fits, fit1, sub, add] at *; omega
      refine ⟨by rw [e]; exact hcl _ _ g1 g2 hb.1 (by rw [← e]; exact hw), ?_, hw, ?_⟩
      · rw [e]
        have c1 := g2.cols; have c2 := hb.1.cols
        simp only [inCols, add] at *; omega
      · rw [e]
        have m1 := g2.move; have m2 := hb.1.move
        have e2 : sub (add (add x (sumV (l.take k))) l[k]) x = sub (sub (add x (sumV (l.take k))) x) (neg l[k]) := by apply ext4 <;> simp only [add, sub, neg] <;> omega
        rw [e2]; exact sub_isMove m1 (neg_move m2)
  have := (key l.length (Nat.le_refl _)).1
  rw [List.take_length, h2] at this
  have e : add x (sub y x) = y := by apply ext4 <;> simp only [add, sub] <;> omega
  rwa [e] at this

theorem Fam.self {m : Mx} {x : Vec} (hxc : inCols m.n x) (hx : Whole0 x) : Fam m x x := ⟨hxc, hx, by rw [sub_self']; exact ⟨dot_zero _, dot_zero _⟩⟩
theorem Fam.add {m : Mx} {x v b : Vec} (h : Fam m x v) (hb : Basic m b) (hw : Whole0 (add v b)) : Fam m x (add v b) := by
  refine ⟨?_, hw, ?_⟩
  · have c1 := h.cols; have c2 := hb.cols
    simp only [inCols, Go.Proofs.Ytaglbnblfhfkeaa.add] at *; omega
  · have e2 : sub (Go.Proofs.Ytaglbnblfhfkeaa.add v b) x = sub (sub v x) (neg b) := by apply ext4 <;> simp only [Go.Proofs.Ytaglbnblfhfkeaa.add, sub, neg] <;> omega
    rw [e2]; exact sub_isMove h.move (neg_move hb.move)

/-! How many there are at most. -/
def upTo (B : Nat) : List Int := (List.range (B + 1)).map fun i : Nat => (i : Int)
theorem mem_upTo {B : Nat} {x : Int} (h0 : 0 ≤ x) (h : x ≤ B) : x ∈ upTo B := List.mem_map.2 ⟨x.toNat, List.mem_range.2 (by omega), by omega⟩
theorem upTo_len (B : Nat) : (upTo B).length = B + 1 := by simp [upTo]
def box720 : List Vec := (upTo 720).flatMap fun a => (upTo 720).flatMap fun b => (upTo 720).flatMap fun c => (upTo 720).map fun d => ⟨a, b, c, d⟩
theorem box720_len : box720.length ≤ 270234665281 := by
  have h3 : ∀ a b c : Int, ((upTo 720).map fun d => (⟨a, b, c, d⟩ : Vec)).length ≤ 721 := fun a b c => by rw [List.length_map, upTo_len]; omega
  have h2 : ∀ a b : Int, ((upTo 720).flatMap fun c => (upTo 720).map fun d => (⟨a, b, c, d⟩ : Vec)).length ≤ 519841 := fun a b => by
    have := flatMap_len (l := upTo 720) (h3 a b); rw [upTo_len] at this; omega
  have h1 : ∀ a : Int, ((upTo 720).flatMap fun b => (upTo 720).flatMap fun c => (upTo 720).map fun d => (⟨a, b, c, d⟩ : Vec)).length ≤ 374805361 := fun a => by
    have := flatMap_len (l := upTo 720) (h2 a); rw [upTo_len] at this; omega
  have := flatMap_len (l := upTo 720) h1
  rw [upTo_len] at this
  exact this
theorem few720 {l : List Vec} (h : l.Nodup) (hn : ∀ v ∈ l, Whole0 v ∧ norm v ≤ 720) : l.length ≤ 270234665281 :=
  Nat.le_trans (nodup_len h fun v hv => by
    obtain ⟨h1, h2⟩ := hn v hv
    simp only [Whole0, norm] at h1 h2
    exact List.mem_flatMap.2 ⟨v.a, mem_upTo h1.1 (by omega), List.mem_flatMap.2 ⟨v.b, mem_upTo h1.2.1 (by omega), List.mem_flatMap.2 ⟨v.c, mem_upTo h1.2.2.1 (by omega), List.mem_map.2 ⟨v.d, mem_upTo h1.2.2.2 (by omega), rfl⟩⟩⟩⟩) box720_len
end Go.Proofs.Ytaglbnblfhfkeaa
