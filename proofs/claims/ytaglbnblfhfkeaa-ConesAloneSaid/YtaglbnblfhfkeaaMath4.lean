import Derived.Test.YtaglbnblfhfkeaaMath3
namespace Go.Proofs.Ytaglbnblfhfkeaa
open Vec

/-- No number has another sign. -/
def side1 (s x : Int) : Prop := (0 ≤ x → 0 ≤ s) ∧ (x ≤ 0 → s ≤ 0)
def side (s x : Vec) : Prop := side1 s.a x.a ∧ side1 s.b x.b ∧ side1 s.c x.c ∧ side1 s.d x.d
theorem side_fits {y x : Vec} (h : fits y x) : side y x := by simp only [side, side1, fits, fit1] at *; omega
theorem side_zero (x : Vec) : side zero x := by simp [side, side1, zero]
theorem side_add {s t x : Vec} (h : side s x) (k : side t x) : side (add s t) x := by simp only [side, side1, add] at *; omega
theorem side_sum {x : Vec} (l : List Vec) (h : ∀ y ∈ l, fits y x) : side (sumV l) x := by
  induction l with
  | nil => exact side_zero x
  | cons y l ih => exact side_add (side_fits (h y List.mem_cons_self)) (ih fun z hz => h z (List.mem_cons_of_mem _ hz))
theorem fits_add {y s x : Vec} (h : fits y x) (k : side s x) : fits y (add y s) := by simp only [side, side1, fits, fit1, add] at *; omega
theorem fits_part {s t x : Vec} (h : side s x) (k : side t x) (e : add s t = x) : fits s x := by
  subst e
  simp only [side, side1, fits, fit1, add] at *; omega
theorem sub_add (y s : Vec) : sub (add y s) y = s := by apply ext4 <;> simp only [sub, add] <;> omega
theorem sum_take_drop (l : List Vec) (k : Nat) : add (sumV (l.take k)) (sumV (l.drop k)) = sumV l := by rw [← sumV_append, List.take_append_drop]
theorem fits_take {l : List Vec} {x : Vec} (h : ∀ y ∈ l, fits y x) (e : sumV l = x) (k : Nat) : fits (sumV (l.take k)) x :=
  fits_part (side_sum _ fun y hy => h y (List.mem_of_mem_take hy)) (side_sum _ fun y hy => h y (List.mem_of_mem_drop hy)) (by rw [sum_take_drop, e])
theorem sum_take_succ {l : List Vec} {k : Nat} {y : Vec} (h : l[k]? = some y) : sumV (l.take (k + 1)) = add (sumV (l.take k)) y := by
  rw [List.take_add_one, h, sumV_append]
  congr 1
  apply ext4 <;> simp [sumV, add, zero]
theorem drop_cons {l : List Vec} {k : Nat} {y : Vec} (h : l[k]? = some y) : l.drop k = y :: l.drop (k + 1) := by
  have hk := (List.getElem?_eq_some_iff.1 h)
  obtain ⟨h1, h2⟩ := hk
  rw [List.drop_eq_getElem_cons h1, h2]
theorem addV_at (u v : Vec) (j : Nat) : (add u v).at' j = u.at' j + v.at' j := by
  match j with
  | 0 | 1 | 2 | 3 => rfl
  | _ + 4 => rfl
end Go.Proofs.Ytaglbnblfhfkeaa
