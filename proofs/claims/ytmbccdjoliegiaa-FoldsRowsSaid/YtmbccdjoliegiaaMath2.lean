/-
  Plain facts: distinct numbers in a range are all of them.
-/
import Derived.Test.YtmbccdjoliegiaaMath1
namespace Go.Proofs.Ytmbccdjoliegiaa

theorem nodup_le {α : Type} [DecidableEq α] : ∀ (l m : List α), l.Nodup → (∀ x ∈ l, x ∈ m) → l.length ≤ m.length
  | [], _, _, _ => Nat.zero_le _
  | a :: l, m, hn, hs => by
    have ha := hs a (List.mem_cons_self ..)
    rw [List.nodup_cons] at hn
    have := nodup_le l (m.erase a) hn.2 (fun x hx => (List.mem_erase_of_ne (fun e => hn.1 (by rw [← e]; exact hx))).2 (hs x (List.mem_cons_of_mem _ hx)))
    rw [List.length_erase_of_mem ha] at this
    have := List.length_pos_of_mem ha
    simp; omega

/-- The first k numbers are leaves, each another one. -/
def goodP (n : Nat) (z : Nat → Int) (k : Nat) : Prop := ∀ j, j < k → 0 ≤ z j ∧ z j < n ∧ z j ≤ 60 ∧ ∀ i, i < j → z i ≠ z j
theorem goodP_dec (n : Nat) (z : Nat → Int) (k : Nat) : goodP n z k ↔ (List.range k).all (fun j => decide (0 ≤ z j) && decide (z j < n) && decide (z j ≤ 60) && (List.range j).all (fun i => decide (z i ≠ z j))) = true := by
  simp only [goodP, List.all_eq_true, List.mem_range, Bool.and_eq_true, decide_eq_true_eq]
  exact ⟨fun h j hj => let ⟨a, b, c, d⟩ := h j hj; ⟨⟨⟨a, b⟩, c⟩, d⟩, fun h j hj => let ⟨⟨⟨a, b⟩, c⟩, d⟩ := h j hj; ⟨a, b, c, d⟩⟩
instance (n : Nat) (z : Nat → Int) (k : Nat) : Decidable (goodP n z k) := decidable_of_iff _ (goodP_dec n z k).symm

theorem range_nodup (n : Nat) : ((List.range n).map (fun (x : Nat) => (x : Int))).Nodup := by
  refine List.Pairwise.map _ ?_ (List.nodup_range (n := n))
  intro a b h e
  exact h (by omega)

theorem good_all {n : Nat} {z : Nat → Int} (h : goodP n z n) (x : Nat) (hx : x < n) : ∃ j, j < n ∧ z j = x := by
  refine Decidable.byContradiction fun hno => ?_
  have hno' : ∀ j, j < n → z j ≠ x := fun j hj e => hno ⟨j, hj, e⟩
  have hnd : ((List.range n).map z).Nodup := by
    rw [List.Nodup, List.pairwise_map]
    have : List.Pairwise (fun a b => a < b ∧ b < n) (List.range n) := by
      rw [List.pairwise_iff_getElem]
      intro i j hi hj hij
      simp at hi hj ⊢
      exact ⟨hij, hj⟩
    exact this.imp (fun {a b} hab => (h b hab.2).2.2.2 a hab.1)
  have hle := nodup_le _ (((List.range n).map (fun (y : Nat) => (y : Int))).erase (x : Int)) hnd (by
    intro y hy
    obtain ⟨j, hj, rfl⟩ := List.mem_map.1 hy
    have hj' := List.mem_range.1 hj
    refine (List.mem_erase_of_ne (hno' j hj')).2 ?_
    have := h j hj'
    exact List.mem_map.2 ⟨(z j).toNat, List.mem_range.2 (by omega), by omega⟩)
  rw [List.length_erase_of_mem (List.mem_map.2 ⟨x, List.mem_range.2 hx, rfl⟩)] at hle
  simp at hle
  omega

theorem all_good {n : Nat} {z : Nat → Int} (hn : n ≤ 60) (h : ∀ x : Nat, x < n → ∃ j, j < n ∧ z j = x) : goodP n z n := by
  have key : ∀ j, j < n → ∀ P : Prop, (∀ x : Nat, x < n → ∃ i, i < n ∧ i ≠ j ∧ z i = x) → P := by
    intro j hj P hx
    have hle := nodup_le ((List.range n).map (fun (y : Nat) => (y : Int))) (((List.range n).erase j).map z) (range_nodup n) (by
      intro y hy
      obtain ⟨x, hxm, rfl⟩ := List.mem_map.1 hy
      obtain ⟨i, hi, hij, e⟩ := hx x (List.mem_range.1 hxm)
      exact List.mem_map.2 ⟨i, (List.mem_erase_of_ne hij).2 (List.mem_range.2 hi), e⟩)
    simp only [List.length_map, List.length_range] at hle
    rw [List.length_erase_of_mem (List.mem_range.2 hj), List.length_range] at hle
    omega
  intro j hj
  have hr : 0 ≤ z j ∧ z j < n := by
    refine Decidable.byContradiction fun hno => key j hj False ?_
    intro x hx
    obtain ⟨i, hi, e⟩ := h x hx
    exact ⟨i, hi, fun hij => hno (by subst hij; omega), e⟩
  refine ⟨hr.1, hr.2, by omega, fun i hi e => key j hj False ?_⟩
  intro x hx
  obtain ⟨i', hi', e'⟩ := h x hx
  by_cases hij : i' = j
  · exact ⟨i, by omega, by omega, by rw [e, ← hij, e']⟩
  · exact ⟨i', hi', hij, e'⟩

/-- What the reference says of a pile. -/
def pileR (n : Nat) (z : Nat → Int) (most : Int) : Bool := decide (goodP n z n) && (decide (1 ≤ n) && decide ((n : Int) ≤ most))
theorem pileR_no {n : Nat} {z : Nat → Int} {most : Int} (h : ¬ goodP n z n) : pileR n z most = false := by simp [pileR, h]
theorem pileR_yes {n : Nat} {z : Nat → Int} {most : Int} (h : goodP n z n) : pileR n z most = (decide (1 ≤ n) && decide ((n : Int) ≤ most)) := by simp [pileR, h]
theorem pileR_iff {n : Nat} {z : Nat → Int} {most : Int} : pileR n z most = true ↔ goodP n z n ∧ 1 ≤ n ∧ (n : Int) ≤ most := by simp [pileR]
theorem pileR_isP (n : Nat) (z : Nat → Int) : pileR n z 7 = isP n z := by
  rw [Bool.eq_iff_iff, pileR_iff, isP_iff]
  exact ⟨fun ⟨h1, h2, h3⟩ => ⟨h2, by omega, good_all h1⟩, fun ⟨h1, h2, h3⟩ => ⟨all_good (by omega) h3, h1, by omega⟩⟩

end Go.Proofs.Ytmbccdjoliegiaa
