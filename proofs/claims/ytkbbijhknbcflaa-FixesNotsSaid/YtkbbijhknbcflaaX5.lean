import Derived.Test.YtkbbijhknbcflaaX2
import Derived.Test.YtkbbijhknbcflaaR3
/-
  The signs of a formula in their order, as the document's Not reads them.
-/
namespace Go.Proofs.Ytkbbijhknbcflaa
open Go.RowKit Go.Shelf

/-- What a formula is written in: - and a mark, a mark, a letter, a sign. -/
inductive Gd : List UInt8 → Prop
  | nil : Gd []
  | un (k : Nat) (t : List UInt8) : k < 4 → Gd t → Gd (45 :: dig k :: t)
  | dg (k : Nat) (t : List UInt8) : k < 4 → Gd t → Gd (dig k :: t)
  | le (k : Nat) (t : List UInt8) : k < 3 → Gd t → Gd (lett k :: t)
  | op (x : UInt8) (t : List UInt8) : ops.contains x = true → Gd t → Gd (x :: t)
theorem gd_str (F : Fm) : ∀ {m : Nat → Bool} {r : List UInt8}, wf m F → Gd r → Gd (str F ++ r) := by
  induction F with
  | mark k => intro m r h g; exact .dg k r h g
  | unm k => intro m r h g; exact .un k r h g
  | tt => intro m r _ g; exact .op 116 r (by decide) g
  | ff => intro m r _ g; exact .op 102 r (by decide) g
  | two a l q ih1 ih2 =>
    intro m r h g
    have := ih1 h.1 (ih2 h.2 g)
    rw [str, List.cons_append, List.append_assoc]
    exact .op _ _ (by cases a <;> decide) this
  | ahead d l ih =>
    intro m r h g
    rw [str, List.cons_append]
    exact .op _ _ (by cases d <;> decide) (ih h g)
  | var c => intro m r h g; exact .le c r h.1 g
  | fix f c l ih =>
    intro m r h g
    rw [str, List.cons_append, List.cons_append]
    exact .op _ _ (by cases f <;> decide) (.le c _ h.1.1 (ih h.2 g))
theorem gd_of {m : Nat → Bool} {F : Fm} (h : wf m F) : Gd (str F) := by
  have := gd_str F h Gd.nil
  rwa [List.append_nil] at this

theorem fold_un {k : Nat} (h : k < 4) (o t : List UInt8) : (45 :: dig k :: t).foldl xst (false, o) = t.foldl xst (false, o ++ [dig k]) := by
  rw [List.foldl_cons, List.foldl_cons]
  congr 1
  rcases cases4 h with rfl | rfl | rfl | rfl <;> simp [xst, pre] <;> first | done | (refine ⟨by decide, ?_⟩; rfl) | rfl
theorem fold_dg {k : Nat} (h : k < 4) (o t : List UInt8) : (dig k :: t).foldl xst (false, o) = t.foldl xst (false, (o ++ [45]) ++ [dig k]) := by
  rw [List.foldl_cons]
  congr 1
  rcases cases4 h with rfl | rfl | rfl | rfl <;> simp [xst, pre] <;> first | done | (refine ⟨by decide, ?_⟩; rfl) | rfl
theorem fold_le {k : Nat} (h : k < 3) (o t : List UInt8) : (lett k :: t).foldl xst (false, o) = t.foldl xst (false, o ++ [lett k]) := by
  rw [List.foldl_cons]
  congr 1
  rcases cases3 h with rfl | rfl | rfl <;> simp [xst, pre] <;> first | done | (refine ⟨by decide, ?_⟩; rfl) | rfl
theorem ops_cases {x : UInt8} (h : ops.contains x = true) : x = 116 ∨ x = 102 ∨ x = 38 ∨ x = 124 ∨ x = 60 ∨ x = 91 ∨ x = 109 ∨ x = 103 := by simpa [ops] using h
theorem fold_op {x : UInt8} (h : ops.contains x = true) (o t : List UInt8) : (x :: t).foldl xst (false, o) = t.foldl xst (false, o ++ [opp x]) := by
  rw [List.foldl_cons]
  congr 1
  rcases ops_cases h with rfl | rfl | rfl | rfl | rfl | rfl | rfl | rfl <;> simp [xst, pre] <;> first | done | (refine ⟨by decide, ?_⟩; rfl) | rfl | decide

/-- The table of exchanges up to a place: what it puts for a byte. -/
def tos : List UInt8 := [102, 116, 124, 38, 91, 60, 103, 109]
def mt (x : UInt8) (k : Nat) : List UInt8 := ((List.range k).filter fun j => ops.getD j 0 == x).map fun j => tos.getD j 0
theorem mt_yes {x : UInt8} {k : Nat} (h : ops.getD k 0 = x) : mt x (k + 1) = mt x k ++ [tos.getD k 0] := by
  unfold mt
  rw [List.range_succ, List.filter_append, List.map_append]
  have : (ops.getD k 0 == x) = true := by rw [h]; exact beq_self_eq_true x
  rw [List.filter_cons, this]
  rfl
theorem mt_no {x : UInt8} {k : Nat} (h : ¬ ops.getD k 0 = x) : mt x (k + 1) = mt x k := by
  unfold mt
  rw [List.range_succ, List.filter_append, List.map_append]
  have : (ops.getD k 0 == x) = false := beq_eq_false_iff_ne.2 h
  rw [List.filter_cons, this]
  simp
theorem mt_len (x : UInt8) (k : Nat) : (mt x k).length ≤ k := by
  unfold mt
  rw [List.length_map]
  exact Nat.le_trans (List.length_filter_le _ _) (by simp)
theorem mt_op {x : UInt8} (h : ops.contains x = true) : mt x 8 = [opp x] := by
  rcases ops_cases h with rfl | rfl | rfl | rfl | rfl | rfl | rfl | rfl <;> decide
theorem mt_dig {k : Nat} (h : k < 4) : mt (dig k) 8 = [] := by rcases cases4 h with rfl | rfl | rfl | rfl <;> decide
theorem mt_lett {k : Nat} (h : k < 3) : mt (lett k) 8 = [] := by rcases cases3 h with rfl | rfl | rfl <;> decide
theorem dgV_op {x : UInt8} (h : ops.contains x = true) : dgV x = -1 ∧ ltV x = -1 := by
  rcases ops_cases h with rfl | rfl | rfl | rfl | rfl | rfl | rfl | rfl <;> decide
theorem dgV_lett {k : Nat} (h : k < 3) : dgV (lett k) = -1 := by rcases cases3 h with rfl | rfl | rfl <;> decide
end Go.Proofs.Ytkbbijhknbcflaa
