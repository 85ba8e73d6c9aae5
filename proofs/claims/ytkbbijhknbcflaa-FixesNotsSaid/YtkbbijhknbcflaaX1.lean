import Derived.Test.YtkbbijhknbcflaaG1
import Derived.Test.YtkbbijhknbcflaaMath4
/-
  The exchange of a formula's signs, sign by sign.
-/
namespace Go.Proofs.Ytkbbijhknbcflaa
open Go.RowKit Go.Shelf

/-- What a sign is exchanged with. -/
def opp (x : UInt8) : UInt8 :=
  if x = 116 then 102 else if x = 102 then 116 else if x = 38 then 124 else if x = 124 then 38
  else if x = 60 then 91 else if x = 91 then 60 else if x = 109 then 103 else if x = 103 then 109 else x

/-- What a sign ahead of which no - stands puts there: - ahead of a mark. -/
def pre (g : Bool) (x : UInt8) : List UInt8 := if digB x && !g then [45] else []
def xst (p : Bool × List UInt8) (x : UInt8) : Bool × List UInt8 :=
  (x == 45, (p.2 ++ pre p.1 x) ++ (if x == 45 then [] else [opp x]))
def xch (l : List UInt8) : Bool × List UInt8 := l.foldl xst (false, [])

theorem xst_len (p : Bool × List UInt8) (x : UInt8) : (xst p x).2.length ≤ p.2.length + 2 := by
  unfold xst pre
  split <;> split <;> simp
theorem xch_take (l : List UInt8) (k : Nat) (h : k < l.length) : xch (l.take (k + 1)) = xst (xch (l.take k)) l[k] := by
  unfold xch
  rw [List.take_add_one, List.getElem?_eq_getElem h, List.foldl_append]
  rfl
theorem xch_len (l : List UInt8) : (xch l).2.length ≤ 2 * l.length := by
  have : ∀ (l : List UInt8) (p : Bool × List UInt8), (l.foldl xst p).2.length ≤ p.2.length + 2 * l.length := by
    intro l
    induction l with
    | nil => intro p; simp
    | cons x l ih =>
      intro p
      have := ih (xst p x)
      have := xst_len p x
      simp only [List.foldl_cons, List.length_cons]
      omega
  have := this l (false, [])
  simpa [xch] using this
theorem fold_str (F : Fm) : ∀ {m : Nat → Bool} (o : List UInt8), wf m F → (str F).foldl xst (false, o) = (false, o ++ str (neg F)) := by
  induction F with
  | mark k =>
    intro m o h
    rcases cases4 h with rfl | rfl | rfl | rfl <;> simp [str, neg, xst, pre] <;> first | done | (refine ⟨by decide, ?_⟩; rfl) | rfl
  | unm k =>
    intro m o h
    rcases cases4 h with rfl | rfl | rfl | rfl <;> simp [str, neg, xst, pre] <;> first | done | (refine ⟨by decide, ?_⟩; rfl) | rfl
  | tt => intro m o _; simp [str, neg, xst, pre, opp]; decide
  | ff => intro m o _; simp [str, neg, xst, pre, opp]; decide
  | two a l r ih1 ih2 =>
    intro m o h
    have e : xst (false, o) (if a then 38 else 124) = (false, o ++ [if !a then 38 else 124]) := by cases a <;> simp [xst, pre, opp] <;> decide
    rw [str, List.foldl_cons, List.foldl_append, e, ih1 _ h.1, ih2 _ h.2, neg, str]
    simp
  | ahead d l ih =>
    intro m o h
    have e : xst (false, o) (if d then 60 else 91) = (false, o ++ [if !d then 60 else 91]) := by cases d <;> simp [xst, pre, opp] <;> decide
    rw [str, List.foldl_cons, e, ih _ h, neg, str]
    simp
  | var c =>
    intro m o h
    rcases cases3 h.1 with rfl | rfl | rfl <;> simp [str, neg, xst, pre] <;> first | done | (refine ⟨by decide, ?_⟩; rfl) | rfl
  | fix g c l ih =>
    intro m o h
    have e : xst (false, o) (if g then 103 else 109) = (false, o ++ [if !g then 103 else 109]) := by cases g <;> simp [xst, pre, opp] <;> decide
    have e2 : ∀ o, xst (false, o) (lett c) = (false, o ++ [lett c]) := by
      intro o
      rcases cases3 h.1.1 with rfl | rfl | rfl <;> simp [xst, pre] <;> first | done | (refine ⟨by decide, ?_⟩; rfl) | rfl
    rw [str, List.foldl_cons, List.foldl_cons, e, e2, ih _ h.2, neg, str]
    simp
theorem xch_str {m : Nat → Bool} {F : Fm} (h : wf m F) : xch (str F) = (false, str (neg F)) := by
  have := fold_str F [] h
  simpa [xch] using this
end Go.Proofs.Ytkbbijhknbcflaa
