/-
  Plain facts: what is known of how many piles there are.
-/
import Derived.Test.YtmbccdjoliegiaaMath8
namespace Go.Proofs.Ytmbccdjoliegiaa

theorem seven_split : perms 7 7 [] = perms 7 6 [0] ++ (perms 7 6 [1] ++ (perms 7 6 [2] ++ (perms 7 6 [3] ++ (perms 7 6 [4] ++ (perms 7 6 [5] ++ (perms 7 6 [6] ++ [])))))) := by
  have e : List.range 7 = [0, 1, 2, 3, 4, 5, 6] := rfl
  conv => lhs; unfold perms
  rw [e]
  simp only [List.flatMap_cons, List.flatMap_nil, List.not_mem_nil, if_false, List.nil_append]
theorem seven_piles : piles 7 = (perms 7 6 [0]).filter (okP (rowN 0 6)) ++ ((perms 7 6 [1]).filter (okP (rowN 0 6)) ++ ((perms 7 6 [2]).filter (okP (rowN 0 6)) ++ ((perms 7 6 [3]).filter (okP (rowN 0 6)) ++ ((perms 7 6 [4]).filter (okP (rowN 0 6)) ++ ((perms 7 6 [5]).filter (okP (rowN 0 6)) ++ ((perms 7 6 [6]).filter (okP (rowN 0 6)) ++ [])))))) := by
  unfold piles
  rw [seven_split]
  simp only [List.filter_append, List.filter_nil]
theorem count7 : (piles 7).length = 462 := by
  rw [seven_piles]
  simp only [List.length_append, seven0, seven1, seven2, seven3, seven4, seven5, seven6, List.length_nil]
theorem top_head {n k x : Nat} {p : List Nat} (h : p ∈ perms n k [x]) : topB p = (x == 0) := by
  obtain ⟨t, rfl⟩ := perms_pre _ _ _ h
  rfl
theorem top_all (l : List Tri) : ((perms 7 6 [0]).filter (okP l)).filter topB = (perms 7 6 [0]).filter (okP l) :=
  List.filter_eq_self.2 (fun p hp => top_head (List.mem_filter.1 hp).1)
theorem top_none (l : List Tri) (x : Nat) (hx : x ≠ 0) : ((perms 7 6 [x]).filter (okP l)).filter topB = [] :=
  List.filter_eq_nil_iff.2 (fun p hp => by rw [top_head (List.mem_filter.1 hp).1]; simpa using hx)
theorem top7 : ((piles 7).filter topB).length = 66 := by
  rw [seven_piles]
  simp only [List.filter_append, top_all, top_none _ 1 (by decide), top_none _ 2 (by decide), top_none _ 3 (by decide), top_none _ 4 (by decide), top_none _ 5 (by decide), top_none _ 6 (by decide), List.filter_nil, List.append_nil, seven0]

/-- The known numbers of piles, and of those with leaf 0 at the top. -/
def knownC (n : Nat) : Nat := [0, 1, 2, 6, 16, 50, 144, 462].getD n 0
def knownT (n : Nat) : Nat := [0, 1, 1, 2, 4, 10, 24, 66].getD n 0
theorem known_count {n : Nat} (h1 : 1 ≤ n) (h7 : n ≤ 7) : (piles n).length = knownC n := by
  have : n = 1 ∨ n = 2 ∨ n = 3 ∨ n = 4 ∨ n = 5 ∨ n = 6 ∨ n = 7 := by omega
  rcases this with rfl | rfl | rfl | rfl | rfl | rfl | rfl
  · exact count1
  · exact count2
  · exact count3
  · exact count4
  · exact count5
  · exact count6
  · exact count7
theorem known_top {n : Nat} (h1 : 1 ≤ n) (h7 : n ≤ 7) : ((piles n).filter topB).length = knownT n := by
  have : n = 1 ∨ n = 2 ∨ n = 3 ∨ n = 4 ∨ n = 5 ∨ n = 6 ∨ n = 7 := by omega
  rcases this with rfl | rfl | rfl | rfl | rfl | rfl | rfl
  · exact top1
  · exact top2
  · exact top3
  · exact top4
  · exact top5
  · exact top6
  · exact top7
end Go.Proofs.Ytmbccdjoliegiaa
