/-
  Plain facts: all orders, rising; each set of mountains has a pile.
-/
import Derived.Test.YtmbccdjoliegiaaG5
namespace Go.Proofs.Ytmbccdjoliegiaa

/-- An order comes before another one. -/
def lexLt (p q : List Nat) : Prop := ∃ k, k < p.length ∧ k < q.length ∧ (∀ j, j < k → p.getD j 0 = q.getD j 0) ∧ p.getD k 0 < q.getD k 0

theorem perms_pre {n : Nat} : ∀ (k : Nat) (pre p : List Nat), p ∈ perms n k pre → pre <+: p
  | 0, pre, p, h => by simp [perms] at h; rw [h]; exact List.prefix_refl _
  | k + 1, pre, p, h => by
    simp only [perms, List.mem_flatMap, List.mem_range] at h
    obtain ⟨x, _, h⟩ := h
    by_cases hin : x ∈ pre
    · simp [hin] at h
    · simp only [hin, if_false] at h
      exact (List.prefix_append _ _).trans (perms_pre k _ p h)

theorem lex_pre {pre p q : List Nat} {x y : Nat} (hp : pre ++ [x] <+: p) (hq : pre ++ [y] <+: q) (h : x < y) : lexLt p q := by
  obtain ⟨r, rfl⟩ := hp
  obtain ⟨s, rfl⟩ := hq
  refine ⟨pre.length, by simp, by simp, fun j hj => ?_, ?_⟩
  · simp [List.getD, List.getElem?_append_left, hj]
  · simp [List.getD, h]

theorem perms_sorted {n : Nat} : ∀ (k : Nat) (pre : List Nat), (perms n k pre).Pairwise lexLt
  | 0, pre => by simp [perms]
  | k + 1, pre => by
    rw [perms, List.pairwise_flatMap]
    refine ⟨fun x _ => ?_, ?_⟩
    · by_cases hin : x ∈ pre
      · simp [hin]
      · simp only [hin, if_false]; exact perms_sorted k _
    · have : (List.range n).Pairwise (fun a b => a < b) := List.pairwise_lt_range
      refine this.imp (fun {a b} hab p hp q hq => ?_)
      by_cases ha : a ∈ pre
      · simp [ha] at hp
      · by_cases hb : b ∈ pre
        · simp [hb] at hq
        · simp only [ha, hb, if_false] at hp hq
          exact lex_pre (perms_pre _ _ _ hp) (perms_pre _ _ _ hq) hab

theorem perms_mem {n : Nat} : ∀ (k : Nat) (pre p : List Nat), pre ++ p = pre ++ p → p.length = k → (∀ x ∈ p, x < n) → (pre ++ p).Nodup → pre ++ p ∈ perms n k pre
  | 0, pre, p, _, h, _, _ => by
    have : p = [] := List.length_eq_zero_iff.1 h
    subst this
    simp [perms]
  | k + 1, pre, [], _, h, _, _ => by simp at h
  | k + 1, pre, x :: p, _, h, hx, hn => by
    have hnot : x ∉ pre := by
      intro hin
      have := (List.nodup_append.1 hn).2.2 x hin x (by simp)
      exact this rfl
    simp only [perms, List.mem_flatMap, List.mem_range]
    refine ⟨x, hx x (by simp), ?_⟩
    simp only [hnot, if_false]
    have := perms_mem k (pre ++ [x]) p rfl (by simpa using h) (fun y hy => hx y (by simp [hy])) (by simpa using hn)
    simpa using this

theorem perms_nodup {n : Nat} : ∀ (k : Nat) (pre p : List Nat), p ∈ perms n k pre → pre.Nodup → (∀ x ∈ pre, x < n) → p.Nodup ∧ ∀ x ∈ p, x < n
  | 0, pre, p, h, h1, h2 => by simp [perms] at h; rw [h]; exact ⟨h1, h2⟩
  | k + 1, pre, p, h, h1, h2 => by
    simp only [perms, List.mem_flatMap, List.mem_range] at h
    obtain ⟨x, hx, h⟩ := h
    by_cases hin : x ∈ pre
    · simp [hin] at h
    · simp only [hin, if_false] at h
      refine perms_nodup k _ p h ?_ ?_
      · rw [List.nodup_append]
        exact ⟨h1, by simp, fun a ha b hb => by simp at hb; subst hb; exact fun e => hin (e ▸ ha)⟩
      · intro y hy
        simp at hy
        rcases hy with hy | rfl
        · exact h2 y hy
        · exact hx

/-- A list of leaves that are each another one is a pile. -/
theorem good_of_list {n : Nat} {p : List Nat} (hn : n ≤ 60) (hl : p.length = n) (hx : ∀ x ∈ p, x < n) (hd : p.Nodup) : goodP n (zl p) n := by
  intro j hj
  have e : ∀ j (hj : j < n), zl p j = ((p[j]'(by omega) : Nat) : Int) := fun j hj => by
    have : j < p.length := by omega
    simp [zl, this]
  have hm : p[j]'(by omega) ∈ p := List.getElem_mem _
  have := hx _ hm
  refine ⟨by rw [e j hj]; omega, by rw [e j hj]; omega, by rw [e j hj]; omega, fun i hi => ?_⟩
  rw [e j hj, e i (by omega)]
  intro h
  have h' : p[i]'(by omega) = p[j]'(by omega) := by omega
  exact (List.pairwise_iff_getElem.1 hd) i j (by omega) (by omega) hi h'

/-- A pile's list. -/
def listOf (n : Nat) (z : Nat → Int) : List Nat := (List.range n).map fun j => (z j).toNat
theorem listOf_len (n : Nat) (z : Nat → Int) : (listOf n z).length = n := by simp [listOf]
theorem zl_listOf {n : Nat} {z : Nat → Int} (h : goodP n z n) : ∀ j, j < n → zl (listOf n z) j = z j := fun j hj => by
  have := h j hj
  simp [zl, listOf, hj]
  omega
theorem listOf_mem {n : Nat} {z : Nat → Int} (h : goodP n z n) : listOf n z ∈ perms n n [] := by
  have := perms_mem (n := n) n [] (listOf n z) rfl (listOf_len n z) (fun x hx => by
    obtain ⟨j, hj, rfl⟩ := List.mem_map.1 hx
    have := h j (List.mem_range.1 hj)
    omega) (by
    rw [List.nil_append, List.Nodup, listOf, List.pairwise_map]
    have : List.Pairwise (fun a b => a < b ∧ b < n) (List.range n) := by
      rw [List.pairwise_iff_getElem]
      intro i j hi hj hij
      simp at hi hj ⊢
      exact ⟨hij, hj⟩
    refine this.imp (fun {a b} hab e => ?_)
    have h1 := h b hab.2
    have h2 := h a (by omega)
    exact h1.2.2.2 a hab.1 (by omega))
  simpa using this

/-- What of a pile is told by its first n numbers. -/
theorem ix_congr {n : Nat} {y z : Nat → Int} (h : ∀ j, j < n → y j = z j) (x : Int) : ix n y x = ix n z x := by
  rcases ix_cases n z x with ⟨k, h1, h2, h3, h4⟩ | ⟨h1, h4⟩
  · rw [h4]; exact ix_at k h1 (by rw [h k h1]; exact h2) (fun j hj => by rw [h j (by omega)]; exact h3 j hj)
  · rw [h4]; exact ix_no (fun j hj => by rw [h j hj]; exact h1 j hj)
theorem posB_congr {n : Nat} {y z : Nat → Int} (h : ∀ j, j < n → y j = z j) (l : List Tri) : posB n y l = posB n z l := by
  have : crossAt n y l = crossAt n z l := by
    funext i j
    simp only [crossAt, crossB, around, ix_congr h]
  unfold posB; rw [this]
theorem mts_congr {n : Nat} {y z : Nat → Int} (h : ∀ j, j < n → y j = z j) (k : Nat) : mts n y k = mts n z k := by
  have : ∀ i, mtB n y i = mtB n z i := fun i => by simp only [mtB, ix_congr h]
  induction k with
  | zero => rfl
  | succ k ih => simp only [mts, this, ih]
theorem goodP_congr {n : Nat} {y z : Nat → Int} (h : ∀ j, j < n → y j = z j) (hz : goodP n z n) : goodP n y n := fun j hj => by
  have := hz j hj
  rw [h j hj]
  exact ⟨this.1, this.2.1, this.2.2.1, fun i hi => by rw [h i (by omega)]; exact this.2.2.2 i hi⟩

theorem fpiles_iff {n m : Nat} {p : List Nat} : p ∈ fpiles n m ↔ p ∈ perms n n [] ∧ poss n (zl p) = true ∧ mts n (zl p) (n - 1) = m := by
  unfold fpiles piles
  rw [List.mem_filter, List.mem_filter]
  constructor
  · rintro ⟨⟨h1, h2⟩, h3⟩
    have hl := perms_len _ _ _ h1
    simp at hl
    refine ⟨h1, ?_, ?_⟩
    · unfold okP at h2; rw [hl] at h2; exact h2
    · unfold okM at h3; rw [hl] at h3; simpa using h3
  · rintro ⟨h1, h2, h3⟩
    have hl := perms_len _ _ _ h1
    simp at hl
    refine ⟨⟨h1, ?_⟩, ?_⟩
    · unfold okP; rw [hl]; exact h2
    · unfold okM; rw [hl]; simpa using h3

/-- A pile for each set of mountains: each next leaf is laid beside the last one. -/
def put (x y : Nat) (below : Bool) : List Nat → List Nat
  | [] => []
  | a :: l => if a == x then (if below then x :: y :: l else y :: x :: l) else a :: put x y below l
def wit (m : Nat) : Nat → List Nat
  | 0 => []
  | 1 => [0]
  | k + 2 => put k (k + 1) (m.testBit k == decide (k % 2 = 0)) (wit m (k + 1))
def okW (n m : Nat) : Bool := (wit m n).length == n && (wit m n).all (fun x => decide (x < n)) && (List.range n).all (fun x => (wit m n).contains x) && okP (rowN 0 (n - 1)) (wit m n) && okM m (wit m n)
theorem all_wit : (List.range 8).all (fun n => (List.range (2 ^ (n - 1))).all (fun m => n == 0 || okW n m)) = true := by decide +kernel

theorem fpiles_some {n m : Nat} (h1 : 1 ≤ n) (h7 : n ≤ 7) (hm : m < 2 ^ (n - 1)) : ∃ x rest, fpiles n m = x :: rest := by
  have h := all_wit
  rw [List.all_eq_true] at h
  have h2 := h n (List.mem_range.2 (by omega))
  rw [List.all_eq_true] at h2
  have h3 := h2 m (List.mem_range.2 hm)
  have h4 : okW n m = true := by
    rw [Bool.or_eq_true] at h3
    rcases h3 with h3 | h3
    · simp at h3; omega
    · exact h3
  unfold okW at h4
  simp only [Bool.and_eq_true, beq_iff_eq, List.all_eq_true, decide_eq_true_eq, List.mem_range, List.contains_iff_mem] at h4
  obtain ⟨⟨⟨⟨hl, hx⟩, hall⟩, hok⟩, hom⟩ := h4
  have hg : goodP n (zl (wit m n)) n := all_good (by omega) (fun x hx => by
    obtain ⟨j, hj, e⟩ := List.getElem_of_mem (hall x hx)
    exact ⟨j, by omega, by simp [zl, hj, e]⟩)
  have hmem : wit m n ∈ perms n n [] := by
    have e : listOf n (zl (wit m n)) = wit m n := by
      refine List.ext_getElem (by rw [listOf_len, hl]) fun i h1 h2 => ?_
      simp [listOf, zl, h2]
    rw [← e]; exact listOf_mem hg
  have hin : wit m n ∈ fpiles n m := List.mem_filter.2 ⟨List.mem_filter.2 ⟨hmem, hok⟩, hom⟩
  cases hf : fpiles n m with
  | nil => rw [hf] at hin; cases hin
  | cons x rest => exact ⟨x, rest, rfl⟩

/-- What the first pile is. -/
theorem head_facts {n m : Nat} (h1 : 1 ≤ n) (h7 : n ≤ 7) {x : List Nat} {rest : List (List Nat)} (h : fpiles n m = x :: rest) :
    x.length = n ∧ isP n (zl x) = true ∧ poss n (zl x) = true ∧ mts n (zl x) (n - 1) = m ∧ ∀ z : Nat → Int, isP n z = true → poss n z = true → mts n z (n - 1) = m → x = listOf n z ∨ lexLt x (listOf n z) := by
  have hin : x ∈ fpiles n m := by rw [h]; simp
  obtain ⟨a, b, c⟩ := fpiles_iff.1 hin
  have hl := perms_len _ _ _ a
  simp at hl
  have hnd := perms_nodup _ _ _ a (by simp) (by simp)
  refine ⟨hl, isP_iff'.2 ⟨h1, h7, good_of_list (by omega) hl hnd.2 hnd.1⟩, b, c, fun z hz hp hm => ?_⟩
  have hg := (isP_iff'.1 hz).2.2
  have hy : listOf n z ∈ fpiles n m := fpiles_iff.2 ⟨listOf_mem hg, by unfold poss at hp ⊢; rw [posB_congr (zl_listOf hg)]; exact hp, by rw [mts_congr (zl_listOf hg)]; exact hm⟩
  have hs : (fpiles n m).Pairwise lexLt := ((perms_sorted n []).filter _).filter _
  rw [h] at hy hs
  rcases List.mem_cons.1 hy with e | e
  · exact Or.inl e.symm
  · exact Or.inr ((List.pairwise_cons.1 hs).1 _ e)

end Go.Proofs.Ytmbccdjoliegiaa
