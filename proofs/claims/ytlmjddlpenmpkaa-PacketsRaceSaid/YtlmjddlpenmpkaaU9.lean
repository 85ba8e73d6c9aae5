import Derived.Test.YtlmjddlpenmpkaaU8
namespace Go.Proofs.Ytlmjddlpenmpkaa
/-- The sets with all of a set, of n kinds. -/
def sups (n set : Nat) : List Nat := (List.range (2 ^ n)).filter fun s => s &&& set == set
def lhsL (b : Bool) (n set : Nat) : List Nat := (sups n set).flatMap fun s => ((partsL s).filter (fun t => isOdd t == b)).map (sdiff s)
def rhsL (b : Bool) (n set : Nat) : List Nat := ((partsL set).filter (fun t => isOdd t == b)).map (sdiff (2 ^ n - 1))
def supB (n set : Nat) : Bool := (rhsL false n set ++ lhsL true n set).isPerm (lhsL false n set ++ rhsL true n set)
theorem sup_all : (List.range 7).all (fun n => (List.range (2 ^ n)).all (supB n)) = true := by decide +kernel
theorem sum_append (f : Nat → Int) (xs ys : List Nat) : ((xs ++ ys).map f).sum = (xs.map f).sum + (ys.map f).sum := by simp
theorem sum_permI {xs ys : List Nat} (f : Nat → Int) (h : xs.Perm ys) : (xs.map f).sum = (ys.map f).sum := by
  induction h with
  | nil => rfl
  | cons a _ ih => simp only [List.map_cons, List.sum_cons, ih]
  | swap a b l => simp only [List.map_cons, List.sum_cons]; omega
  | trans _ _ h1 h2 => exact h1.trans h2
theorem sum_sub (f g : Nat → Int) : ∀ xs : List Nat, (xs.map fun x => f x - g x).sum = (xs.map f).sum - (xs.map g).sum := sumC_sub f g
theorem sum_flat (f : Nat → Int) (g : Nat → List Nat) : ∀ xs : List Nat, ((xs.flatMap g).map f).sum = (xs.map fun x => ((g x).map f).sum).sum
  | [] => rfl
  | x :: xs => by
    have := sum_flat f g xs
    rw [List.flatMap_cons, sum_append, this, List.map_cons, List.sum_cons]
theorem al_split (c : Nat → Int) : ∀ xs : List Nat, sumC (alC c) xs = ((xs.filter (fun t => isOdd t == false)).map c).sum - ((xs.filter (fun t => isOdd t == true)).map c).sum
  | [] => rfl
  | x :: xs => by
    have ih := al_split c xs
    simp only [sumC, List.map_cons, List.sum_cons] at ih ⊢
    rw [ih]
    have : pop x % 2 = 1 ∨ pop x % 2 = 0 := by omega
    rcases this with e | e
    · have e2 : isOdd x = true := by simp [isOdd, e]
      have e3 : alC c x = -(c x) := by simp [alC, e]
      rw [List.filter_cons_of_neg (by simp [e2]), List.filter_cons_of_pos (by simp [e2]), e3, List.map_cons, List.sum_cons]; omega
    · have e2 : isOdd x = false := by simp [isOdd, e]
      have e3 : alC c x = c x := by simp [alC, e]
      rw [List.filter_cons_of_pos (by simp [e2]), List.filter_cons_of_neg (by simp [e2]), e3, List.map_cons, List.sum_cons]; omega
/-- A set is there where a set came that has it. -/
theorem ex_sum (z : Nat → Int) {n set k : Nat} (hs : set < 2 ^ n) (hn : n ≤ 6) : ((sups n set).map fun s => doC z s s k).sum = doC z (2 ^ n - 1) set k := by
  have h := List.all_eq_true.1 (List.all_eq_true.1 sup_all n (List.mem_range.2 (by omega))) set (List.mem_range.2 hs)
  unfold supB at h
  rw [List.isPerm_iff] at h
  have h2 := sum_permI (fun U => (((ofS z U).toNat ^ k : Nat) : Int)) h
  rw [sum_append, sum_append] at h2
  have e1 : ∀ b, ((lhsL b n set).map fun U => (((ofS z U).toNat ^ k : Nat) : Int)).sum = ((sups n set).map fun s => (((partsL s).filter (fun t => isOdd t == b)).map (woC z s k)).sum).sum := by
    intro b
    unfold lhsL
    rw [sum_flat]
    refine sum_congr fun s _ => ?_
    rw [List.map_map]; rfl
  have e2 : ∀ b, ((rhsL b n set).map fun U => (((ofS z U).toNat ^ k : Nat) : Int)).sum = (((partsL set).filter (fun t => isOdd t == b)).map (woC z (2 ^ n - 1) k)).sum := by
    intro b
    unfold rhsL
    rw [List.map_map]; rfl
  rw [e1, e1, e2, e2] at h2
  have e3 : ((sups n set).map fun s => doC z s s k).sum = ((sups n set).map fun s => (((partsL s).filter (fun t => isOdd t == false)).map (woC z s k)).sum - (((partsL s).filter (fun t => isOdd t == true)).map (woC z s k)).sum).sum :=
    sum_congr fun s _ => al_split _ _
  rw [e3, sum_sub]
  unfold doC
  rw [al_split]
  omega

/-- That just some kinds came is no less than never. -/
theorem doC_sub {z : Nat → Int} {n s u k : Nat} (hs : s < 2 ^ n) (hn : n ≤ 6) (hu : u &&& s = u) (h9 : ∀ j, j < n → 1 ≤ z j ∧ z j ≤ 9) :
    doC z s u (k + 1) = ((kindsL s).map fun i => z i * doC z s (sdiff u (2 ^ i)) k).sum := by
  have hs64 := lt64 hs hn
  have hu64 : u < 64 := by have : u ≤ s := by rw [← hu]; exact Nat.and_le_right
                           omega
  unfold doC
  rw [swap_parts z (alC (woC z s k)) hs64 hu64 hu]
  refine sumC_congr fun t ht => ?_
  have ht64 := partsL_lt ht
  have htS := sub_trans (partsL_sub ht) hu
  have hd := ofS_diff z hs64 ht64 htS
  have hpos : 0 ≤ ofS z (sdiff s t) := by
    by_cases h0 : sdiff s t = 0
    · rw [h0]; unfold ofS; rw [show kindsL 0 = [] by decide +kernel]; exact Int.le_refl _
    · have := (of_pos (sdiff_lt hs) hn h0 h9).1; omega
  have e : woC z s (k + 1) t = woC z s k t * (ofS z s - ofS z t) := by
    unfold woC
    rw [Nat.pow_succ, Int.natCast_mul]
    have : (((ofS z (sdiff s t)).toNat : Nat) : Int) = ofS z s - ofS z t := by omega
    rw [this]
  rw [alC_mulr (woC z s k) (fun t => ofS z s - ofS z t)]
  exact alC_congr e
theorem doC_pos2 {z : Nat → Int} {n s : Nat} (hs : s < 2 ^ n) (hn : n ≤ 6) (h9 : ∀ j, j < n → 1 ≤ z j ∧ z j ≤ 9) : ∀ (k u : Nat), u &&& s = u → 0 ≤ doC z s u k
  | 0, u, hu => by
    have hu64 : u < 64 := by have : u ≤ s := by rw [← hu]; exact Nat.and_le_right
                             have := lt64 hs hn; omega
    rw [doC_zero _ _ hu64]; split <;> omega
  | k + 1, u, hu => by
    have hu64 : u < 64 := by have : u ≤ s := by rw [← hu]; exact Nat.and_le_right
                             have := lt64 hs hn; omega
    rw [doC_sub hs hn hu h9]
    exact sum_pos fun i hi => Int.mul_nonneg (by have := h9 i (kindsL_in hs hi); omega) (doC_pos2 hs hn h9 k _ (sub_trans (sub_sdiff hu64 (kindsL_lt hi)) hu))
/-- The sum over the first ones is no more than over all. -/
theorem sum_pre {f : Nat → Int} {j N : Nat} (hj : j ≤ N) (h : ∀ i, i < N → 0 ≤ f i) : ((List.range j).map f).sum ≤ ((List.range N).map f).sum := by
  obtain ⟨d, rfl⟩ : ∃ d, N = j + d := ⟨N - j, by omega⟩
  induction d with
  | zero => exact Int.le_refl _
  | succ d ih =>
    have h1 := ih (by omega) (fun i hi => h i (by omega))
    have h2 := h (j + d) (by omega)
    rw [show j + (d + 1) = (j + d) + 1 by omega, List.range_succ, sum_append]
    simp only [List.map_cons, List.map_nil, List.sum_cons, List.sum_nil]
    omega
end Go.Proofs.Ytlmjddlpenmpkaa
