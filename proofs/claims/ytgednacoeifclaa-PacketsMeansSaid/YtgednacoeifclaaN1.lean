import Derived.Test.YtgednacoeifclaaD5
/-
  How often a set is there: one packet more.
-/
namespace Go.Proofs.Ytgednacoeifclaa

theorem sum_add (f g : Nat → Int) : ∀ xs : List Nat, (xs.map fun x => f x + g x).sum = (xs.map f).sum + (xs.map g).sum
  | [] => rfl
  | x :: xs => by have := sum_add f g xs; simp only [List.map_cons, List.sum_cons, this]; omega
theorem sum_mul (c : Int) (f : Nat → Int) : ∀ xs : List Nat, (xs.map fun x => c * f x).sum = c * (xs.map f).sum
  | [] => by simp
  | x :: xs => by have := sum_mul c f xs; simp only [List.map_cons, List.sum_cons, this, Int.mul_add]
theorem sum_zero : ∀ xs : List Nat, (xs.map fun _ => (0 : Int)).sum = 0
  | [] => rfl
  | _ :: xs => by have := sum_zero xs; simp only [List.map_cons, List.sum_cons, this]; rfl
/-- Two sums may be exchanged. -/
theorem sum_swap (f : Nat → Nat → Int) (ys : List Nat) : ∀ xs : List Nat, (xs.map fun x => (ys.map fun y => f x y).sum).sum = (ys.map fun y => (xs.map fun x => f x y).sum).sum
  | [] => by simp [sum_zero]
  | x :: xs => by
    have ih := sum_swap f ys xs
    simp only [List.map_cons, List.sum_cons]
    rw [ih, ← sum_add]
theorem sum_congr {f g : Nat → Int} {xs : List Nat} (h : ∀ x ∈ xs, f x = g x) : (xs.map f).sum = (xs.map g).sum := congrArg List.sum (List.map_congr_left h)
theorem sum_le {f g : Nat → Int} : ∀ {xs : List Nat}, (∀ x ∈ xs, f x ≤ g x) → (xs.map f).sum ≤ (xs.map g).sum
  | [], _ => by simp
  | x :: xs, h => by
    have h1 := h x (List.mem_cons_self ..)
    have h2 := sum_le (f := f) (g := g) (xs := xs) (fun y hy => h y (List.mem_cons_of_mem _ hy))
    simp only [List.map_cons, List.sum_cons]
    omega
theorem sum_filter (p : Nat → Bool) (f : Nat → Int) : ∀ xs : List Nat, ((xs.filter p).map f).sum = (xs.map fun x => if p x then f x else 0).sum
  | [] => rfl
  | x :: xs => by
    have ih := sum_filter p f xs
    cases h : p x
    · simp [h, ih]
    · simp [h, ih]

/-- The weights outside a set. -/
theorem ofS_out (z : Nat → Int) {n t : Nat} (ht : t < 2 ^ n) (hn : n ≤ 6) : ofS z (sdiff (2 ^ n - 1) t) = ((List.range n).map fun i => if t.testBit i then 0 else z i).sum := by
  have hsd : sdiff (2 ^ n - 1) t < 2 ^ n := Nat.lt_of_le_of_lt (sdiff_le _ _) (full_lt hn)
  have e : kindsL (sdiff (2 ^ n - 1) t) = (List.range n).filter fun i => !t.testBit i := by
    rw [← kindsTo_end hsd hn]
    unfold kindsTo
    refine List.filter_congr fun i hi => ?_
    have hi := List.mem_range.1 hi
    rw [sdiff_bit (lt64 (full_lt hn) hn) (lt64 ht hn) (by omega), Nat.testBit_two_pow_sub_one]
    simp [hi]
  unfold ofS ofL
  rw [e, sum_filter]
  refine sum_congr fun i _ => ?_
  cases t.testBit i <;> rfl

/-- The parts without a kind. -/
def wotB (s i : Nat) : Bool := (partsL s).filter (fun t => !t.testBit i) == partsL (sdiff s (2 ^ i))
theorem wot_all : (List.range 64).all (fun s => (List.range 6).all (wotB s)) = true := by decide +kernel
theorem wot {s i : Nat} (hs : s < 64) (hi : i < 6) : (partsL s).filter (fun t => !t.testBit i) = partsL (sdiff s (2 ^ i)) := by
  simpa [wotB] using List.all_eq_true.1 (List.all_eq_true.1 wot_all s (List.mem_range.2 hs)) i (List.mem_range.2 hi)

theorem alC_mul (c : Nat → Int) (m : Int) (x : Nat) : alC (fun t => c t * m) x = alC c x * m := by
  unfold alC; split <;> simp [Int.neg_mul]

/-- How often a set is there after one packet more: the first packet has one of the kinds. -/
theorem doC_succ {z : Nat → Int} {n s k : Nat} (hs : s < 2 ^ n) (hn : n ≤ 6) (h9 : ∀ j, j < n → 1 ≤ z j ∧ z j ≤ 9) :
    doC z (2 ^ n - 1) s (k + 1) = ((List.range n).map fun i => z i * doC z (2 ^ n - 1) (sdiff s (2 ^ i)) k).sum := by
  have hs64 := lt64 hs hn
  have e1 : doC z (2 ^ n - 1) s (k + 1) = ((partsL s).map fun t => ((List.range n).map fun i => alC (woC z (2 ^ n - 1) k) t * (if t.testBit i then 0 else z i)).sum).sum := by
    unfold doC sumC
    refine sum_congr fun t ht => ?_
    have ht2 := partsL_lt2 hs ht
    have hb := of_bd (z := z) (Nat.lt_of_le_of_lt (sdiff_le (2 ^ n - 1) t) (full_lt hn)) h9
    rw [sum_mul, ← ofS_out z ht2 hn]
    have e : woC z (2 ^ n - 1) (k + 1) t = woC z (2 ^ n - 1) k t * ofS z (sdiff (2 ^ n - 1) t) := by
      unfold woC
      rw [Nat.pow_succ, Int.natCast_mul]
      have : (((ofS z (sdiff (2 ^ n - 1) t)).toNat : Nat) : Int) = ofS z (sdiff (2 ^ n - 1) t) := by omega
      rw [this]
    unfold alC
    split <;> rw [e] <;> simp [Int.neg_mul]
  rw [e1, sum_swap]
  refine sum_congr fun i hi => ?_
  have hi := List.mem_range.1 hi
  unfold doC sumC
  rw [← wot hs64 (by omega), sum_filter, ← sum_mul]
  refine sum_congr fun t _ => ?_
  cases t.testBit i <;> simp [Int.mul_comm]

theorem doC_zero (z : Nat → Int) (full : Nat) {s : Nat} (hs : s < 64) : doC z full s 0 = if s = 0 then 1 else 0 := by
  have e : doC z full s 0 = sumC (alC (fun _ => 1)) (partsL s) := by
    unfold doC sumC
    refine sum_congr fun t _ => ?_
    unfold alC woC
    simp
  have all : (List.range 64).all (fun s => sumC (alC (fun _ => 1)) (partsL s) == if s = 0 then 1 else 0) = true := by decide +kernel
  rw [e]
  simpa using List.all_eq_true.1 all s (List.mem_range.2 hs)

theorem sdiff_lt {s t n : Nat} (hs : s < 2 ^ n) : sdiff s t < 2 ^ n := Nat.lt_of_le_of_lt (sdiff_le _ _) hs

theorem doC_pos {z : Nat → Int} {n : Nat} (hn : n ≤ 6) (h9 : ∀ j, j < n → 1 ≤ z j ∧ z j ≤ 9) : ∀ (k s : Nat), s < 2 ^ n → 0 ≤ doC z (2 ^ n - 1) s k
  | 0, s, hs => by rw [doC_zero _ _ (lt64 hs hn)]; split <;> omega
  | k + 1, s, hs => by
    rw [doC_succ hs hn h9]
    have h := sum_le (f := fun _ => 0) (g := fun i => z i * doC z (2 ^ n - 1) (sdiff s (2 ^ i)) k) (xs := List.range n) (fun i hi => Int.mul_nonneg (by have := h9 i (List.mem_range.1 hi); omega) (doC_pos hn h9 k _ (sdiff_lt hs)))
    rw [sum_zero] at h
    exact h

/-- A part of a set stays one without a kind. -/
def subB (s u : Nat) : Bool := !(u &&& s == u) || (List.range 6).all fun i => sdiff u (2 ^ i) &&& sdiff s (2 ^ i) == sdiff u (2 ^ i)
theorem sub_all : (List.range 64).all (fun s => (List.range 64).all (subB s)) = true := by decide +kernel
theorem sub_less {s u i : Nat} (hs : s < 64) (hu : u < 64) (hi : i < 6) (h : u &&& s = u) : sdiff u (2 ^ i) &&& sdiff s (2 ^ i) = sdiff u (2 ^ i) := by
  have h1 := List.all_eq_true.1 (List.all_eq_true.1 sub_all s (List.mem_range.2 hs)) u (List.mem_range.2 hu)
  simp only [subB, h, beq_self_eq_true, Bool.not_true, Bool.false_or] at h1
  simpa using List.all_eq_true.1 h1 i (List.mem_range.2 hi)

/-- The more is wanted, the less often it is there. -/
theorem doC_more {z : Nat → Int} {n : Nat} (hn : n ≤ 6) (h9 : ∀ j, j < n → 1 ≤ z j ∧ z j ≤ 9) : ∀ (k s u : Nat), s < 2 ^ n → u < 2 ^ n → u &&& s = u → doC z (2 ^ n - 1) s k ≤ doC z (2 ^ n - 1) u k
  | 0, s, u, hs, hu, h => by
    rw [doC_zero _ _ (lt64 hs hn), doC_zero _ _ (lt64 hu hn)]
    by_cases e : s = 0
    · subst e
      have : u = 0 := by rw [← h]; simp
      subst this; simp
    · simp [e]; split <;> omega
  | k + 1, s, u, hs, hu, h => by
    rw [doC_succ hs hn h9, doC_succ hu hn h9]
    refine sum_le fun i hi => ?_
    have hi := List.mem_range.1 hi
    exact Int.mul_le_mul_of_nonneg_left (doC_more hn h9 k _ _ (sdiff_lt hs) (sdiff_lt hu) (sub_less (lt64 hs hn) (lt64 hu hn) (by omega) h)) (by have := h9 i hi; omega)

theorem ofS_full (z : Nat → Int) {n : Nat} (hn : n ≤ 6) : ofS z (2 ^ n - 1) = ((List.range n).map z).sum := by
  unfold ofS ofL; rw [kinds_full hn]
theorem sdiff_sub : ∀ s i : Nat, sdiff s (2 ^ i) &&& s = sdiff s (2 ^ i) ∨ 64 ≤ s ∨ 6 ≤ i := by
  intro s i
  by_cases hs : s < 64
  · by_cases hi : i < 6
    · left
      have all : (List.range 64).all (fun s => (List.range 6).all fun i => sdiff s (2 ^ i) &&& s == sdiff s (2 ^ i)) = true := by decide +kernel
      simpa using List.all_eq_true.1 (List.all_eq_true.1 all s (List.mem_range.2 hs)) i (List.mem_range.2 hi)
    · right; right; omega
  · right; left; omega

/-- With one packet more it is there no less often. -/
theorem doC_later {z : Nat → Int} {n s k : Nat} (hs : s < 2 ^ n) (hn : n ≤ 6) (h9 : ∀ j, j < n → 1 ≤ z j ∧ z j ≤ 9) : ofS z (2 ^ n - 1) * doC z (2 ^ n - 1) s k ≤ doC z (2 ^ n - 1) s (k + 1) := by
  rw [doC_succ hs hn h9, ofS_full z hn]
  have e : ((List.range n).map z).sum * doC z (2 ^ n - 1) s k = ((List.range n).map fun i => doC z (2 ^ n - 1) s k * z i).sum := by rw [sum_mul, Int.mul_comm]
  rw [e]
  refine sum_le fun i hi => ?_
  have hi := List.mem_range.1 hi
  rw [Int.mul_comm]
  refine Int.mul_le_mul_of_nonneg_left (doC_more hn h9 k _ _ hs (sdiff_lt hs) ?_) (by have := h9 i hi; omega)
  rcases sdiff_sub s i with h | h | h
  · exact h
  · have := lt64 hs hn; omega
  · omega

theorem doC_none {z : Nat → Int} {n k : Nat} (_hn : n ≤ 6) (_h1n : 1 ≤ n) (_h9 : ∀ j, j < n → 1 ≤ z j ∧ z j ≤ 9) : doC z (2 ^ n - 1) 0 k = (LK z n k : Nat) := by
  have hp : partsL 0 = [0] := by decide +kernel
  unfold doC sumC
  rw [hp]
  have e : sdiff (2 ^ n - 1) 0 = 2 ^ n - 1 := by simp [sdiff]
  have hp0 : ¬ pop 0 % 2 = 1 := by decide +kernel
  simp only [List.map_cons, List.map_nil, List.sum_cons, List.sum_nil, alC, hp0, if_false, woC, e]
  unfold LK
  omega
/-- It is a chance. -/
theorem doC_one {z : Nat → Int} {n s k : Nat} (hs : s < 2 ^ n) (hn : n ≤ 6) (h1n : 1 ≤ n) (h9 : ∀ j, j < n → 1 ≤ z j ∧ z j ≤ 9) : 0 ≤ doC z (2 ^ n - 1) s k ∧ doC z (2 ^ n - 1) s k ≤ (LK z n k : Nat) := by
  refine ⟨doC_pos hn h9 k s hs, ?_⟩
  rw [← doC_none hn h1n h9]
  exact doC_more hn h9 k s 0 hs (Nat.pow_pos (by decide)) (by simp)
end Go.Proofs.Ytgednacoeifclaa
