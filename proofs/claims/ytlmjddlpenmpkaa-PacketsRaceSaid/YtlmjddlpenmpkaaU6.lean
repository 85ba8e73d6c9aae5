import Derived.Test.YtlmjddlpenmpkaaU5
namespace Go.Proofs.Ytlmjddlpenmpkaa
/-- The kinds of a set that are not in a part of it. -/
theorem out_sum (z : Nat → Int) {s t : Nat} (hs : s < 64) (ht : t < 64) (h : t &&& s = t) : ((kindsL s).map fun i => if t.testBit i then 0 else z i).sum = ofS z s - ofS z t := by
  have e : kindsL (sdiff s t) = (kindsL s).filter fun i => !t.testBit i := by
    unfold kindsL kindsTo
    rw [List.filter_filter]
    refine List.filter_congr fun i hi => ?_
    have hi := List.mem_range.1 hi
    rw [sdiff_bit hs ht hi, Bool.and_comm]
  have h1 := ofS_diff z hs ht h
  have h2 : ofS z (sdiff s t) = ((kindsL s).map fun i => if t.testBit i then 0 else z i).sum := by
    unfold ofS ofL
    rw [e, sum_filter]
    refine sum_congr fun i _ => ?_
    cases t.testBit i <;> rfl
  rw [← h2]; omega

theorem sub_trans {t u s : Nat} (h1 : t &&& u = t) (h2 : u &&& s = u) : t &&& s = t := by
  rw [← h1, Nat.and_assoc, h2]
/-- Kind by kind of a set, the sums over the parts without the kind. -/
theorem swap_parts (z f : Nat → Int) {s u : Nat} (hs : s < 64) (hu : u < 64) (h : u &&& s = u) :
    ((kindsL s).map fun i => z i * sumC f (partsL (sdiff u (2 ^ i)))).sum = sumC (fun t => f t * (ofS z s - ofS z t)) (partsL u) := by
  have e : ((kindsL s).map fun i => z i * sumC f (partsL (sdiff u (2 ^ i)))).sum = ((kindsL s).map fun i => ((partsL u).map fun t => f t * (if t.testBit i then 0 else z i)).sum).sum := by
    refine sum_congr fun i hi => ?_
    rw [← wot hu (kindsL_lt hi)]
    unfold sumC
    rw [sum_filter, ← sum_mul]
    refine sum_congr fun t _ => ?_
    cases t.testBit i <;> simp [Int.mul_comm]
  rw [e, sum_swap]
  unfold sumC
  refine sum_congr fun t ht => ?_
  rw [sum_mul, out_sum z hs (partsL_lt ht) (sub_trans (partsL_sub ht) h)]

theorem sign_all : (List.range 64).all (fun s => sumC (alC (fun _ => 1)) (partsL s) == if s = 0 then 1 else 0) = true := by decide +kernel
theorem sign_sum {s : Nat} (hs : s < 64) : sumC (alC (fun _ => 1)) (partsL s) = if s = 0 then 1 else 0 := by
  simpa using List.all_eq_true.1 sign_all s (List.mem_range.2 hs)
theorem alC_mulr (c : Nat → Int) (m : Nat → Int) (x : Nat) : alC c x * m x = alC (fun t => c t * m t) x := by
  unfold alC; split <;> simp [Int.neg_mul]
theorem alC_congr {c d : Nat → Int} {x : Nat} (h : c x = d x) : alC c x = alC d x := by unfold alC; rw [h]
theorem sumC_congr {c d : Nat → Int} {xs : List Nat} (h : ∀ x ∈ xs, c x = d x) : sumC c xs = sumC d xs := sum_congr h
theorem al_const (m : Int) {s : Nat} (hs : s < 64) : sumC (alC (fun _ => m)) (partsL s) = if s = 0 then m else 0 := by
  have e : sumC (alC (fun _ => m)) (partsL s) = sumC (fun t => m * alC (fun _ => 1) t) (partsL s) :=
    sumC_congr fun x _ => by unfold alC; split <;> simp
  rw [e, sumC_mul, sign_sum hs]; split <;> simp
theorem sumC_sub (c d : Nat → Int) : ∀ xs : List Nat, sumC (fun t => c t - d t) xs = sumC c xs - sumC d xs
  | [] => rfl
  | x :: xs => by
    have := sumC_sub c d xs
    simp only [sumC, List.map_cons, List.sum_cons] at this ⊢
    rw [this]; omega
theorem al_but (m : Int) {s : Nat} (hs : s < 64) : sumC (alC (fun t => if t = 0 then 0 else m)) (partsL s) = if s = 0 then 0 else -m := by
  have h := al_const m hs
  have e : sumC (alC (fun t => if t = 0 then 0 else m)) (partsL s) = sumC (alC (fun _ => m)) (partsL s) - m := by
    rw [parts_all s]
    have e1 : alC (fun t => if t = 0 then (0 : Int) else m) 0 = 0 := by unfold alC; simp
    have e2 : alC (fun _ => m) 0 = m := by unfold alC; rw [pop_zero]; simp
    simp only [sumC, List.map_cons, List.sum_cons, e1, e2]
    have : (((partsL s).filter (fun t => t != 0)).map (alC (fun t => if t = 0 then 0 else m))).sum = (((partsL s).filter (fun t => t != 0)).map (alC (fun _ => m))).sum :=
      sum_congr fun x hx => alC_congr (by have : x ≠ 0 := by simpa using (List.mem_filter.1 hx).2
                                          simp [this])
    rw [this]; omega
  rw [e, h]; split <;> omega

/-- The shortest wait of a part, over D; the average wait of a set, over D and all weights. -/
def vC (z : Nat → Int) (D t : Nat) : Int := if t = 0 then 0 else (D : Int) / ofS z t
def mX (z : Nat → Int) (D s : Nat) : Int := - sumC (alC (vC z D)) (partsL s)
theorem mX_zero (z : Nat → Int) (D : Nat) : mX z D 0 = 0 := by
  have e : partsL 0 = [0] := by decide +kernel
  unfold mX; rw [e]; unfold sumC alC vC; simp
/-- Kind by kind. -/
theorem mX_step {z : Nat → Int} {D s u : Nat} (hs : s < 64) (hu : u < 64) (h : u &&& s = u) (hD : ∀ t ∈ partsL u, t ≠ 0 → ofS z t ∣ (D : Int)) :
    ((kindsL s).map fun i => z i * mX z D (sdiff u (2 ^ i))).sum = ofS z s * mX z D u - if u = 0 then 0 else (D : Int) := by
  have h1 := swap_parts z (alC (vC z D)) hs hu h
  have e1 : ((kindsL s).map fun i => z i * mX z D (sdiff u (2 ^ i))).sum = - ((kindsL s).map fun i => z i * sumC (alC (vC z D)) (partsL (sdiff u (2 ^ i)))).sum := by
    have := sum_mul (-1) (fun i => z i * sumC (alC (vC z D)) (partsL (sdiff u (2 ^ i)))) (kindsL s)
    rw [show ∀ x : Int, -x = -1 * x by intro x; omega, ← this]
    refine sum_congr fun i _ => ?_
    unfold mX; grind
  rw [e1, h1]
  have e2 : sumC (fun t => alC (vC z D) t * (ofS z s - ofS z t)) (partsL u) = ofS z s * sumC (alC (vC z D)) (partsL u) - sumC (alC (fun t => if t = 0 then 0 else (D : Int))) (partsL u) := by
    rw [← sumC_mul, ← sumC_sub]
    refine sumC_congr fun t ht => ?_
    have e3 : alC (vC z D) t * ofS z t = alC (fun t => if t = 0 then 0 else (D : Int)) t := by
      rw [alC_mulr]
      refine alC_congr ?_
      unfold vC
      by_cases h0 : t = 0
      · simp [h0]
      · simp only [h0, if_false]; exact Int.ediv_mul_cancel (hD t ht h0)
    rw [← e3]; grind
  rw [e2, al_but _ hu]
  unfold mX
  split <;> grind
end Go.Proofs.Ytlmjddlpenmpkaa
