import Derived.Test.YtlmjddlpenmpkaaU7
namespace Go.Proofs.Ytlmjddlpenmpkaa
/-- The chance that kind k comes before all of a part, over D; that it is the last of itself and a set. -/
def lC (z : Nat → Int) (D k t : Nat) : Int := z k * (D : Int) / (z k + ofS z t)
def lX (z : Nat → Int) (D k r : Nat) : Int := sumC (alC (lC z D k)) (partsL r)
def LOk (z : Nat → Int) (D k r : Nat) : Prop := ∀ t ∈ partsL r, z k + ofS z t ∣ z k * (D : Int)
theorem LOk.sub {z : Nat → Int} {D k r u : Nat} (h : LOk z D k r) (hu : u &&& r = u) : LOk z D k u := fun t ht => h t (parts_sub hu ht)
/-- Kind by kind. -/
theorem lX_step {z : Nat → Int} {D k r : Nat} (hr : r < 64) (hD : LOk z D k r) :
    ((kindsL r).map fun i => z i * lX z D k (sdiff r (2 ^ i))).sum = (z k + ofS z r) * lX z D k r - if r = 0 then z k * (D : Int) else 0 := by
  have h1 := swap_parts z (alC (lC z D k)) hr hr (sub_self r)
  unfold lX
  rw [h1, ← al_const _ hr, ← sumC_mul, ← sumC_sub]
  refine sumC_congr fun t ht => ?_
  have e3 : alC (lC z D k) t * (z k + ofS z t) = alC (fun _ => z k * (D : Int)) t := by
    rw [alC_mulr (lC z D k) (fun t => z k + ofS z t)]
    refine alC_congr ?_
    unfold lC
    exact Int.ediv_mul_cancel (hD t ht)
  rw [← e3]; grind
theorem lX_zero {z : Nat → Int} {D k : Nat} (hz : z k ≠ 0) : lX z D k 0 = D := by
  have e : partsL 0 = [0] := by decide +kernel
  have e2 : ofS z 0 = 0 := by unfold ofS; rw [show kindsL 0 = [] by decide +kernel]; rfl
  unfold lX; rw [e]; unfold sumC alC lC
  simp only [List.map_cons, List.map_nil, List.sum_cons, List.sum_nil, pop_zero, e2]
  simp
  exact Int.mul_ediv_cancel_left _ hz

theorem lX_pos {z : Nat → Int} {n k D : Nat} (hk : k < n) (hn : n ≤ 6) (h9 : ∀ j, j < n → 1 ≤ z j ∧ z j ≤ 9) : ∀ r : Nat, r < 2 ^ n → LOk z D k r → 0 ≤ lX z D k r := by
  intro r
  induction r using Nat.strongRecOn with
  | _ r ih =>
    intro hr hD
    have hzk := h9 k hk
    by_cases h0 : r = 0
    · subst h0; rw [lX_zero (by omega)]; omega
    · have hr64 := lt64 hr hn
      have hstep := lX_step hr64 hD
      rw [if_neg h0] at hstep
      have hp : 0 ≤ ((kindsL r).map fun i => z i * lX z D k (sdiff r (2 ^ i))).sum := sum_pos fun i hi => by
        have hi6 := kindsL_lt hi
        exact Int.mul_nonneg (by have := h9 i (kindsL_in hr hi); omega) (ih _ (sdiff_less hr64 hi6 (kinds_bit hi)) (sdiff_lt hr) (hD.sub (sub_sdiff hr64 hi6)))
      have ho := (of_pos hr hn h0 h9).1
      have : 0 ≤ (z k + ofS z r) * lX z D k r := by omega
      exact Int.nonneg_of_mul_nonneg_right this (by omega)

/-- The parts with a kind. -/
def witB (s k : Nat) : Bool := !s.testBit k || ((partsL (sdiff s (2 ^ k))).map (fun t => t + 2 ^ k) == (partsL s).filter (fun u => u.testBit k)) && (partsL (sdiff s (2 ^ k))).all fun t => (pop (t + 2 ^ k) == pop t + 1) && (sdiff (t + 2 ^ k) (2 ^ k) == t) && decide (t + 2 ^ k < 64) && (2 ^ k &&& (t + 2 ^ k) == 2 ^ k)
theorem wit_all : (List.range 64).all (fun s => (List.range 6).all (witB s)) = true := by decide +kernel
theorem of_two {z : Nat → Int} {i : Nat} (hi : i < 6) : ofS z (2 ^ i) = z i := by
  have e : i = 0 ∨ i = 1 ∨ i = 2 ∨ i = 3 ∨ i = 4 ∨ i = 5 := by omega
  have k3 : kindsL (2 ^ i) = [i] := by
    rcases e with rfl | rfl | rfl | rfl | rfl | rfl <;> decide +kernel
  unfold ofS ofL; rw [k3]; simp
/-- One of the kinds of a set comes last. -/
theorem lX_all {z : Nat → Int} {D s : Nat} (hs : s < 64) (h0 : s ≠ 0) (hD : DOk z D s) : ((kindsL s).map fun k => lX z D k (sdiff s (2 ^ k))).sum = D := by
  have key : ∀ k ∈ kindsL s, lX z D k (sdiff s (2 ^ k)) = ((partsL s).map fun u => -(alC (vC z D) u) * (if u.testBit k then z k else 0)).sum := by
    intro k hk
    have hk6 := kindsL_lt hk
    have h := List.all_eq_true.1 (List.all_eq_true.1 wit_all s (List.mem_range.2 hs)) k (List.mem_range.2 hk6)
    simp only [witB, kinds_bit hk, Bool.not_true, Bool.false_or, Bool.and_eq_true, beq_iff_eq, List.all_eq_true, decide_eq_true_eq] at h
    have e1 : ((partsL s).map fun u => -(alC (vC z D) u) * (if u.testBit k then z k else 0)).sum = (((partsL s).filter (fun u => u.testBit k)).map fun u => -(alC (vC z D) u) * z k).sum := by
      rw [sum_filter]
      refine sum_congr fun u _ => ?_
      cases u.testBit k <;> simp
    rw [e1, ← h.1, List.map_map]
    unfold lX sumC
    refine sum_congr fun t ht => ?_
    obtain ⟨⟨⟨p1, p2⟩, p3⟩, p4⟩ := h.2 t ht
    have hof := ofS_diff z p3 (show 2 ^ k < 64 by have : 2 ^ k < 2 ^ 6 := Nat.pow_lt_pow_right (by decide) hk6; omega) p4
    rw [p2, of_two hk6] at hof
    have hne : t + 2 ^ k ≠ 0 := by have : 0 < 2 ^ k := Nat.pow_pos (by decide); omega
    have hin : t + 2 ^ k ∈ partsL s := by
      have : t + 2 ^ k ∈ (partsL s).filter (fun u => u.testBit k) := by rw [← h.1]; exact List.mem_map_of_mem ht
      exact (List.mem_filter.1 this).1
    have hdv := hD _ hin hne
    have hv : lC z D k t = vC z D (t + 2 ^ k) * z k := by
      unfold lC vC
      rw [if_neg hne, ← hof, show z k + ofS z t = ofS z t + z k by omega]
      rw [← hof] at hdv
      rw [Int.mul_ediv_assoc _ hdv, Int.mul_comm]
    simp only [Function.comp]
    unfold alC
    rw [p1]
    have : pop t % 2 = 1 ∨ pop t % 2 = 0 := by omega
    rcases this with e | e
    · rw [if_pos e, if_neg (show ¬ (pop t + 1) % 2 = 1 by omega), hv, Int.neg_mul]
    · rw [if_neg (show ¬ pop t % 2 = 1 by omega), if_pos (show (pop t + 1) % 2 = 1 by omega), hv, Int.neg_neg]
  have e1 : ((kindsL s).map fun k => lX z D k (sdiff s (2 ^ k))).sum = ((kindsL s).map fun k => ((partsL s).map fun u => -(alC (vC z D) u) * (if u.testBit k then z k else 0)).sum).sum := sum_congr key
  rw [e1, sum_swap]
  have e2 : ((partsL s).map fun u => ((kindsL s).map fun k => -(alC (vC z D) u) * (if u.testBit k then z k else 0)).sum).sum = ((partsL s).map fun u => -(alC (fun t => if t = 0 then 0 else (D : Int)) u)).sum := by
    refine sum_congr fun u hu => ?_
    rw [sum_mul]
    have h1 := out_sum z hs (partsL_lt hu) (partsL_sub hu)
    have h2 : ((kindsL s).map fun k => if u.testBit k then z k else 0).sum = ofS z u := by
      have h3 : ((kindsL s).map fun k => (if u.testBit k then z k else 0) + (if u.testBit k then 0 else z k)).sum = ofS z s := by
        unfold ofS ofL
        refine sum_congr fun k _ => ?_
        cases u.testBit k <;> simp
      rw [sum_add, h1] at h3
      omega
    rw [h2, Int.neg_mul, alC_mulr]
    refine congrArg (- ·) (alC_congr ?_)
    unfold vC
    by_cases hu0 : u = 0
    · simp [hu0]
    · simp only [hu0, if_false]; exact Int.ediv_mul_cancel (hD u hu hu0)
  rw [e2]
  have h3 := al_but (D : Int) hs
  rw [if_neg h0] at h3
  have h4 := sum_mul (-1) (alC (fun t => if t = 0 then 0 else (D : Int))) (partsL s)
  have h5 : ((partsL s).map fun u => -(alC (fun t => if t = 0 then 0 else (D : Int)) u)).sum = ((partsL s).map fun u => -1 * (alC (fun t => if t = 0 then 0 else (D : Int)) u)).sum := sum_congr fun u _ => by omega
  unfold sumC at h3
  rw [h5, h4, h3]; omega
end Go.Proofs.Ytlmjddlpenmpkaa
