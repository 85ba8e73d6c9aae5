import Derived.Test.YtgednacoeifclaaU5
namespace Go.Proofs.Ytgednacoeifclaa
/-- The kinds of a set that are not in a part of it. -/
theorem out_sum (z : Nat → Int) {s t : Nat} (hs : s < 64) (ht : t < 64) (h : t &&& s = t) : ((kindsL s).map fun i => if t.testBit i then 0 else z i).sum = ofS z s - ofS z t := by
  have e : kindsL (sdiff s t) = (kindsL s).filter fun i => !t.testBit i := by
    unfold kindsL kindsTo
    rw [List.filter_filter]
    refine List.filter_congr fun i hi => ?_
    have hi := List.mem_range.1 hi
    rw [sdiff_bit hs ht hi, Bool.and_comm]
  have h1 := ofS_diff z hs ht h
  have h2 : ofS z (sdiff s t) = ((kindsL s).map fun i => if t.testBit i then 0 else z i).sum := by
    unfold ofS ofL
    rw [e, sum_filter]
    refine sum_congr fun i _ => ?_
    cases t.testBit i <;> rfl
  rw [← h2]; omega

theorem sub_trans {t u s : Nat} (h1 : t &&& u = t) (h2 : u &&& s = u) : t &&& s = t := by
  rw [← h1, Nat.and_assoc, h2]
/-- Kind by kind of a set, the sums over the parts without the kind. -/
theorem swap_parts (z f : Nat → Int) {s u : Nat} (hs : s < 64) (hu : u < 64) (h : u &&& s = u) :
    ((kindsL s).map fun i => z i * sumC f (partsL (sdiff u (2 ^ i)))).sum = sumC (fun t => f t * (ofS z s - ofS z t)) (partsL u) := by
  have e : ((kindsL s).map fun i => z i * sumC f (partsL (sdiff u (2 ^ i)))).sum = ((kindsL s).map fun i => ((partsL u).map fun t => f t * (if t.testBit i then 0 else z i)).sum).sum := by
    refine sum_congr fun i hi => ?_
    rw [← wot hu (kindsL_lt hi)]
    unfold sumC
    rw [sum_filter, ← sum_mul]
    refine sum_congr fun t _ => ?_
    cases t.testBit i <;> simp [Int.mul_comm]
  rw [e, sum_swap]
  unfold sumC
  refine sum_congr fun t ht => ?_
  rw [sum_mul, out_sum z hs (partsL_lt ht) (sub_trans (partsL_sub ht) h)]

theorem sign_all : (List.range 64).all (fun s => sumC (alC (fun _ => 1)) (partsL s) == if s = 0 then 1 else 0) = true := by decide +kernel
theorem sign_sum {s : Nat} (hs : s < 64) : sumC (alC (fun _ => 1)) (partsL s) = if s = 0 then 1 else 0 := by
  simpa using List.all_eq_true.1 sign_all s (List.mem_range.2 hs)
theorem alC_mulr (c : Nat → Int) (m : Nat → Int) (x : Nat) : alC c x * m x = alC (fun t => c t * m t) x := by
  unfold alC; split <;> simp [Int.neg_mul]
theorem alC_congr {c d : Nat → Int} {x : Nat} (h : c x = d x) : alC c x = alC d x := by unfold alC; rw [h]
theorem sumC_congr {c d : Nat → Int} {xs : List Nat} (h : ∀ x ∈ xs, c x = d x) : sumC c xs = sumC d xs := sum_congr h
theorem al_const (m : Int) {s : Nat} (hs : s < 64) : sumC (alC (fun _ => m)) (partsL s) = if s = 0 then m else 0 := by
  have e : sumC (alC (fun _ => m)) (partsL s) = sumC (fun t => m * alC (fun _ => 1) t) (partsL s) :=
    sumC_congr fun x _ => by unfold alC; split <;> simp
  rw [e, sumC_mul, sign_sum hs]; split <;> simp
theorem sumC_sub (c d : Nat → Int) : ∀ xs : List Nat, sumC (fun t => c t - d t) xs = sumC c xs - sumC d xs
  | [] => rfl
  | x :: xs => by
    have := sumC_sub c d xs
    simp only [sumC, List.map_cons, List.sum_cons] at this ⊢
    rw [this]; omega
theorem al_but (m : Int) {s : Nat} (hs : s < 64) : sumC (alC (fun t => if t = 0 then 0 else m)) (partsL s) = if s = 0 then 0 else -m := by
  have h := al_const m hs
  have e : sumC (alC (fun t => if t = 0 then 0 else m)) (partsL s) = sumC (alC (fun _ => m)) (partsL s) - m := by
    rw [parts_all s]
    have e1 : alC (fun t => if t = 0 then (0 : Int) else m) 0 = 0 := by unfold alC; simp
    have e2 : alC (fun _ => m) 0 = m := by unfold alC; rw [pop_zero]; simp
    simp only [sumC, List.map_cons, List.sum_cons, e1, e2]
    have : (((partsL s).filter (fun t => t != 0)).map (alC (fun t => if t = 0 then 0 else m))).sum = (((partsL s).filter (fun t => t != 0)).map (alC (fun _ => m))).sum :=
      sum_congr fun x hx => alC_congr (by have : x ≠ 0 := by simpa using (List.mem_filter.1 hx).2
                                          simp [this])
    rw [this]; omega
  rw [e, h]; split <;> omega

/-- The shortest wait of a part, over D; the average wait of a set, over D and all weights. -/
def vC (z : Nat → Int) (D t : Nat) : Int := if t = 0 then 0 else (D : Int) / ofS z t
def mX (z : Nat → Int) (D s : Nat) : Int := - sumC (alC (vC z D)) (partsL s)
theorem mX_zero (z : Nat → Int) (D : Nat) : mX z D 0 = 0 := by
  have e : partsL 0 = [0] := by decide +kernel
  unfold mX; rw [e]; unfold sumC alC vC; simp
/-- Kind by kind. -/
theorem mX_step {z : Nat → Int} {D s u : Nat} (hs : s < 64) (hu : u < 64) (h : u &&& s = u) (hD : ∀ t ∈ partsL u, t ≠ 0 → ofS z t ∣ (D : Int)) :
    ((kindsL s).map fun i => z i * mX z D (sdiff u (2 ^ i))).sum = ofS z s * mX z D u - if u = 0 then 0 else (D : Int) := by
  have h1 := swap_parts z (alC (vC z D)) hs hu h
  have e1 : ((kindsL s).map fun i => z i * mX z D (sdiff u (2 ^ i))).sum = - ((kindsL s).map fun i => z i * sumC (alC (vC z D)) (partsL (sdiff u (2 ^ i)))).sum := by
    have := sum_mul (-1) (fun i => z i * sumC (alC (vC z D)) (partsL (sdiff u (2 ^ i)))) (kindsL s)
    rw [show ∀ x : Int, -x = -1 * x by intro x; omega, ← this]
    refine sum_congr fun i _ => ?_
    unfold mX; grind
  rw [e1, h1]
  have e2 : sumC (fun t => alC (vC z D) t * (ofS z s - ofS z t)) (partsL u) = ofS z s * sumC (alC (vC z D)) (partsL u) - sumC (alC (fun t => if t = 0 then 0 else (D : Int))) (partsL u) := by
    rw [← sumC_mul, ← sumC_sub]
    refine sumC_congr fun t ht => ?_
    have e3 : alC (vC z D) t * ofS z t = alC (fun t => if t = 0 then 0 else (D : Int)) t := by
      rw [alC_mulr]
      refine alC_congr ?_
      unfold vC
      by_cases h0 : t = 0
      · simp [h0]
      · simp only [h0, if_false]; exact Int.ediv_mul_cancel (hD t ht h0)
    rw [← e3]; grind
  rw [e2, al_but _ hu]
  unfold mX
  split <;> grind

theorem sdiff_less {u i : Nat} (hu : u < 64) (hi : i < 6) (h : u.testBit i = true) : sdiff u (2 ^ i) < u := by
  have all : (List.range 64).all (fun u => (List.range 6).all fun i => !u.testBit i || decide (sdiff u (2 ^ i) < u)) = true := by decide +kernel
  have := List.all_eq_true.1 (List.all_eq_true.1 all u (List.mem_range.2 hu)) i (List.mem_range.2 hi)
  simpa [h] using this
theorem sdiff_none {u i : Nat} (hu : u < 64) (hi : i < 6) (h : u.testBit i = false) : sdiff u (2 ^ i) = u := by
  have all : (List.range 64).all (fun u => (List.range 6).all fun i => u.testBit i || (sdiff u (2 ^ i) == u)) = true := by decide +kernel
  have := List.all_eq_true.1 (List.all_eq_true.1 all u (List.mem_range.2 hu)) i (List.mem_range.2 hi)
  simpa [h] using this
theorem kinds_bit {s i : Nat} (h : i ∈ kindsL s) : s.testBit i = true := by simpa using (List.mem_filter.1 h).2
theorem sub_self (s : Nat) : s &&& s = s := Nat.and_self s
theorem sub_sdiff {u i : Nat} (hu : u < 64) (hi : i < 6) : sdiff u (2 ^ i) &&& u = sdiff u (2 ^ i) := by
  have all : (List.range 64).all (fun u => (List.range 6).all fun i => sdiff u (2 ^ i) &&& u == sdiff u (2 ^ i)) = true := by decide +kernel
  simpa using List.all_eq_true.1 (List.all_eq_true.1 all u (List.mem_range.2 hu)) i (List.mem_range.2 hi)
theorem parts_sub {s u t : Nat} (h : u &&& s = u) (ht : t ∈ partsL u) : t ∈ partsL s :=
  List.mem_filter.2 ⟨List.mem_range.2 (partsL_lt ht), by simpa using sub_trans (partsL_sub ht) h⟩

/-- What D must be for, of a set. -/
def DOk (z : Nat → Int) (D s : Nat) : Prop := ∀ t ∈ partsL s, t ≠ 0 → ofS z t ∣ (D : Int)
theorem DOk.sub {z : Nat → Int} {D s u : Nat} (h : DOk z D s) (hu : u &&& s = u) : DOk z D u := fun t ht h0 => h t (parts_sub hu ht) h0
theorem sum_pos {f : Nat → Int} {xs : List Nat} (h : ∀ x ∈ xs, 0 ≤ f x) : 0 ≤ (xs.map f).sum := by
  have := sum_le (f := fun _ => 0) (g := f) (xs := xs) h
  rwa [sum_zero] at this

theorem mX_pos {z : Nat → Int} {n D : Nat} (hn : n ≤ 6) (h9 : ∀ j, j < n → 1 ≤ z j ∧ z j ≤ 9) : ∀ s : Nat, s < 2 ^ n → DOk z D s → 0 ≤ mX z D s := by
  intro s
  induction s using Nat.strongRecOn with
  | _ s ih =>
    intro hs hD
    by_cases h0 : s = 0
    · subst h0; rw [mX_zero]; omega
    · have hs64 := lt64 hs hn
      have hstep := mX_step hs64 hs64 (sub_self s) hD
      rw [if_neg h0] at hstep
      have hp : 0 ≤ ((kindsL s).map fun i => z i * mX z D (sdiff s (2 ^ i))).sum := sum_pos fun i hi => by
        have hi6 := kindsL_lt hi
        exact Int.mul_nonneg (by have := h9 i (kindsL_in hs hi); omega) (ih _ (sdiff_less hs64 hi6 (kinds_bit hi)) (sdiff_lt hs) (hD.sub (sub_sdiff hs64 hi6)))
      have ho := (of_pos hs hn h0 h9).1
      have : 0 ≤ ofS z s * mX z D s := by omega
      exact Int.nonneg_of_mul_nonneg_right this (by omega)

/-- With more kinds it takes no less. -/
theorem mX_more {z : Nat → Int} {n D : Nat} (hn : n ≤ 6) (h9 : ∀ j, j < n → 1 ≤ z j ∧ z j ≤ 9) : ∀ s u : Nat, s < 2 ^ n → u &&& s = u → DOk z D s → mX z D u ≤ mX z D s := by
  intro s
  induction s using Nat.strongRecOn with
  | _ s ih =>
    intro u hs hu hD
    by_cases h0 : s = 0
    · subst h0
      have : u = 0 := by rw [← hu]; simp
      subst this; exact Int.le_refl _
    · have hs64 := lt64 hs hn
      have hul : u ≤ s := by rw [← hu]; exact Nat.and_le_right
      have hu64 : u < 64 := by omega
      have st1 := mX_step hs64 hs64 (sub_self s) hD
      have st2 := mX_step hs64 hu64 hu (hD.sub hu)
      rw [if_neg h0] at st1
      have hle : ((kindsL s).map fun i => z i * mX z D (sdiff u (2 ^ i))).sum ≤ ((kindsL s).map fun i => z i * mX z D (sdiff s (2 ^ i))).sum := sum_le fun i hi => by
        have hi6 := kindsL_lt hi
        exact Int.mul_le_mul_of_nonneg_left (ih _ (sdiff_less hs64 hi6 (kinds_bit hi)) _ (sdiff_lt hs) (sub_less hs64 hu64 hi6 hu) (hD.sub (sub_sdiff hs64 hi6))) (by have := h9 i (kindsL_in hs hi); omega)
      have ho := (of_pos hs hn h0 h9).1
      have h2 : ofS z s * mX z D u ≤ ofS z s * mX z D s := by
        have : (if u = 0 then (0 : Int) else (D : Int)) ≤ D := by split <;> omega
        omega
      exact Int.le_of_mul_le_mul_left h2 (by omega)

theorem or_less {a b i : Nat} (ha : a < 64) (hb : b < 64) (hi : i < 6) : sdiff (a ||| b) (2 ^ i) = sdiff a (2 ^ i) ||| sdiff b (2 ^ i) := by
  have all : (List.range 64).all (fun a => (List.range 64).all fun b => (List.range 6).all fun i => sdiff (a ||| b) (2 ^ i) == sdiff a (2 ^ i) ||| sdiff b (2 ^ i)) = true := by decide +kernel
  simpa using List.all_eq_true.1 (List.all_eq_true.1 (List.all_eq_true.1 all a (List.mem_range.2 ha)) b (List.mem_range.2 hb)) i (List.mem_range.2 hi)
theorem or_sub (a b : Nat) : a &&& (a ||| b) = a ∧ b &&& (a ||| b) = b := by
  constructor <;> refine Nat.eq_of_testBit_eq fun i => ?_ <;> simp only [Nat.testBit_and, Nat.testBit_or] <;> cases a.testBit i <;> cases b.testBit i <;> rfl
/-- Two sets take together no more than one after the other. -/
theorem mX_both {z : Nat → Int} {n D : Nat} (hn : n ≤ 6) (h9 : ∀ j, j < n → 1 ≤ z j ∧ z j ≤ 9) : ∀ s a b : Nat, s < 2 ^ n → a ||| b = s → DOk z D s → mX z D s ≤ mX z D a + mX z D b := by
  intro s
  induction s using Nat.strongRecOn with
  | _ s ih =>
    intro a b hs hab hD
    by_cases h0 : s = 0
    · subst h0
      have ha0 : a = 0 := (Nat.or_eq_zero_iff.1 hab).1
      have hb0 : b = 0 := (Nat.or_eq_zero_iff.1 hab).2
      subst ha0 hb0; rw [mX_zero]; omega
    · have hs64 := lt64 hs hn
      have ha := (or_sub a b).1
      have hb := (or_sub a b).2
      rw [hab] at ha hb
      have hal : a ≤ s := by rw [← ha]; exact Nat.and_le_right
      have hbl : b ≤ s := by rw [← hb]; exact Nat.and_le_right
      have ha64 : a < 64 := by omega
      have hb64 : b < 64 := by omega
      have st1 := mX_step hs64 hs64 (sub_self s) hD
      have st2 := mX_step hs64 ha64 ha (hD.sub ha)
      have st3 := mX_step hs64 hb64 hb (hD.sub hb)
      rw [if_neg h0] at st1
      have hle : ((kindsL s).map fun i => z i * mX z D (sdiff s (2 ^ i))).sum ≤ ((kindsL s).map fun i => z i * mX z D (sdiff a (2 ^ i)) + z i * mX z D (sdiff b (2 ^ i))).sum := sum_le fun i hi => by
        have hi6 := kindsL_lt hi
        have h1 := ih _ (sdiff_less hs64 hi6 (kinds_bit hi)) (sdiff a (2 ^ i)) (sdiff b (2 ^ i)) (sdiff_lt hs) (by rw [← or_less ha64 hb64 hi6, hab]) (hD.sub (sub_sdiff hs64 hi6))
        rw [← Int.mul_add]
        exact Int.mul_le_mul_of_nonneg_left h1 (by have := h9 i (kindsL_in hs hi); omega)
      rw [sum_add] at hle
      have ho := (of_pos hs hn h0 h9).1
      have hab0 : a ≠ 0 ∨ b ≠ 0 := by
        rcases Nat.eq_zero_or_pos a with h | h
        · right; intro h2; subst h h2; simp at hab; omega
        · left; omega
      have h2 : ofS z s * mX z D s ≤ ofS z s * (mX z D a + mX z D b) := by
        rw [Int.mul_add]
        have q1 : (0 : Int) ≤ (if a = 0 then (0 : Int) else (D : Int)) := by split <;> omega
        have q2 : (0 : Int) ≤ (if b = 0 then (0 : Int) else (D : Int)) := by split <;> omega
        have q3 : (D : Int) ≤ (if a = 0 then (0 : Int) else (D : Int)) + (if b = 0 then (0 : Int) else (D : Int)) := by
          rcases hab0 with h | h
          · rw [if_neg h]; omega
          · rw [if_neg h]; omega
        omega
      exact Int.le_of_mul_le_mul_left h2 (by omega)

/-- The average of one kind. -/
theorem mX_one {z : Nat → Int} {D i : Nat} (hi : i < 6) : mX z D (2 ^ i) = (D : Int) / z i := by
  have e : i = 0 ∨ i = 1 ∨ i = 2 ∨ i = 3 ∨ i = 4 ∨ i = 5 := by omega
  have key : partsL (2 ^ i) = [0, 2 ^ i] ∧ pop (2 ^ i) = 1 ∧ kindsL (2 ^ i) = [i] := by
    rcases e with rfl | rfl | rfl | rfl | rfl | rfl <;> decide +kernel
  obtain ⟨k1, k2, k3⟩ := key
  have ho : ofS z (2 ^ i) = z i := by unfold ofS ofL; rw [k3]; simp
  unfold mX
  rw [k1]
  unfold sumC alC vC
  simp [k2, pop_zero, ho]

/-- The chance that kind k comes before all of a part, over D; that it is the last of itself and a set. -/
def lC (z : Nat → Int) (D k t : Nat) : Int := z k * (D : Int) / (z k + ofS z t)
def lX (z : Nat → Int) (D k r : Nat) : Int := sumC (alC (lC z D k)) (partsL r)
def LOk (z : Nat → Int) (D k r : Nat) : Prop := ∀ t ∈ partsL r, z k + ofS z t ∣ z k * (D : Int)
theorem LOk.sub {z : Nat → Int} {D k r u : Nat} (h : LOk z D k r) (hu : u &&& r = u) : LOk z D k u := fun t ht => h t (parts_sub hu ht)
/-- Kind by kind. -/
theorem lX_step {z : Nat → Int} {D k r : Nat} (hr : r < 64) (hD : LOk z D k r) :
    ((kindsL r).map fun i => z i * lX z D k (sdiff r (2 ^ i))).sum = (z k + ofS z r) * lX z D k r - if r = 0 then z k * (D : Int) else 0 := by
  have h1 := swap_parts z (alC (lC z D k)) hr hr (sub_self r)
  unfold lX
  rw [h1, ← al_const _ hr, ← sumC_mul, ← sumC_sub]
  refine sumC_congr fun t ht => ?_
  have e3 : alC (lC z D k) t * (z k + ofS z t) = alC (fun _ => z k * (D : Int)) t := by
    rw [alC_mulr (lC z D k) (fun t => z k + ofS z t)]
    refine alC_congr ?_
    unfold lC
    exact Int.ediv_mul_cancel (hD t ht)
  rw [← e3]; grind
theorem lX_zero {z : Nat → Int} {D k : Nat} (hz : z k ≠ 0) : lX z D k 0 = D := by
  have e : partsL 0 = [0] := by decide +kernel
  have e2 : ofS z 0 = 0 := by unfold ofS; rw [show kindsL 0 = [] by decide +kernel]; rfl
  unfold lX; rw [e]; unfold sumC alC lC
  simp only [List.map_cons, List.map_nil, List.sum_cons, List.sum_nil, pop_zero, e2]
  simp
  exact Int.mul_ediv_cancel_left _ hz

theorem lX_pos {z : Nat → Int} {n k D : Nat} (hk : k < n) (hn : n ≤ 6) (h9 : ∀ j, j < n → 1 ≤ z j ∧ z j ≤ 9) : ∀ r : Nat, r < 2 ^ n → LOk z D k r → 0 ≤ lX z D k r := by
  intro r
  induction r using Nat.strongRecOn with
  | _ r ih =>
    intro hr hD
    have hzk := h9 k hk
    by_cases h0 : r = 0
    · subst h0; rw [lX_zero (by omega)]; omega
    · have hr64 := lt64 hr hn
      have hstep := lX_step hr64 hD
      rw [if_neg h0] at hstep
      have hp : 0 ≤ ((kindsL r).map fun i => z i * lX z D k (sdiff r (2 ^ i))).sum := sum_pos fun i hi => by
        have hi6 := kindsL_lt hi
        exact Int.mul_nonneg (by have := h9 i (kindsL_in hr hi); omega) (ih _ (sdiff_less hr64 hi6 (kinds_bit hi)) (sdiff_lt hr) (hD.sub (sub_sdiff hr64 hi6)))
      have ho := (of_pos hr hn h0 h9).1
      have : 0 ≤ (z k + ofS z r) * lX z D k r := by omega
      exact Int.nonneg_of_mul_nonneg_right this (by omega)

/-- The parts with a kind. -/
def witB (s k : Nat) : Bool := !s.testBit k || ((partsL (sdiff s (2 ^ k))).map (fun t => t + 2 ^ k) == (partsL s).filter (fun u => u.testBit k)) && (partsL (sdiff s (2 ^ k))).all fun t => (pop (t + 2 ^ k) == pop t + 1) && (sdiff (t + 2 ^ k) (2 ^ k) == t) && decide (t + 2 ^ k < 64) && (2 ^ k &&& (t + 2 ^ k) == 2 ^ k)
theorem wit_all : (List.range 64).all (fun s => (List.range 6).all (witB s)) = true := by decide +kernel
theorem of_two {z : Nat → Int} {i : Nat} (hi : i < 6) : ofS z (2 ^ i) = z i := by
  have e : i = 0 ∨ i = 1 ∨ i = 2 ∨ i = 3 ∨ i = 4 ∨ i = 5 := by omega
  have k3 : kindsL (2 ^ i) = [i] := by
    rcases e with rfl | rfl | rfl | rfl | rfl | rfl <;> decide +kernel
  unfold ofS ofL; rw [k3]; simp
/-- One of the kinds of a set comes last. -/
theorem lX_all {z : Nat → Int} {D s : Nat} (hs : s < 64) (h0 : s ≠ 0) (hD : DOk z D s) : ((kindsL s).map fun k => lX z D k (sdiff s (2 ^ k))).sum = D := by
  have key : ∀ k ∈ kindsL s, lX z D k (sdiff s (2 ^ k)) = ((partsL s).map fun u => -(alC (vC z D) u) * (if u.testBit k then z k else 0)).sum := by
    intro k hk
    have hk6 := kindsL_lt hk
    have h := List.all_eq_true.1 (List.all_eq_true.1 wit_all s (List.mem_range.2 hs)) k (List.mem_range.2 hk6)
    simp only [witB, kinds_bit hk, Bool.not_true, Bool.false_or, Bool.and_eq_true, beq_iff_eq, List.all_eq_true, decide_eq_true_eq] at h
    have e1 : ((partsL s).map fun u => -(alC (vC z D) u) * (if u.testBit k then z k else 0)).sum = (((partsL s).filter (fun u => u.testBit k)).map fun u => -(alC (vC z D) u) * z k).sum := by
      rw [sum_filter]
      refine sum_congr fun u _ => ?_
      cases u.testBit k <;> simp
    rw [e1, ← h.1, List.map_map]
    unfold lX sumC
    refine sum_congr fun t ht => ?_
    obtain ⟨⟨⟨p1, p2⟩, p3⟩, p4⟩ := h.2 t ht
    have hof := ofS_diff z p3 (show 2 ^ k < 64 by have : 2 ^ k < 2 ^ 6 := Nat.pow_lt_pow_right (by decide) hk6; omega) p4
    rw [p2, of_two hk6] at hof
    have hne : t + 2 ^ k ≠ 0 := by have : 0 < 2 ^ k := Nat.pow_pos (by decide); omega
    have hin : t + 2 ^ k ∈ partsL s := by
      have : t + 2 ^ k ∈ (partsL s).filter (fun u => u.testBit k) := by rw [← h.1]; exact List.mem_map_of_mem ht
      exact (List.mem_filter.1 this).1
    have hdv := hD _ hin hne
    have hv : lC z D k t = vC z D (t + 2 ^ k) * z k := by
      unfold lC vC
      rw [if_neg hne, ← hof, show z k + ofS z t = ofS z t + z k by omega]
      rw [← hof] at hdv
      rw [Int.mul_ediv_assoc _ hdv, Int.mul_comm]
    simp only [Function.comp]
    unfold alC
    rw [p1]
    have : pop t % 2 = 1 ∨ pop t % 2 = 0 := by omega
    rcases this with e | e
    · rw [if_pos e, if_neg (show ¬ (pop t + 1) % 2 = 1 by omega), hv, Int.neg_mul]
    · rw [if_neg (show ¬ pop t % 2 = 1 by omega), if_pos (show (pop t + 1) % 2 = 1 by omega), hv, Int.neg_neg]
  have e1 : ((kindsL s).map fun k => lX z D k (sdiff s (2 ^ k))).sum = ((kindsL s).map fun k => ((partsL s).map fun u => -(alC (vC z D) u) * (if u.testBit k then z k else 0)).sum).sum := sum_congr key
  rw [e1, sum_swap]
  have e2 : ((partsL s).map fun u => ((kindsL s).map fun k => -(alC (vC z D) u) * (if u.testBit k then z k else 0)).sum).sum = ((partsL s).map fun u => -(alC (fun t => if t = 0 then 0 else (D : Int)) u)).sum := by
    refine sum_congr fun u hu => ?_
    rw [sum_mul]
    have h1 := out_sum z hs (partsL_lt hu) (partsL_sub hu)
    have h2 : ((kindsL s).map fun k => if u.testBit k then z k else 0).sum = ofS z u := by
      have h3 : ((kindsL s).map fun k => (if u.testBit k then z k else 0) + (if u.testBit k then 0 else z k)).sum = ofS z s := by
        unfold ofS ofL
        refine sum_congr fun k _ => ?_
        cases u.testBit k <;> simp
      rw [sum_add, h1] at h3
      omega
    rw [h2, Int.neg_mul, alC_mulr]
    refine congrArg (- ·) (alC_congr ?_)
    unfold vC
    by_cases hu0 : u = 0
    · simp [hu0]
    · simp only [hu0, if_false]; exact Int.ediv_mul_cancel (hD u hu hu0)
  rw [e2]
  have h3 := al_but (D : Int) hs
  rw [if_neg h0] at h3
  have h4 := sum_mul (-1) (alC (fun t => if t = 0 then 0 else (D : Int))) (partsL s)
  have h5 : ((partsL s).map fun u => -(alC (fun t => if t = 0 then 0 else (D : Int)) u)).sum = ((partsL s).map fun u => -1 * (alC (fun t => if t = 0 then 0 else (D : Int)) u)).sum := sum_congr fun u _ => by omega
  unfold sumC at h3
  rw [h5, h4, h3]; omega

/-- The sets with all of a set, of n kinds. -/
def sups (n set : Nat) : List Nat := (List.range (2 ^ n)).filter fun s => s &&& set == set
def lhsL (b : Bool) (n set : Nat) : List Nat := (sups n set).flatMap fun s => ((partsL s).filter (fun t => isOdd t == b)).map (sdiff s)
def rhsL (b : Bool) (n set : Nat) : List Nat := ((partsL set).filter (fun t => isOdd t == b)).map (sdiff (2 ^ n - 1))
def supB (n set : Nat) : Bool := (rhsL false n set ++ lhsL true n set).isPerm (lhsL false n set ++ rhsL true n set)
theorem sup_all : (List.range 7).all (fun n => (List.range (2 ^ n)).all (supB n)) = true := by decide +kernel
theorem sum_append (f : Nat → Int) (xs ys : List Nat) : ((xs ++ ys).map f).sum = (xs.map f).sum + (ys.map f).sum := by simp
theorem sum_permI {xs ys : List Nat} (f : Nat → Int) (h : xs.Perm ys) : (xs.map f).sum = (ys.map f).sum := by
  induction h with
  | nil => rfl
  | cons a _ ih => simp only [List.map_cons, List.sum_cons, ih]
  | swap a b l => simp only [List.map_cons, List.sum_cons]; omega
  | trans _ _ h1 h2 => exact h1.trans h2
theorem sum_sub (f g : Nat → Int) : ∀ xs : List Nat, (xs.map fun x => f x - g x).sum = (xs.map f).sum - (xs.map g).sum := sumC_sub f g
theorem sum_flat (f : Nat → Int) (g : Nat → List Nat) : ∀ xs : List Nat, ((xs.flatMap g).map f).sum = (xs.map fun x => ((g x).map f).sum).sum
  | [] => rfl
  | x :: xs => by
    have := sum_flat f g xs
    rw [List.flatMap_cons, sum_append, this, List.map_cons, List.sum_cons]
theorem al_split (c : Nat → Int) : ∀ xs : List Nat, sumC (alC c) xs = ((xs.filter (fun t => isOdd t == false)).map c).sum - ((xs.filter (fun t => isOdd t == true)).map c).sum
  | [] => rfl
  | x :: xs => by
    have ih := al_split c xs
    simp only [sumC, List.map_cons, List.sum_cons] at ih ⊢
    rw [ih]
    have : pop x % 2 = 1 ∨ pop x % 2 = 0 := by omega
    rcases this with e | e
    · have e2 : isOdd x = true := by simp [isOdd, e]
      have e3 : alC c x = -(c x) := by simp [alC, e]
      rw [List.filter_cons_of_neg (by simp [e2]), List.filter_cons_of_pos (by simp [e2]), e3, List.map_cons, List.sum_cons]; omega
    · have e2 : isOdd x = false := by simp [isOdd, e]
      have e3 : alC c x = c x := by simp [alC, e]
      rw [List.filter_cons_of_pos (by simp [e2]), List.filter_cons_of_neg (by simp [e2]), e3, List.map_cons, List.sum_cons]; omega
/-- A set is there where a set came that has it. -/
theorem ex_sum (z : Nat → Int) {n set k : Nat} (hs : set < 2 ^ n) (hn : n ≤ 6) : ((sups n set).map fun s => doC z s s k).sum = doC z (2 ^ n - 1) set k := by
  have h := List.all_eq_true.1 (List.all_eq_true.1 sup_all n (List.mem_range.2 (by omega))) set (List.mem_range.2 hs)
  unfold supB at h
  rw [List.isPerm_iff] at h
  have h2 := sum_permI (fun U => (((ofS z U).toNat ^ k : Nat) : Int)) h
  rw [sum_append, sum_append] at h2
  have e1 : ∀ b, ((lhsL b n set).map fun U => (((ofS z U).toNat ^ k : Nat) : Int)).sum = ((sups n set).map fun s => (((partsL s).filter (fun t => isOdd t == b)).map (woC z s k)).sum).sum := by
    intro b
    unfold lhsL
    rw [sum_flat]
    refine sum_congr fun s _ => ?_
    rw [List.map_map]; rfl
  have e2 : ∀ b, ((rhsL b n set).map fun U => (((ofS z U).toNat ^ k : Nat) : Int)).sum = (((partsL set).filter (fun t => isOdd t == b)).map (woC z (2 ^ n - 1) k)).sum := by
    intro b
    unfold rhsL
    rw [List.map_map]; rfl
  rw [e1, e1, e2, e2] at h2
  have e3 : ((sups n set).map fun s => doC z s s k).sum = ((sups n set).map fun s => (((partsL s).filter (fun t => isOdd t == false)).map (woC z s k)).sum - (((partsL s).filter (fun t => isOdd t == true)).map (woC z s k)).sum).sum :=
    sum_congr fun s _ => al_split _ _
  rw [e3, sum_sub]
  unfold doC
  rw [al_split]
  omega

/-- That just some kinds came is no less than never. -/
theorem doC_sub {z : Nat → Int} {n s u k : Nat} (hs : s < 2 ^ n) (hn : n ≤ 6) (hu : u &&& s = u) (h9 : ∀ j, j < n → 1 ≤ z j ∧ z j ≤ 9) :
    doC z s u (k + 1) = ((kindsL s).map fun i => z i * doC z s (sdiff u (2 ^ i)) k).sum := by
  have hs64 := lt64 hs hn
  have hu64 : u < 64 := by have : u ≤ s := by rw [← hu]; exact Nat.and_le_right
                           omega
  unfold doC
  rw [swap_parts z (alC (woC z s k)) hs64 hu64 hu]
  refine sumC_congr fun t ht => ?_
  have ht64 := partsL_lt ht
  have htS := sub_trans (partsL_sub ht) hu
  have hd := ofS_diff z hs64 ht64 htS
  have hpos : 0 ≤ ofS z (sdiff s t) := by
    by_cases h0 : sdiff s t = 0
    · rw [h0]; unfold ofS; rw [show kindsL 0 = [] by decide +kernel]; exact Int.le_refl _
    · have := (of_pos (sdiff_lt hs) hn h0 h9).1; omega
  have e : woC z s (k + 1) t = woC z s k t * (ofS z s - ofS z t) := by
    unfold woC
    rw [Nat.pow_succ, Int.natCast_mul]
    have : (((ofS z (sdiff s t)).toNat : Nat) : Int) = ofS z s - ofS z t := by omega
    rw [this]
  rw [alC_mulr (woC z s k) (fun t => ofS z s - ofS z t)]
  exact alC_congr e
theorem doC_pos2 {z : Nat → Int} {n s : Nat} (hs : s < 2 ^ n) (hn : n ≤ 6) (h9 : ∀ j, j < n → 1 ≤ z j ∧ z j ≤ 9) : ∀ (k u : Nat), u &&& s = u → 0 ≤ doC z s u k
  | 0, u, hu => by
    have hu64 : u < 64 := by have : u ≤ s := by rw [← hu]; exact Nat.and_le_right
                             have := lt64 hs hn; omega
    rw [doC_zero _ _ hu64]; split <;> omega
  | k + 1, u, hu => by
    have hu64 : u < 64 := by have : u ≤ s := by rw [← hu]; exact Nat.and_le_right
                             have := lt64 hs hn; omega
    rw [doC_sub hs hn hu h9]
    exact sum_pos fun i hi => Int.mul_nonneg (by have := h9 i (kindsL_in hs hi); omega) (doC_pos2 hs hn h9 k _ (sub_trans (sub_sdiff hu64 (kindsL_lt hi)) hu))
/-- The sum over the first ones is no more than over all. -/
theorem sum_pre {f : Nat → Int} {j N : Nat} (hj : j ≤ N) (h : ∀ i, i < N → 0 ≤ f i) : ((List.range j).map f).sum ≤ ((List.range N).map f).sum := by
  obtain ⟨d, rfl⟩ : ∃ d, N = j + d := ⟨N - j, by omega⟩
  induction d with
  | zero => exact Int.le_refl _
  | succ d ih =>
    have h1 := ih (by omega) (fun i hi => h i (by omega))
    have h2 := h (j + d) (by omega)
    rw [show j + (d + 1) = (j + d) + 1 by omega, List.range_succ, sum_append]
    simp only [List.map_cons, List.map_nil, List.sum_cons, List.sum_nil]
    omega
end Go.Proofs.Ytgednacoeifclaa
