import Derived.Test.YtlmjddlpenmpkaaU6
namespace Go.Proofs.Ytlmjddlpenmpkaa
theorem sdiff_less {u i : Nat} (hu : u < 64) (hi : i < 6) (h : u.testBit i = true) : sdiff u (2 ^ i) < u := by
  have all : (List.range 64).all (fun u => (List.range 6).all fun i => !u.testBit i || decide (sdiff u (2 ^ i) < u)) = true := by decide +kernel
  have := List.all_eq_true.1 (List.all_eq_true.1 all u (List.mem_range.2 hu)) i (List.mem_range.2 hi)
  simpa [h] using this
theorem sdiff_none {u i : Nat} (hu : u < 64) (hi : i < 6) (h : u.testBit i = false) : sdiff u (2 ^ i) = u := by
  have all : (List.range 64).all (fun u => (List.range 6).all fun i => u.testBit i || (sdiff u (2 ^ i) == u)) = true := by decide +kernel
  have := List.all_eq_true.1 (List.all_eq_true.1 all u (List.mem_range.2 hu)) i (List.mem_range.2 hi)
  simpa [h] using this
theorem kinds_bit {s i : Nat} (h : i ∈ kindsL s) : s.testBit i = true := by simpa using (List.mem_filter.1 h).2
theorem sub_self (s : Nat) : s &&& s = s := Nat.and_self s
theorem sub_sdiff {u i : Nat} (hu : u < 64) (hi : i < 6) : sdiff u (2 ^ i) &&& u = sdiff u (2 ^ i) := by
  have all : (List.range 64).all (fun u => (List.range 6).all fun i => sdiff u (2 ^ i) &&& u == sdiff u (2 ^ i)) = true := by decide +kernel
  simpa using List.all_eq_true.1 (List.all_eq_true.1 all u (List.mem_range.2 hu)) i (List.mem_range.2 hi)
theorem parts_sub {s u t : Nat} (h : u &&& s = u) (ht : t ∈ partsL u) : t ∈ partsL s :=
  List.mem_filter.2 ⟨List.mem_range.2 (partsL_lt ht), by simpa using sub_trans (partsL_sub ht) h⟩

/-- What D must be for, of a set. -/
def DOk (z : Nat → Int) (D s : Nat) : Prop := ∀ t ∈ partsL s, t ≠ 0 → ofS z t ∣ (D : Int)
theorem DOk.sub {z : Nat → Int} {D s u : Nat} (h : DOk z D s) (hu : u &&& s = u) : DOk z D u := fun t ht h0 => h t (parts_sub hu ht) h0
theorem sum_pos {f : Nat → Int} {xs : List Nat} (h : ∀ x ∈ xs, 0 ≤ f x) : 0 ≤ (xs.map f).sum := by
  have := sum_le (f := fun _ => 0) (g := f) (xs := xs) h
  rwa [sum_zero] at this

theorem mX_pos {z : Nat → Int} {n D : Nat} (hn : n ≤ 6) (h9 : ∀ j, j < n → 1 ≤ z j ∧ z j ≤ 9) : ∀ s : Nat, s < 2 ^ n → DOk z D s → 0 ≤ mX z D s := by
  intro s
  induction s using Nat.strongRecOn with
  | _ s ih =>
    intro hs hD
    by_cases h0 : s = 0
    · subst h0; rw [mX_zero]; omega
    · have hs64 := lt64 hs hn
      have hstep := mX_step hs64 hs64 (sub_self s) hD
      rw [if_neg h0] at hstep
      have hp : 0 ≤ ((kindsL s).map fun i => z i * mX z D (sdiff s (2 ^ i))).sum := sum_pos fun i hi => by
        have hi6 := kindsL_lt hi
        exact Int.mul_nonneg (by have := h9 i (kindsL_in hs hi); omega) (ih _ (sdiff_less hs64 hi6 (kinds_bit hi)) (sdiff_lt hs) (hD.sub (sub_sdiff hs64 hi6)))
      have ho := (of_pos hs hn h0 h9).1
      have : 0 ≤ ofS z s * mX z D s := by omega
      exact Int.nonneg_of_mul_nonneg_right this (by omega)

/-- With more kinds it takes no less. -/
theorem mX_more {z : Nat → Int} {n D : Nat} (hn : n ≤ 6) (h9 : ∀ j, j < n → 1 ≤ z j ∧ z j ≤ 9) : ∀ s u : Nat, s < 2 ^ n → u &&& s = u → DOk z D s → mX z D u ≤ mX z D s := by
  intro s
  induction s using Nat.strongRecOn with
  | _ s ih =>
    intro u hs hu hD
    by_cases h0 : s = 0
    · subst h0
      have : u = 0 := by rw [← hu]; simp
      subst this; exact Int.le_refl _
    · have hs64 := lt64 hs hn
      have hul : u ≤ s := by rw [← hu]; exact Nat.and_le_right
      have hu64 : u < 64 := by omega
      have st1 := mX_step hs64 hs64 (sub_self s) hD
      have st2 := mX_step hs64 hu64 hu (hD.sub hu)
      rw [if_neg h0] at st1
      have hle : ((kindsL s).map fun i => z i * mX z D (sdiff u (2 ^ i))).sum ≤ ((kindsL s).map fun i => z i * mX z D (sdiff s (2 ^ i))).sum := sum_le fun i hi => by
        have hi6 := kindsL_lt hi
        exact Int.mul_le_mul_of_nonneg_left (ih _ (sdiff_less hs64 hi6 (kinds_bit hi)) _ (sdiff_lt hs) (sub_less hs64 hu64 hi6 hu) (hD.sub (sub_sdiff hs64 hi6))) (by have := h9 i (kindsL_in hs hi); omega)
      have ho := (of_pos hs hn h0 h9).1
      have h2 : ofS z s * mX z D u ≤ ofS z s * mX z D s := by
        have : (if u = 0 then (0 : Int) else (D : Int)) ≤ D := by split <;> omega
        omega
      exact Int.le_of_mul_le_mul_left h2 (by omega)

theorem or_less {a b i : Nat} (ha : a < 64) (hb : b < 64) (hi : i < 6) : sdiff (a ||| b) (2 ^ i) = sdiff a (2 ^ i) ||| sdiff b (2 ^ i) := by
  have all : (List.range 64).all (fun a => (List.range 64).all fun b => (List.range 6).all fun i => sdiff (a ||| b) (2 ^ i) == sdiff a (2 ^ i) ||| sdiff b (2 ^ i)) = true := by decide +kernel
  simpa using List.all_eq_true.1 (List.all_eq_true.1 (List.all_eq_true.1 all a (List.mem_range.2 ha)) b (List.mem_range.2 hb)) i (List.mem_range.2 hi)
theorem or_sub (a b : Nat) : a &&& (a ||| b) = a ∧ b &&& (a ||| b) = b := by
  constructor <;> refine Nat.eq_of_testBit_eq fun i => ?_ <;> simp only [Nat.testBit_and, Nat.testBit_or] <;> cases a.testBit i <;> cases b.testBit i <;> rfl
/-- Two sets take together no more than one after the other. -/
theorem mX_both {z : Nat → Int} {n D : Nat} (hn : n ≤ 6) (h9 : ∀ j, j < n → 1 ≤ z j ∧ z j ≤ 9) : ∀ s a b : Nat, s < 2 ^ n → a ||| b = s → DOk z D s → mX z D s ≤ mX z D a + mX z D b := by
  intro s
  induction s using Nat.strongRecOn with
  | _ s ih =>
    intro a b hs hab hD
    by_cases h0 : s = 0
    · subst h0
      have ha0 : a = 0 := (Nat.or_eq_zero_iff.1 hab).1
      have hb0 : b = 0 := (Nat.or_eq_zero_iff.1 hab).2
      subst ha0 hb0; rw [mX_zero]; omega
    · have hs64 := lt64 hs hn
      have ha := (or_sub a b).1
      have hb := (or_sub a b).2
      rw [hab] at ha hb
      have hal : a ≤ s := by rw [← ha]; exact Nat.and_le_right
      have hbl : b ≤ s := by rw [← hb]; exact Nat.and_le_right
      have ha64 : a < 64 := by omega
      have hb64 : b < 64 := by omega
      have st1 := mX_step hs64 hs64 (sub_self s) hD
      have st2 := mX_step hs64 ha64 ha (hD.sub ha)
      have st3 := mX_step hs64 hb64 hb (hD.sub hb)
      rw [if_neg h0] at st1
      have hle : ((kindsL s).map fun i => z i * mX z D (sdiff s (2 ^ i))).sum ≤ ((kindsL s).map fun i => z i * mX z D (sdiff a (2 ^ i)) + z i * mX z D (sdiff b (2 ^ i))).sum := sum_le fun i hi => by
        have hi6 := kindsL_lt hi
        have h1 := ih _ (sdiff_less hs64 hi6 (kinds_bit hi)) (sdiff a (2 ^ i)) (sdiff b (2 ^ i)) (sdiff_lt hs) (by rw [← or_less ha64 hb64 hi6, hab]) (hD.sub (sub_sdiff hs64 hi6))
        rw [← Int.mul_add]
        exact Int.mul_le_mul_of_nonneg_left h1 (by have := h9 i (kindsL_in hs hi); omega)
      rw [sum_add] at hle
      have ho := (of_pos hs hn h0 h9).1
      have hab0 : a ≠ 0 ∨ b ≠ 0 := by
        rcases Nat.eq_zero_or_pos a with h | h
        · right; intro h2; subst h h2; simp at hab; omega
        · left; omega
      have h2 : ofS z s * mX z D s ≤ ofS z s * (mX z D a + mX z D b) := by
        rw [Int.mul_add]
        have q1 : (0 : Int) ≤ (if a = 0 then (0 : Int) else (D : Int)) := by split <;> omega
        have q2 : (0 : Int) ≤ (if b = 0 then (0 : Int) else (D : Int)) := by split <;> omega
        have q3 : (D : Int) ≤ (if a = 0 then (0 : Int) else (D : Int)) + (if b = 0 then (0 : Int) else (D : Int)) := by
          rcases hab0 with h | h
          · rw [if_neg h]; omega
          · rw [if_neg h]; omega
        omega
      exact Int.le_of_mul_le_mul_left h2 (by omega)

/-- The average of one kind. -/
theorem mX_one {z : Nat → Int} {D i : Nat} (hi : i < 6) : mX z D (2 ^ i) = (D : Int) / z i := by
  have e : i = 0 ∨ i = 1 ∨ i = 2 ∨ i = 3 ∨ i = 4 ∨ i = 5 := by omega
  have key : partsL (2 ^ i) = [0, 2 ^ i] ∧ pop (2 ^ i) = 1 ∧ kindsL (2 ^ i) = [i] := by
    rcases e with rfl | rfl | rfl | rfl | rfl | rfl <;> decide +kernel
  obtain ⟨k1, k2, k3⟩ := key
  have ho : ofS z (2 ^ i) = z i := by unfold ofS ofL; rw [k3]; simp
  unfold mX
  rw [k1]
  unfold sumC alC vC
  simp [k2, pop_zero, ho]
end Go.Proofs.Ytlmjddlpenmpkaa
