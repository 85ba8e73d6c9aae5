import Derived.Test.YtgednacoeifclaaR6
import Derived.Test.YtgednacoeifclaaN1
namespace Go.Proofs.Ytgednacoeifclaa
open Go.RowKit Go.Shelf

theorem fr_nat {X : Int} {L : Nat} (hL : 0 < L) (hX : 0 ≤ X) : ∃ a g : Nat, frA X L = a ∧ 0 < g ∧ (a : Int) * g = X ∧ frB X L * g = L ∧ 0 < frB X L := by
  have h0 := (frA_sign (a := X) hL).1.2 hX
  refine ⟨(frA X L).toNat, Nat.gcd X.natAbs L, by omega, fr_gpos X hL, ?_, frB_mul X L, frB_pos X hL⟩
  rw [show (((frA X L).toNat : Nat) : Int) = frA X L by omega]
  exact frA_mul X L

theorem less_scale {a1 b1 a2 b2 g1 g2 : Nat} {X1 X2 : Int} {L1 L2 : Nat} (h1 : 0 < g1) (h2 : 0 < g2) (e1 : (a1 : Int) * g1 = X1) (e2 : b1 * g1 = L1) (e3 : (a2 : Int) * g2 = X2) (e4 : b2 * g2 = L2) :
    decide (a1 * b2 < a2 * b1) = decide (X1 * L2 < X2 * L1) := by
  rw [decide_eq_decide, ← e1, ← e2, ← e3, ← e4, Int.natCast_mul, Int.natCast_mul]
  have k1 : (a1 : Int) * g1 * ((b2 : Int) * g2) = ((a1 * b2 : Nat) : Int) * ((g1 * g2 : Nat) : Int) := by rw [Int.natCast_mul, Int.natCast_mul]; grind
  have k2 : (a2 : Int) * g2 * ((b1 : Int) * g1) = ((a2 * b1 : Nat) : Int) * ((g1 * g2 : Nat) : Int) := by rw [Int.natCast_mul, Int.natCast_mul]; grind
  rw [k1, k2]
  have hg : (0 : Int) < ((g1 * g2 : Nat) : Int) := by have := Nat.mul_pos h1 h2; omega
  constructor
  · intro h; exact Int.mul_lt_mul_of_pos_right (by omega) hg
  · intro h; have := Int.lt_of_mul_lt_mul_right h (by omega); omega

theorem rless_fr (X1 X2 : Int) (L1 L2 : Nat) (w : World) (h1 : 0 ≤ X1) (h2 : 0 ≤ X2) (hL1 : 0 < L1) (hL2 : 0 < L2) (m1 : X1 ≤ 9223372036854775807) (m2 : X2 ≤ 9223372036854775807) (n1 : L1 ≤ 9223372036854775807) (n2 : L2 ≤ 9223372036854775807) :
    Calls Try.prog 45 #[.agg #[.int .i64 (frA X1 L1), .int .i64 (frB X1 L1 : Nat)], .agg #[.int .i64 (frA X2 L2), .int .i64 (frB X2 L2 : Nat)]] w fun e w' => e = .returned (.bool (decide (X1 * L2 < X2 * L1))) ∧ Below w.heap.size w w' := by
  obtain ⟨a1, g1, ha1, hg1, e1, e2, p1⟩ := fr_nat hL1 h1
  obtain ⟨a2, g2, ha2, hg2, e3, e4, p2⟩ := fr_nat hL2 h2
  have b1 := frA_abs X1 hL1
  have b2 := frA_abs X2 hL2
  have c1 := frB_le X1 L1
  have c2 := frB_le X2 L2
  rw [ha1] at b1 ⊢
  rw [ha2] at b2 ⊢
  rw [← less_scale hg1 hg2 e1 e2 e3 e4]
  exact rless_any a1 (frB X1 L1) a2 (frB X2 L2) w (by omega) (by omega) (by omega) (by omega) p1 p2

set_option maxHeartbeats 1000000 in
theorem right_any (A B most : Nat) (w : World) (hB : 0 < B) (hm : most ≤ 1000) (hA : A ≤ 9223372036854775807) (hB2 : B ≤ 9223372036854775807) (h : A ≤ most * B) :
    Calls Try.prog 44 #[.agg #[.int .i64 A, .int .i64 B], .int .i64 most] w fun e w' => e = .returned (.bool true) ∧ Below w.heap.size w w' := by
  have hle : A / B ≤ most := Nat.div_le_of_le_mul (by rw [Nat.mul_comm]; exact h)
  have he : A / B = most → A % B = 0 := by
    intro e
    have h1 := Nat.div_add_mod A B
    rw [e, Nat.mul_comm] at h1
    omega
  have g1 : ¬ B = 0 := by omega
  have G1 : ((B : Int) == 0) = false := by simp; omega
  have B1 : (1 : Int) ≤ (B : Int) := by omega
  have A0 : (0 : Int) ≤ (A : Int) := by omega
  have t1 : (A : Int) / (B : Int) = ((A / B : Nat) : Int) := by omega
  have t3 : (A : Int) % (B : Int) = ((A % B : Nat) : Int) := by omega
  have p1 : A / B ≤ A := Nat.div_le_self _ _
  have hl := Nat.mod_lt A hB
  generalize A / B = p at *
  generalize A % B = x at *
  have L1 : decide (p ≤ most) = true := by simp; omega
  have L1' : p ≤ most := hle
  have u1 : wrap64 ((A : Int) / (B : Int)) = p := by rw [t1]; exact IntWalk.wrap64_in _ ⟨by omega, by omega⟩
  have u3 : wrap64 ((A : Int) % (B : Int)) = x := by rw [t3]; exact IntWalk.wrap64_in _ ⟨by omega, by omega⟩
  by_cases e : p = most
  · have hx := he e
    have L2 : decide (p < most) = false := by simp; omega
    have L2' : ¬ p < most := by omega
    have L3 : ((x : Int) == 0) = true := by simp [hx]
    clear he e hx h
    go_enter Try.func44, Try.ntmps44
    go_wp2
    go_ret
    exact ⟨rfl, below_one w _⟩
  · have L2 : decide (p < most) = true := by simp; omega
    have L2' : p < most := by omega
    clear he e h
    go_enter Try.func44, Try.ntmps44
    go_wp2
    go_ret
    exact ⟨rfl, below_one w _⟩

theorem right_fr (X : Int) (L most : Nat) (w : World) (h0 : 0 ≤ X) (hL : 0 < L) (hm : most ≤ 1000) (hX : X ≤ 9223372036854775807) (hL2 : L ≤ 9223372036854775807) (h : X ≤ (most : Int) * L) :
    Calls Try.prog 44 #[.agg #[.int .i64 (frA X L), .int .i64 (frB X L : Nat)], .int .i64 most] w fun e w' => e = .returned (.bool true) ∧ Below w.heap.size w w' := by
  obtain ⟨a, g, ha, hg, e1, e2, p⟩ := fr_nat hL h0
  have b1 := frA_abs X hL
  have c1 := frB_le X L
  rw [ha] at b1 ⊢
  refine right_any a (frB X L) most w p hm (by omega) (by omega) ?_
  rw [← e1, ← e2, Int.natCast_mul, ← Int.mul_assoc] at h
  have := Int.le_of_mul_le_mul_right h (by omega)
  rw [← Int.natCast_mul] at this
  omega

/-- The chances of all kinds, one packet later. -/
theorem kiC_one {z : Nat → Int} {n k i : Nat} (hi : i < n) (hn : n ≤ 6) (h1n : 1 ≤ n) (h9 : ∀ j, j < n → 1 ≤ z j ∧ z j ≤ 9) : 0 ≤ kiC z n k i ∧ kiC z n k i ≤ (LK z n k : Nat) := doC_one (two_lt hi) hn h1n h9
theorem sum_const (c : Int) : ∀ xs : List Nat, (xs.map fun _ => c).sum = c * xs.length
  | [] => by simp
  | x :: xs => by
    have := sum_const c xs
    simp only [List.map_cons, List.sum_cons, this, List.length_cons]
    have e : ((xs.length + 1 : Nat) : Int) = (xs.length : Int) + 1 := by omega
    rw [e, Int.mul_add]; omega
theorem knC_one {z : Nat → Int} {n k : Nat} (hn : n ≤ 6) (h1n : 1 ≤ n) (h9 : ∀ j, j < n → 1 ≤ z j ∧ z j ≤ 9) : 0 ≤ knC z n k ∧ knC z n k ≤ (n : Int) * (LK z n k : Nat) := by
  unfold knC sumC
  constructor
  · have h := sum_le (f := fun _ => 0) (g := kiC z n k) (xs := List.range n) (fun i hi => (kiC_one (List.mem_range.1 hi) hn h1n h9).1)
    rw [sum_zero] at h; exact h
  · have h := sum_le (f := kiC z n k) (g := fun _ => ((LK z n k : Nat) : Int)) (xs := List.range n) (fun i hi => (kiC_one (List.mem_range.1 hi) hn h1n h9).2)
    rw [sum_const, List.length_range, Int.mul_comm] at h; exact h
theorem knC_later {z : Nat → Int} {n k : Nat} (hn : n ≤ 6) (h9 : ∀ j, j < n → 1 ≤ z j ∧ z j ≤ 9) : ofS z (2 ^ n - 1) * knC z n k ≤ knC z n (k + 1) := by
  unfold knC sumC
  rw [← sum_mul]
  exact sum_le fun i hi => doC_later (two_lt (List.mem_range.1 hi)) hn h9
theorem LK_succ {z : Nat → Int} {n k : Nat} (hn : n ≤ 6) (h1n : 1 ≤ n) (h9 : ∀ j, j < n → 1 ≤ z j ∧ z j ≤ 9) : ((LK z n (k + 1) : Nat) : Int) = ofS z (2 ^ n - 1) * (LK z n k : Nat) := by
  have hall0 : 2 ^ n - 1 ≠ 0 := by
    have : 2 ^ 1 ≤ 2 ^ n := Nat.pow_le_pow_right (by decide) h1n
    omega
  have hof := of_pos (full_lt hn) hn hall0 h9
  unfold LK
  rw [Nat.pow_succ, Int.natCast_mul, show (((ofS z (2 ^ n - 1)).toNat : Nat) : Int) = ofS z (2 ^ n - 1) by omega, Int.mul_comm]
/-- A chance or an average that does not fall. -/
theorem no_less {A X Y : Int} {L M : Nat} (h : A * X ≤ Y) (hM : (M : Int) = A * L) : decide (Y * L < X * M) = false := by
  rw [decide_eq_false_iff_not, hM]
  have h1 : A * X * L ≤ Y * L := Int.mul_le_mul_of_nonneg_right h (by omega)
  have e : X * (A * L) = A * X * L := by grind
  omega
end Go.Proofs.Ytgednacoeifclaa
