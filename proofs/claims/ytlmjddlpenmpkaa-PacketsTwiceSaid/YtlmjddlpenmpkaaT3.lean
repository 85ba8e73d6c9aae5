import Derived.Test.YtlmjddlpenmpkaaT4
import Derived.Test.YtlmjddlpenmpkaaT5
namespace Go.Proofs.Ytlmjddlpenmpkaa
open Go.RowKit Go.Shelf

/-- What the kernel has found of weights. -/
structure TwF (z : Nat → Int) (n : Nat) : Prop where
  ok : ∀ tw, tw < 2 ^ n → MeanOk n z (2 ^ n - 1) tw (twL z n tw)
  rt : ∀ tw, tw < 2 ^ n → 0 ≤ twX z n tw ∧ twX z n tw ≤ 400 * (twL z n tw : Nat) ∧ twX z n tw ≤ 9223372036854775807 ∧ 1 ≤ twL z n tw ∧ twL z n tw ≤ 4611686018427387903
  ge : ∀ tw, tw < 2 ^ n → decide (twX z n tw * (twL z n 0 : Nat) < twX z n 0 * (twL z n tw : Nat)) = false
  gt : ∀ tw k, tw < 2 ^ n → k < n → tw.testBit k = false → decide (twX z n tw * (twL z n (tw ||| 2 ^ k) : Nat) < twX z n (tw ||| 2 ^ k) * (twL z n tw : Nat)) = true
theorem TwF.of {z : Nat → Int} {n : Nat} (h : twB z n = true) : TwF z n := by
  have ht : ∀ tw, tw < 2 ^ n → twOk z n tw (twL z n tw) (twX z n tw) = true ∧ decide (twX z n tw * (twL z n 0 : Nat) < twX z n 0 * (twL z n tw : Nat)) = false ∧ ∀ k, k < n → (tw.testBit k || decide (twX z n tw * (twL z n (tw ||| 2 ^ k) : Nat) < twX z n (tw ||| 2 ^ k) * (twL z n tw : Nat))) = true := by
    intro tw htw
    have h1 := List.all_eq_true.1 h tw (List.mem_range.2 htw)
    rw [Bool.and_eq_true, Bool.and_eq_true] at h1
    exact ⟨h1.1.1, by simpa using h1.1.2, fun k hk => List.all_eq_true.1 h1.2 k (List.mem_range.2 hk)⟩
  have hk : ∀ tw, tw < 2 ^ n → MeanOk n z (2 ^ n - 1) tw (twL z n tw) ∧ 0 ≤ twX z n tw ∧ twX z n tw ≤ 400 * (twL z n tw : Nat) ∧ twX z n tw ≤ 9223372036854775807 := by
    intro tw htw
    have h1 := (ht tw htw).1
    simp only [twOk, Bool.and_eq_true, decide_eq_true_eq] at h1
    obtain ⟨⟨⟨⟨⟨⟨⟨k1, k2⟩, k3⟩, k4⟩, k5⟩, k6⟩, k7⟩, k8⟩ := h1
    refine ⟨⟨k1, k2, fun x hx h0 once ho => ?_, k4, k5⟩, k6, k7, k8⟩
    have h2 := List.all_eq_true.1 k3 x hx
    have hb : (x == 0) = false := by simpa using h0
    rw [hb, Bool.false_or] at h2
    exact Int.dvd_of_emod_eq_zero (by simpa using List.all_eq_true.1 h2 once ho)
  exact ⟨fun tw h => (hk tw h).1, fun tw h => ⟨(hk tw h).2.1, (hk tw h).2.2.1, (hk tw h).2.2.2, (hk tw h).1.L1, (hk tw h).1.LM⟩, fun tw h => (ht tw h).2.1, fun tw k h h2 h3 => by
    have h4 := (ht tw h).2.2 k h2
    rw [h3, Bool.false_or] at h4
    exact h4⟩

theorem tw_any {n : Nat} {z : Nat → Int} (h1 : 1 ≤ n) (h3 : n ≤ 3) (h9 : ∀ j, j < n → 1 ≤ z j ∧ z j ≤ 9) : ∃ y : Nat → Int, (∀ j, j < n → z j = y j) ∧ (∀ j, j < n → 1 ≤ y j ∧ y j ≤ 9) ∧ TwF y n := by
  have key : ∃ y : Nat → Int, (∀ j, j < n → z j = y j) ∧ twB y n = true := by
    have d : ∀ j, j < n → ∃ A : Nat, A < 9 ∧ z j = ((A + 1 : Nat) : Int) := fun j hj => ⟨(z j - 1).toNat, by have := h9 j hj; omega, by have := h9 j hj; omega⟩
    obtain ⟨A, hA, eA⟩ := d 0 (by omega)
    have hn : n = 1 ∨ n = 2 ∨ n = 3 := by omega
    rcases hn with rfl | rfl | rfl
    · refine ⟨twZ (A + 1) 1 1, fun j hj => ?_, List.all_eq_true.1 tw_1 A (List.mem_range.2 hA)⟩
      have : j = 0 := by omega
      subst this; exact eA
    · obtain ⟨B, hB, eB⟩ := d 1 (by omega)
      refine ⟨twZ (A + 1) (B + 1) 1, fun j hj => ?_, List.all_eq_true.1 (List.all_eq_true.1 tw_2 A (List.mem_range.2 hA)) B (List.mem_range.2 hB)⟩
      have : j = 0 ∨ j = 1 := by omega
      rcases this with rfl | rfl
      · exact eA
      · exact eB
    · obtain ⟨B, hB, eB⟩ := d 1 (by omega)
      obtain ⟨C, hC, eC⟩ := d 2 (by omega)
      refine ⟨twZ (A + 1) (B + 1) (C + 1), fun j hj => ?_, ?_⟩
      · have : j = 0 ∨ j = 1 ∨ j = 2 := by omega
        rcases this with rfl | rfl | rfl
        · exact eA
        · exact eB
        · exact eC
      · have g : A = 0 ∨ A = 1 ∨ A = 2 ∨ A = 3 ∨ A = 4 ∨ A = 5 ∨ A = 6 ∨ A = 7 ∨ A = 8 := by omega
        rcases g with rfl | rfl | rfl | rfl | rfl | rfl | rfl | rfl | rfl
        · exact List.all_eq_true.1 (List.all_eq_true.1 tw_31 B (List.mem_range.2 hB)) C (List.mem_range.2 hC)
        · exact List.all_eq_true.1 (List.all_eq_true.1 tw_32 B (List.mem_range.2 hB)) C (List.mem_range.2 hC)
        · exact List.all_eq_true.1 (List.all_eq_true.1 tw_33 B (List.mem_range.2 hB)) C (List.mem_range.2 hC)
        · exact List.all_eq_true.1 (List.all_eq_true.1 tw_34 B (List.mem_range.2 hB)) C (List.mem_range.2 hC)
        · exact List.all_eq_true.1 (List.all_eq_true.1 tw_35 B (List.mem_range.2 hB)) C (List.mem_range.2 hC)
        · exact List.all_eq_true.1 (List.all_eq_true.1 tw_36 B (List.mem_range.2 hB)) C (List.mem_range.2 hC)
        · exact List.all_eq_true.1 (List.all_eq_true.1 tw_37 B (List.mem_range.2 hB)) C (List.mem_range.2 hC)
        · exact List.all_eq_true.1 (List.all_eq_true.1 tw_38 B (List.mem_range.2 hB)) C (List.mem_range.2 hC)
        · exact List.all_eq_true.1 (List.all_eq_true.1 tw_39 B (List.mem_range.2 hB)) C (List.mem_range.2 hC)
  obtain ⟨y, hy, hB⟩ := key
  exact ⟨y, hy, fun j hj => by rw [← hy j hj]; exact h9 j hj, TwF.of hB⟩
theorem ints_same {w : World} {a : Option Addr} {n : Nat} {z y : Nat → Int} (h : Ints w a n z) (e : ∀ j, j < n → z j = y j) : Ints w a n y := by
  intro j hj
  obtain ⟨b, o, h1, h2⟩ := h j hj
  exact ⟨b, o, h1, by rw [← e j hj]; exact h2⟩
end Go.Proofs.Ytlmjddlpenmpkaa
