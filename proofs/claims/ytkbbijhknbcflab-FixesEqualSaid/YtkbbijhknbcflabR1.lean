import Derived.Test.YtkbbijhknbcflabA3
/-
  The document's own words: which works are valid, which sets and states are.
-/
namespace Go.Proofs.Ytkbbijhknbcflab
open Go.RowKit

set_option maxHeartbeats 4000000 in
set_option maxRecDepth 100000 in
theorem rvalid_any (aN : Option Addr) (n cN : Nat) (aM : Option Addr) (m cM : Nat) (T L : Nat → Int) (w : World) (hn : n * 8 ≤ 140737488355328) (hm : m * 8 ≤ 140737488355328) (hT : Ints w aN n T) (hL : Ints w aM m L) :
    Calls Try.prog 12 #[wkV aN n cN aM m cM] w fun e w' => SomeB (isWk n m T L) w e w' := by
  have HT := Lib.hid (fun o => (hT.keep (Nat.le_refl _) (below_one w o) : Ints _ _ _ _))
  have HL := Lib.hid (fun o => (hL.keep (Nat.le_refl _) (below_one w o) : Ints _ _ _ _))
  clear hT hL
  have HB1 := Lib.hid (below_one w (.cells #[.slice aN n cN, .slice aM m cM] 24))
  by_cases h0 : 1 ≤ n ∧ n ≤ 6
  · obtain ⟨h1, h6⟩ := h0
    by_cases hmn : m = n
    · subst hmn
      go_enter Try.func12, Try.ntmps12
      go_wp2
      go_loop [25] (fun i => ∃ k : Nat, k ≤ m ∧ i = .int .i64 k ∧ Hid (∀ s, s < k → (0 ≤ T s ∧ T s ≤ ((2 ^ m - 1 : Nat) : Int)) ∧ 0 ≤ L s ∧ L s < 16)) (fun i => m - (intOf i).toNat)
      case atStart => exact ⟨0, Nat.zero_le _, rfl, fun j hj => absurd hj (Nat.not_lt_zero _)⟩
      case round =>
        obtain ⟨k, hk, rfl, hr⟩ := hrel
        by_cases hlt : k < m
        · obtain ⟨bT, oT, rfl, hcT⟩ := HT.out (.cells #[.slice aN m cN, .slice aM m cM] 24) k hlt
          obtain ⟨bL, oL, rfl, hcL⟩ := HL.out (.cells #[.slice (some ⟨bT, oT, none⟩) m cN, .slice aM m cM] 24) k hlt
          obtain ⟨X, hX⟩ : ∃ X, T k = X := ⟨_, rfl⟩
          obtain ⟨Y, hY⟩ : ∃ Y, L k = Y := ⟨_, rfl⟩
          rw [hX] at hcT
          rw [hY] at hcL
          have HX := Lib.hid hX
          have HY := Lib.hid hY
          clear hX hY
          obtain ⟨Z, hZ⟩ : ∃ Z : Int, Z = ((2 ^ m - 1 : Nat) : Int) + 1 := ⟨_, rfl⟩
          have hz : wrap64 ((2 : Int) ^ m) = Z := by
            have h1 : 1 ≤ 2 ^ m := Nat.one_le_two_pow
            rw [wrap_two (by omega), hZ]; omega
          have HN : Hid ((0 ≤ X ∧ X < Z) ∧ 0 ≤ Y ∧ Y < 16 → ∀ s, s < k + 1 → (0 ≤ T s ∧ T s ≤ ((2 ^ m - 1 : Nat) : Int)) ∧ 0 ≤ L s ∧ L s < 16) := by
            rintro ⟨⟨g1, g2⟩, g3, g4⟩ s hs
            by_cases e : s = k
            · subst e; rw [HX.out, HY.out]; exact ⟨⟨g1, by omega⟩, g3, g4⟩
            · exact hr.out s (by omega)
          have HF : Hid (¬ ((0 ≤ X ∧ X < Z) ∧ 0 ≤ Y ∧ Y < 16) → isWk m m T L = false) := fun hno => isWk_no (by
            rintro ⟨_, _, _, h⟩
            have h2 := h k hlt
            rw [HX.out, HY.out] at h2
            exact hno ⟨⟨h2.1.1, by omega⟩, h2.2.1, h2.2.2⟩)
          clear hZ
          by_cases h1 : 0 ≤ X
          · by_cases h2 : X < Z
            · by_cases h3 : 0 ≤ Y
              · by_cases h4 : Y < 16
                · go_wp2
                  go_round
                  case rel => exact ⟨k + 1, by omega, by go_num, HN.out ⟨⟨h1, h2⟩, h3, h4⟩⟩
                  case measure => simp [intOf]; omega
                · go_wp2
                  go_ret
                  exact ⟨by rw [HF.out (by omega)]; rfl, HB1.out⟩
              · go_wp2
                go_ret
                exact ⟨by rw [HF.out (by omega)]; rfl, HB1.out⟩
            · go_wp2
              go_ret
              exact ⟨by rw [HF.out (by omega)]; rfl, HB1.out⟩
          · go_wp2
            go_ret
            exact ⟨by rw [HF.out (by omega)]; rfl, HB1.out⟩
        · obtain rfl : k = m := by omega
          have HG : Hid (isWk k k T L = true) := isWk_iff.2 ⟨h1, h6, rfl, hr.out⟩
          go_wp2
          go_ret
          exact ⟨by rw [HG.out]; rfl, HB1.out⟩
    · have HF := Lib.hid (isWk_no (T := T) (L := L) (n := n) (m := m) (by rintro ⟨_, _, h, _⟩; exact hmn h))
      have hmn' : ((m : Int) != (n : Int)) = true := by simp; omega
      go_enter Try.func12, Try.ntmps12
      go_wp2
      go_ret
      exact ⟨by rw [HF.out]; rfl, HB1.out⟩
  · have HF := Lib.hid (isWk_no (T := T) (L := L) (n := n) (m := m) (by rintro ⟨h1, h2, _, _⟩; exact h0 ⟨h1, h2⟩))
    by_cases h1 : 1 ≤ n
    · have h6 : (6 : Int) < n := by omega
      go_enter Try.func12, Try.ntmps12
      go_wp2
      go_ret
      exact ⟨by rw [HF.out]; rfl, HB1.out⟩
    · have h6 : (n : Int) < 1 := by omega
      go_enter Try.func12, Try.ntmps12
      go_wp2
      go_ret
      exact ⟨by rw [HF.out]; rfl, HB1.out⟩
end Go.Proofs.Ytkbbijhknbcflab
