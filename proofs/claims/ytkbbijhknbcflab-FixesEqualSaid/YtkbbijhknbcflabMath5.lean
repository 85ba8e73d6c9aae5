/-
  How a text that begins with a formula goes on, by its first byte.
-/
import Derived.Test.YtkbbijhknbcflabMath4
namespace Go.Proofs.Ytkbbijhknbcflab

theorem begins_kind {m : Nat → Bool} {x : UInt8} {t r : List UInt8} {F : Fm} (h : Begins m (x :: t) F r) : kind x = kd F := by
  obtain ⟨b, t', e, k⟩ := kind_str h.2 r
  rw [← h.1] at e
  rw [(List.cons.inj e).1, k]
theorem begins_nil {m : Nat → Bool} {r : List UInt8} {F : Fm} : ¬ Begins m [] F r := fun h => by
  have := str_pos F
  have := congrArg List.length h.1
  simp at this; omega
theorem begins_len {m : Nat → Bool} {l r : List UInt8} {F : Fm} (h : Begins m l F r) : r.length < l.length := by
  have := str_pos F
  rw [h.1]; simp; omega
theorem begins_none {m : Nat → Bool} {x : UInt8} {t r : List UInt8} {F : Fm} (hx : kind x = 0) : ¬ Begins m (x :: t) F r := fun h => by
  have := begins_kind h
  rw [hx] at this
  cases F <;> simp [kd] at this
theorem begins_unm {m : Nat → Bool} {t r : List UInt8} {F : Fm} (h : Begins m (45 :: t) F r) : ∃ k, F = .unm k ∧ k < 4 ∧ t = dig k :: r := by
  have hk := begins_kind h
  cases F <;> first | (simp [kd, kind] at hk; done) | skip
  rename_i k
  exact ⟨k, rfl, h.2, (List.cons.inj h.1).2⟩
theorem begins_two {m : Nat → Bool} {x : UInt8} {t r : List UInt8} {F : Fm} (hx : kind x = 5) (h : Begins m (x :: t) F r) : ∃ a l r', F = .two a l r' ∧ ∃ s, Begins m t l s ∧ Begins m s r' r := by
  have hk := begins_kind h
  rw [hx] at hk
  cases F <;> first | (simp [kd] at hk; done) | skip
  rename_i a l r'
  refine ⟨a, l, r', rfl, str r' ++ r, ⟨?_, h.2.1⟩, rfl, h.2.2⟩
  have : t = (str l ++ str r') ++ r := (List.cons.inj h.1).2
  rw [List.append_assoc] at this
  exact this
theorem begins_ahead {m : Nat → Bool} {x : UInt8} {t r : List UInt8} {F : Fm} (hx : kind x = 6) (h : Begins m (x :: t) F r) : ∃ d l, F = .ahead d l ∧ Begins m t l r := by
  have hk := begins_kind h
  rw [hx] at hk
  cases F <;> first | (simp [kd] at hk; done) | skip
  rename_i d l
  exact ⟨d, l, rfl, (List.cons.inj h.1).2, h.2⟩
theorem begins_var {m : Nat → Bool} {c : Nat} {t r : List UInt8} {F : Fm} (hc : c < 3) (h : Begins m (lett c :: t) F r) : F = .var c ∧ m c = true ∧ t = r := by
  have hk := begins_kind h
  rw [kind_lett hc] at hk
  cases F <;> first | (simp [kd] at hk; done) | skip
  rename_i d
  have e := List.cons.inj h.1
  obtain rfl := lett_inj hc h.2.1 e.1
  exact ⟨rfl, h.2.2, e.2⟩
theorem begins_fix {m : Nat → Bool} {x : UInt8} {t r : List UInt8} {F : Fm} (hx : kind x = 8) (h : Begins m (x :: t) F r) : ∃ g c l, F = .fix g c l ∧ ∃ t', t = lett c :: t' ∧ c < 3 ∧ m c = false ∧ Begins (fun i => m i || i == c) t' l r := by
  have hk := begins_kind h
  rw [hx] at hk
  cases F <;> first | (simp [kd] at hk; done) | skip
  rename_i g c l
  have e := (List.cons.inj h.1).2
  exact ⟨g, c, l, rfl, str l ++ r, e, h.2.1.1, h.2.1.2, rfl, h.2.2⟩
theorem byte_cases (x : UInt8) : (∃ k, k < 4 ∧ x = dig k) ∨ x = 45 ∨ x = 116 ∨ x = 102 ∨ (x = 38 ∨ x = 124) ∨ (x = 60 ∨ x = 91) ∨ (∃ c, c < 3 ∧ x = lett c) ∨ (x = 103 ∨ x = 109) ∨ kind x = 0 := by
  by_cases h0 : kind x = 0
  · simp [h0]
  · unfold kind at h0
    split at h0
    · rename_i h; left; rcases h with rfl | rfl | rfl | rfl
      · exact ⟨0, by decide, rfl⟩
      · exact ⟨1, by decide, rfl⟩
      · exact ⟨2, by decide, rfl⟩
      · exact ⟨3, by decide, rfl⟩
    · split at h0
      · rename_i h; simp [h]
      · split at h0
        · rename_i h; simp [h]
        · split at h0
          · rename_i h; simp [h]
          · split at h0
            · rename_i h; rcases h with h | h <;> simp [h]
            · split at h0
              · rename_i h; rcases h with h | h <;> simp [h]
              · split at h0
                · rename_i h
                  have : ∃ c, c < 3 ∧ x = lett c := by
                    rcases h with rfl | rfl | rfl
                    · exact ⟨0, by decide, rfl⟩
                    · exact ⟨1, by decide, rfl⟩
                    · exact ⟨2, by decide, rfl⟩
                  exact Or.inr (Or.inr (Or.inr (Or.inr (Or.inr (Or.inr (Or.inl this))))))
                · split at h0
                  · rename_i h; rcases h with h | h <;> simp [h]
                  · exact absurd rfl h0
theorem kind_zero {x : UInt8} (h : kind x = 0) : x ≠ 48 ∧ x ≠ 49 ∧ x ≠ 50 ∧ x ≠ 51 ∧ x ≠ 45 ∧ x ≠ 116 ∧ x ≠ 102 ∧ x ≠ 38 ∧ x ≠ 124 ∧ x ≠ 60 ∧ x ≠ 91 ∧ x ≠ 120 ∧ x ≠ 121 ∧ x ≠ 122 ∧ x ≠ 103 ∧ x ≠ 109 := by
  refine ⟨?_, ?_, ?_, ?_, ?_, ?_, ?_, ?_, ?_, ?_, ?_, ?_, ?_, ?_, ?_, ?_⟩ <;> (rintro rfl; exact absurd h (by decide))
theorem dig_nat {k : Nat} (h : k < 4) : ((dig k).toNat : Int) = ((48 + k : Nat) : Int) := by rcases cases4 h with rfl | rfl | rfl | rfl <;> rfl
theorem lett_nat {k : Nat} (h : k < 3) : ((lett k).toNat : Int) = ((120 + k : Nat) : Int) := by rcases cases3 h with rfl | rfl | rfl <;> rfl

/-- The letters that a text of letters lets be used. -/
def mOf (o : List UInt8) : Nat → Bool := fun c => o.contains (lett c)
end Go.Proofs.Ytkbbijhknbcflab
