import Derived.Test.YtiegingpmcloeaaA1
namespace Go.Proofs.Ytiegingpmcloeaa
open Go.RowKit

/-- Are these jars to begin with? -/
def jB (x y : Int) : Bool := decide (0 ≤ x ∧ x ≤ 100 ∧ 0 ≤ y ∧ y ≤ 100)

theorem rjars_any (x y : Int) (w : World) :
    Calls Try.prog 13 #[.agg #[.int .i64 x, .int .i64 y]] w fun r w' => SomeB (jB x y) w r w' := by
  by_cases h1 : 0 ≤ x
  · by_cases h2 : x ≤ 100
    · by_cases h3 : 0 ≤ y
      · by_cases h4 : y ≤ 100
        · have H : Hid (jB x y = true) := by simp [Hid, jB]; omega
          go_enter Try.func13, Try.ntmps13
          go_wp2
          go_ret
          exact ⟨by rw [H.out]; rfl, one_le _ _⟩
        · have H : Hid (jB x y = false) := by simp [Hid, jB]; omega
          have h4' : decide (y ≤ 100) = false := by simp; omega
          clear h4
          go_enter Try.func13, Try.ntmps13
          go_wp2
          go_ret
          exact ⟨by rw [H.out]; rfl, one_le _ _⟩
      · have H : Hid (jB x y = false) := by simp [Hid, jB]; omega
        go_enter Try.func13, Try.ntmps13
        go_wp2
        go_ret
        exact ⟨by rw [H.out]; rfl, one_le _ _⟩
    · have H : Hid (jB x y = false) := by simp [Hid, jB]; omega
      go_enter Try.func13, Try.ntmps13
      go_wp2
      go_ret
      exact ⟨by rw [H.out]; rfl, one_le _ _⟩
  · have H : Hid (jB x y = false) := by simp [Hid, jB]; omega
    go_enter Try.func13, Try.ntmps13
    go_wp2
    go_ret
    exact ⟨by rw [H.out]; rfl, one_le _ _⟩

set_option maxHeartbeats 4000000 in
set_option maxRecDepth 100000 in
theorem rmachine_any (a : Option Addr) (n cap : Nat) (M : Nat → Q) (w : World) (hn : n ≤ 140737488351232) (hM : Ords w a n M) :
    Calls Try.prog 12 #[.slice a n cap] w fun r w' => SomeB (isM n M) w r w' := by
  have HM := Lib.hid hM
  clear hM
  go_enter Try.func12, Try.ntmps12
  go_wp2
  go_loopw [4, 7] (fun _ i wr => ∃ k : Nat, k ≤ n ∧ i = .int .i64 k ∧ Below w.heap.size w wr ∧ Hid (∀ j, j < k → okQ n (M j))) (fun _ i _ => n - (intOf i).toNat)
  case atStart => exact ⟨0, Nat.zero_le _, rfl, Below.refl _ _, fun j hj => absurd hj (Nat.not_lt_zero _)⟩
  case round =>
    obtain ⟨k, hk, rfl, hB, hr⟩ := hrel
    have HB := Lib.hid hB
    have hsz := hB.size
    have HF : Hid (∀ o1, Below w.heap.size w (wr.alloc o1)) := fun o1 => HB.out.alloc hsz _
    clear hB
    by_cases hlt : k < n
    · obtain ⟨b, o, rfl, c0, c1, c2, c3⟩ := (HM.out.keep (Nat.le_refl _) HB.out) k hlt
      have hbl := World.block_lt_of_cell? _ _ c0
      have HNo : Hid (¬ okQ n (M k) → isM n M = false) := fun h => isM_no (fun hh => h (hh.2.2 k hlt))
      have HYes : Hid (okQ n (M k) → ∀ j, j < k + 1 → okQ n (M j)) := by
        intro hq j hj
        by_cases e : j = k
        · subst e; exact hq
        · exact hr.out j (by omega)
      rcases hq : M k with ⟨d, j, t, e⟩
      rw [hq] at c0 c1 c2 c3 HNo HYes
      clear hq
      simp only at c0 c1 c2 c3
      by_cases hu : okU ⟨d, j, t, e⟩
      · by_cases hj : 0 ≤ j ∧ j ≤ 1
        · by_cases ht : 0 ≤ t ∧ t < n
          · by_cases he : 0 ≤ e ∧ e < n
            · have hn' := Lib.hid (HYes.out ⟨hu, hj, ht, he⟩)
              obtain ⟨hj0, hj1⟩ := hj
              obtain ⟨ht0, ht1⟩ := ht
              obtain ⟨he0, he1⟩ := he
              rcases hu with ⟨rfl, rfl, rfl, rfl⟩ | ⟨rfl, rfl⟩ | rfl
              all_goals
                go_wp2
                go_roundw
                case rel => exact ⟨k + 1, by omega, by go_num, HF.out _, hn'⟩
                case measure => simp [intOf]; omega
            · have HFa := Lib.hid (HNo.out (fun h => he h.2.2.2))
              obtain ⟨hj0, hj1⟩ := hj
              obtain ⟨ht0, ht1⟩ := ht
              rcases hu with ⟨rfl, rfl, rfl, rfl⟩ | ⟨rfl, rfl⟩ | rfl
              · exact absurd ⟨ht0, ht1⟩ he
              · exact absurd ⟨by omega, by omega⟩ he
              · by_cases he0 : e < 0
                · go_wp2
                  go_ret
                  exact ⟨by rw [HFa.out]; rfl, HF.out _⟩
                · have he1 : (n : Int) ≤ e := by omega
                  have he2 : 0 ≤ e := by omega
                  clear he
                  go_wp2
                  go_ret
                  exact ⟨by rw [HFa.out]; rfl, HF.out _⟩
          · have HFa := Lib.hid (HNo.out (fun h => ht h.2.2.1))
            obtain ⟨hj0, hj1⟩ := hj
            by_cases ht0 : t < 0
            · clear ht
              rcases hu with ⟨rfl, rfl, rfl, rfl⟩ | ⟨rfl, rfl⟩ | rfl
              · omega
              all_goals
                go_wp2
                go_ret
                exact ⟨by rw [HFa.out]; rfl, HF.out _⟩
            · have ht1 : (n : Int) ≤ t := by omega
              have ht2 : 0 ≤ t := by omega
              clear ht
              rcases hu with ⟨rfl, rfl, rfl, rfl⟩ | ⟨rfl, rfl⟩ | rfl
              · omega
              all_goals
                go_wp2
                go_ret
                exact ⟨by rw [HFa.out]; rfl, HF.out _⟩
        · have HFa := Lib.hid (HNo.out (fun h => hj h.2.1))
          by_cases hj0 : j < 0
          · clear hj
            rcases hu with ⟨rfl, rfl, rfl, rfl⟩ | ⟨rfl, rfl⟩ | rfl
            · omega
            all_goals
              go_wp2
              go_ret
              exact ⟨by rw [HFa.out]; rfl, HF.out _⟩
          · have hj1 : (1 : Int) < j := by omega
            have hj2 : 0 ≤ j := by omega
            clear hj
            rcases hu with ⟨rfl, rfl, rfl, rfl⟩ | ⟨rfl, rfl⟩ | rfl
            · omega
            all_goals
              go_wp2
              go_ret
              exact ⟨by rw [HFa.out]; rfl, HF.out _⟩
      · have HFa := Lib.hid (HNo.out (fun h => hu h.1))
        by_cases h0 : d = 0
        · subst h0
          by_cases g1 : j = 0
          · by_cases g2 : t = 0
            · have g3 : ¬ e = 0 := fun h => hu (Or.inl ⟨rfl, g1, g2, h⟩)
              subst g1 g2
              clear hu
              go_wp2
              go_ret
              exact ⟨by rw [HFa.out]; rfl, HF.out _⟩
            · subst g1
              clear hu
              go_wp2
              go_ret
              exact ⟨by rw [HFa.out]; rfl, HF.out _⟩
          · clear hu
            go_wp2
            go_ret
            exact ⟨by rw [HFa.out]; rfl, HF.out _⟩
        · by_cases h1 : d = 1
          · have g3 : ¬ e = 0 := fun h => hu (Or.inr (Or.inl ⟨h1, h⟩))
            subst h1
            clear hu h0
            go_wp2
            go_ret
            exact ⟨by rw [HFa.out]; rfl, HF.out _⟩
          · have h2 : ¬ d = 2 := fun h => hu (Or.inr (Or.inr h))
            clear hu
            go_wp2
            go_ret
            exact ⟨by rw [HFa.out]; rfl, HF.out _⟩
    · have e : n = k := by omega
      subst e
      by_cases h1 : 1 ≤ n
      · by_cases h8 : n ≤ 8
        · have hf : Hid (isM n M = true) := isM_iff.2 ⟨h1, h8, hr.out⟩
          have h8t : decide ((n : Int) ≤ 8) = true := by simp; omega
          go_wp2
          go_ret
          exact ⟨by rw [hf.out]; rfl, HB.out⟩
        · have hf : Hid (isM n M = false) := isM_no (fun h => h8 h.2.1)
          have h8' : decide ((n : Int) ≤ 8) = false := by simp; omega
          clear h8
          go_wp2
          go_ret
          exact ⟨by rw [hf.out]; rfl, HB.out⟩
      · have hf : Hid (isM n M = false) := isM_no (fun h => h1 h.1)
        have h8' : decide ((1 : Int) ≤ n) = false := by simp; omega
        clear h1
        go_wp2
        go_ret
        exact ⟨by rw [hf.out]; rfl, HB.out⟩

end Go.Proofs.Ytiegingpmcloeaa
