import Derived.Test.YtcedhcpjnoppmaaV1
namespace Go.Proofs.Ytcedhcpjnoppmaa
open Go.RowKit

theorem ints_small {w : World} {a : Option Addr} {n : Nat} {z : Nat → Int} (_ : Ints w a n z) (h : n ≤ 12) : n ≤ 140737488351232 := by omega

set_option maxHeartbeats 4000000 in
set_option maxRecDepth 100000 in
theorem pvalid_any (aT : Option Addr) (n cT : Nat) (aL : Option Addr) (m cL : Nat) (T L : Nat → Int) (w : World) (hn : n ≤ 140737488351232) (hm : m ≤ 140737488351232) (hT : Ints w aT n T) (hL : Ints w aL m L) :
    Calls Try.prog 53 #[plV aT n cT aL m cL] w fun e w' => SomeB (isPlan n m T L) w e w' := by
  have HT := Lib.hid (fun o1 o2 => (hT.keep (Nat.le_refl _) (below_two w o1 o2) : Ints _ _ _ _))
  have HL := Lib.hid (fun o1 o2 => (hL.keep (Nat.le_refl _) (below_two w o1 o2) : Ints _ _ _ _))
  clear hT hL
  by_cases h1 : 1 ≤ n ∧ n ≤ 12
  · obtain ⟨h1a, h1b⟩ := h1
    have h1a' : (1 : Int) ≤ (n : Int) := by omega
    have h1b' : (n : Int) ≤ 12 := by omega
    by_cases h2 : m = n
    · subst h2
      cases h3 : allIn T m (-1) m
      · have hf : Hid (isPlan m m T L = false) := isPlan_no fun h => by
          rw [allIn_iff.2 (fun j hj => ⟨(h.2.2.2.1 j hj).1, (h.2.2.2.1 j hj).2.1⟩)] at h3; cases h3
        have H3 := Lib.hid h3
        clear h3
        go_enter Try.func53, Try.ntmps53
        go_wp2_with fail
        refine (between_one true _ _ _ (m : Int) 1 12 _ (heap_two2 _ _ _) rfl (by simp; omega)).mono ?_
        rintro e w' ⟨rfl, rfl⟩
        go_wp2_with fail
        refine (between_r false _ _ _ _ _ _ _ H3.out hn (HT.out _ _)).mono ?_
        rintro e w' ⟨rfl, rfl⟩
        go_wp2
        go_ret
        exact ⟨by rw [hf.out]; rfl, below_two _ _ _⟩
      · cases h4 : allIn L m 0 (m + 1)
        · have hf : Hid (isPlan m m T L = false) := isPlan_no fun h => by
            rw [allIn_iff.2 (fun j hj => ⟨(h.2.2.2.1 j hj).2.2.1, (h.2.2.2.1 j hj).2.2.2.1⟩)] at h4; cases h4
          have H3 := Lib.hid h3
          have H4 := Lib.hid h4
          clear h3 h4
          go_enter Try.func53, Try.ntmps53
          go_wp2_with fail
          refine (between_one true _ _ _ (m : Int) 1 12 _ (heap_two2 _ _ _) rfl (by simp; omega)).mono ?_
          rintro e w' ⟨rfl, rfl⟩
          go_wp2_with fail
          refine (between_r true _ _ _ _ _ _ _ H3.out hn (HT.out _ _)).mono ?_
          rintro e w' ⟨rfl, rfl⟩
          go_wp2_with fail
          refine (between_r false _ _ _ _ _ _ _ H4.out hn (HL.out _ _)).mono ?_
          rintro e w' ⟨rfl, rfl⟩
          go_wp2
          go_ret
          exact ⟨by rw [hf.out]; rfl, below_two _ _ _⟩
        · have H3 := Lib.hid h3
          have H4 := Lib.hid h4
          clear h3 h4
          go_enter Try.func53, Try.ntmps53
          go_wp2_with fail
          refine (between_one true _ _ _ (m : Int) 1 12 _ (heap_two2 _ _ _) rfl (by simp; omega)).mono ?_
          rintro e w' ⟨rfl, rfl⟩
          go_wp2_with fail
          refine (between_r true _ _ _ _ _ _ _ H3.out hn (HT.out _ _)).mono ?_
          rintro e w' ⟨rfl, rfl⟩
          go_wp2_with fail
          refine (between_r true _ _ _ _ _ _ _ H4.out hn (HL.out _ _)).mono ?_
          rintro e w' ⟨rfl, rfl⟩
          go_wp2
          go_loop [38] (fun i => ∃ k : Nat, k ≤ m ∧ i = .int .i64 k ∧ Hid (∀ j, j < k → T j < L j)) (fun i => m - (intOf i).toNat)
          case atStart => exact ⟨0, Nat.zero_le _, rfl, fun j hj => absurd hj (Nat.not_lt_zero _)⟩
          case round =>
            obtain ⟨k, hk, rfl, hr⟩ := hrel
            by_cases hlt : k < m
            · obtain ⟨bT, oT, rfl, hcT⟩ := HT.out (.cells #[.slice aT m cT, .slice aL m cL] 32) (.cells #[.int .i64 (m : Int)] 3) k hlt
              obtain ⟨bL, oL, rfl, hcL⟩ := HL.out (.cells #[.slice (some ⟨bT, oT, none⟩) m cT, .slice aL m cL] 32) (.cells #[.int .i64 (m : Int)] 3) k hlt
              by_cases h5 : T k < L k
              · have hn : Hid (∀ j, j < k + 1 → T j < L j) := by
                  intro j hj
                  by_cases e : j = k
                  · subst e; exact h5
                  · exact hr.out j (by omega)
                go_wp2
                go_round
                case rel => exact ⟨k + 1, by omega, by go_num, hn⟩
                case measure => simp [intOf]; omega
              · have hf : Hid (isPlan m m T L = false) := isPlan_no fun h => h5 (h.2.2.2.1 k hlt).2.2.2.2
                have h5' : L k ≤ T k := by omega
                go_wp2
                go_ret
                exact ⟨by rw [hf.out]; rfl, below_two _ _ _⟩
            · obtain rfl : m = k := by omega
              have hlt' : m - 1 < m := by omega
              obtain ⟨bT, oT, rfl, hcT⟩ := HT.out (.cells #[.slice aT m cT, .slice aL m cL] 32) (.cells #[.int .i64 (m : Int)] 3) (m - 1) hlt'
              obtain ⟨bL, oL, rfl, hcL⟩ := HL.out (.cells #[.slice (some ⟨bT, oT, none⟩) m cT, .slice aL m cL] 32) (.cells #[.int .i64 (m : Int)] 3) (m - 1) hlt'
              have em : ((m : Int) - 1).toNat = m - 1 := by omega
              have t1 := allIn_iff.1 H3.out (m - 1) hlt'
              have t2 : ∀ j, j < m → -1 ≤ T j ∧ T j ≤ m ∧ 0 ≤ L j ∧ L j ≤ m + 1 ∧ T j < L j := fun j hj => ⟨(allIn_iff.1 H3.out j hj).1, (allIn_iff.1 H3.out j hj).2, (allIn_iff.1 H4.out j hj).1, (allIn_iff.1 H4.out j hj).2, hr.out j hj⟩
              have T2 := Lib.hid t2
              clear t2
              have hf : Hid (isPlan m m T L = decide (L (m - 1) = T (m - 1) + 1)) := by
                unfold Hid isPlan
                exact decide_eq_decide.2 ⟨fun h => h.2.2.2.2, fun h => ⟨h1a, h1b, rfl, T2.out, h⟩⟩
              go_wp2
              go_quiet (fail)
              go_wp2
              go_ret
              exact ⟨by rw [hf.out]; rfl, below_drewN (below_two _ _ _) _⟩
    · have hf : Hid (isPlan n m T L = false) := isPlan_no fun h => h2 h.2.2.1
      have G : ((m : Int) != (n : Int)) = true := by simp; omega
      clear h2
      go_enter Try.func53, Try.ntmps53
      go_wp2_with fail
      refine (between_one true _ _ _ (n : Int) 1 12 _ (heap_two2 _ _ _) rfl (by simp; omega)).mono ?_
      rintro e w' ⟨rfl, rfl⟩
      go_wp2
      go_ret
      exact ⟨by rw [hf.out]; rfl, below_two _ _ _⟩
  · have hf : Hid (isPlan n m T L = false) := isPlan_no fun h => h1 ⟨h.1, h.2.1⟩
    go_enter Try.func53, Try.ntmps53
    go_wp2_with fail
    refine (between_one false _ _ _ (n : Int) 1 12 _ (heap_two2 _ _ _) rfl (by simp; omega)).mono ?_
    rintro e w' ⟨rfl, rfl⟩
    go_wp2
    go_ret
    exact ⟨by rw [hf.out]; rfl, below_two _ _ _⟩

end Go.Proofs.Ytcedhcpjnoppmaa
