import Derived.Test.YtcedhcpjnoppmaaR1
namespace Go.Proofs.Ytcedhcpjnoppmaa
open Go.RowKit

theorem av_one {T L : Nat → Int} {i : Nat} {b : Int} (h : b ≤ T i) : av T L i b = 1 := by unfold av; rw [if_pos h]
theorem av_two {T L : Nat → Int} {i : Nat} {b : Int} (h : ¬ b ≤ T i) (h2 : L i ≤ b) : av T L i b = 2 := by unfold av; rw [if_neg h, if_pos h2]
theorem av_zero {T L : Nat → Int} {i : Nat} {b : Int} (h : ¬ b ≤ T i) (h2 : ¬ L i ≤ b) : av T L i b = 0 := by unfold av; rw [if_neg h, if_neg h2]

set_option maxHeartbeats 4000000 in
set_option maxRecDepth 100000 in
theorem rrun_any (aT : Option Addr) (n cT : Nat) (aL : Option Addr) (m cL : Nat) (T L : Nat → Int) (aX : Option Addr) (cX : Nat) (x : Nat → Bool) (w : World) (hp : isPlan n m T L = true) (hT : Ints w aT n T) (hL : Ints w aL m L) (hX : Bools w aX n x) :
    Calls Try.prog 31 #[plV aT n cT aL m cL, .slice aX n cX] w fun e w' => RunOut T L x n w e w' := by
  have hpp := isPlan_iff.1 hp
  have hn := hpp.2.1
  have hn1 := hpp.1
  have hmn : m ≤ n := by omega
  have hnm : n ≤ m := by omega
  have HLast := Lib.hid hpp.2.2.2.2
  have HT := Lib.hid hT
  have HL := Lib.hid hL
  have HX := Lib.hid hX
  clear hp hpp hT hL hX
  have HB0 := Lib.hid (PlAt.start (aT := aT) (nT := n) (cT := cT) (aL := aL) (nL := m) (cL := cL) (P := 24) w)
  have HT1 := Lib.hid (HT.out.keep (Nat.le_refl _) HB0.out.bel)
  have HL1 := Lib.hid (HL.out.keep (Nat.le_refl _) HB0.out.bel)
  have HX1 := Lib.hid (HX.out.keep (Nat.le_refl _) HB0.out.bel)
  have hbel := below_one w (.cells #[.slice aT n cT, .slice aL m cL] 24)
  have HBel := Lib.hid hbel
  clear HB0 hbel
  go_enter Try.func31, Try.ntmps31
  go_wp2
  go_loop [6, 11] (fun s6 s11 => ∃ k : Nat, k ≤ n ∧ s11 = .int .i64 k ∧ s6 = .int .i64 (bc x k : Nat) ∧ Hid (∀ j, j < k → av T L j (bc x (j + 1)) = 0)) (fun _ s11 => n - (intOf s11).toNat)
  case atStart => exact ⟨0, Nat.zero_le _, rfl, rfl, fun j hj => absurd hj (Nat.not_lt_zero _)⟩
  case round =>
    obtain ⟨k, hk, rfl, rfl, hv⟩ := hrel
    by_cases hlt : k < n
    · obtain ⟨bT, oT, rfl, hcT⟩ := HT1.out k hlt
      obtain ⟨bL, oL, rfl, hcL⟩ := HL1.out k (by omega)
      obtain ⟨b, o, rfl, hck⟩ := HX1.out k hlt
      have hbk := bc_le x k
      have hbk' : ((bc x k : Nat) : Int) ≤ 12 := by omega
      cases hx : x k
      · have hbc : Hid (bc x (k + 1) = bc x k) := by unfold Hid; simp [bc, hx]
        rw [hx] at hck
        clear hx
        by_cases g1 : ((bc x k : Nat) : Int) ≤ T k
        · have HA : Hid (av T L k (bc x (k + 1)) = 1) := by rw [hbc.out]; exact av_one g1
          have HE : Hid (Ends T L x (k + 1)) := ⟨Nat.succ_pos _, fun j hj => hv.out j (by omega), by show av T L k (bc x (k + 1)) ≠ 0; rw [HA.out]; decide⟩
          go_wp2
          go_ret2
          exact ⟨k + 1, HE.out, hlt, by show _ = Ending.returned (.tuple #[.int .i64 ((k + 1 : Nat) : Int), .bool (decide (av T L k (bc x (k + 1)) = 1))]); rw [HA.out]; rfl, HBel.out⟩
        · by_cases g2 : L k ≤ ((bc x k : Nat) : Int)
          · have HA : Hid (av T L k (bc x (k + 1)) = 2) := by rw [hbc.out]; exact av_two g1 g2
            have HE : Hid (Ends T L x (k + 1)) := ⟨Nat.succ_pos _, fun j hj => hv.out j (by omega), by show av T L k (bc x (k + 1)) ≠ 0; rw [HA.out]; decide⟩
            go_wp2
            go_ret2
            exact ⟨k + 1, HE.out, hlt, by show _ = Ending.returned (.tuple #[.int .i64 ((k + 1 : Nat) : Int), .bool (decide (av T L k (bc x (k + 1)) = 1))]); rw [HA.out]; rfl, HBel.out⟩
          · have HA : Hid (av T L k (bc x (k + 1)) = 0) := by rw [hbc.out]; exact av_zero g1 g2
            have hnew : Hid (∀ j, j < k + 1 → av T L j (bc x (j + 1)) = 0) := by
              intro j hj
              by_cases e : j = k
              · subst e; exact HA.out
              · exact hv.out j (by omega)
            go_wp2
            go_round
            case rel => exact ⟨k + 1, by omega, by go_num, by rw [hbc.out], hnew⟩
            case measure => simp [intOf]; omega
      · have hbc : Hid (bc x (k + 1) = bc x k + 1) := by unfold Hid; simp [bc, hx]
        rw [hx] at hck
        clear hx
        by_cases g1 : ((bc x k : Nat) : Int) + 1 ≤ T k
        · have HA : Hid (av T L k (bc x (k + 1)) = 1) := by rw [hbc.out]; exact av_one g1
          have HE : Hid (Ends T L x (k + 1)) := ⟨Nat.succ_pos _, fun j hj => hv.out j (by omega), by show av T L k (bc x (k + 1)) ≠ 0; rw [HA.out]; decide⟩
          go_wp2
          go_ret2
          exact ⟨k + 1, HE.out, hlt, by show _ = Ending.returned (.tuple #[.int .i64 ((k + 1 : Nat) : Int), .bool (decide (av T L k (bc x (k + 1)) = 1))]); rw [HA.out]; rfl, HBel.out⟩
        · by_cases g2 : L k ≤ ((bc x k : Nat) : Int) + 1
          · have HA : Hid (av T L k (bc x (k + 1)) = 2) := by rw [hbc.out]; exact av_two g1 g2
            have HE : Hid (Ends T L x (k + 1)) := ⟨Nat.succ_pos _, fun j hj => hv.out j (by omega), by show av T L k (bc x (k + 1)) ≠ 0; rw [HA.out]; decide⟩
            go_wp2
            go_ret2
            exact ⟨k + 1, HE.out, hlt, by show _ = Ending.returned (.tuple #[.int .i64 ((k + 1 : Nat) : Int), .bool (decide (av T L k (bc x (k + 1)) = 1))]); rw [HA.out]; rfl, HBel.out⟩
          · have HA : Hid (av T L k (bc x (k + 1)) = 0) := by rw [hbc.out]; exact av_zero g1 g2
            have hnew : Hid (∀ j, j < k + 1 → av T L j (bc x (j + 1)) = 0) := by
              intro j hj
              by_cases e : j = k
              · subst e; exact HA.out
              · exact hv.out j (by omega)
            go_wp2
            go_round
            case rel => exact ⟨k + 1, by omega, by go_num, by rw [hbc.out]; go_num, hnew⟩
            case measure => simp [intOf]; omega
    · have hn0 : False := by
        obtain rfl : n = k := by omega
        have h1 := hv.out (n - 1) (by omega)
        exact av_last HLast.out _ h1
      exact hn0.elim

end Go.Proofs.Ytcedhcpjnoppmaa
