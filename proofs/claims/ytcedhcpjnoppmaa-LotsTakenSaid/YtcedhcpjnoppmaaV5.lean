import Derived.Test.YtcedhcpjnoppmaaV1
namespace Go.Proofs.Ytcedhcpjnoppmaa
open Go.RowKit

set_option maxHeartbeats 4000000 in
set_option maxRecDepth 100000 in
theorem rvalid_any (aT : Option Addr) (n cT : Nat) (aL : Option Addr) (m cL : Nat) (T L : Nat → Int) (w : World) (hn : n ≤ 140737488351232) (hm : m ≤ 140737488351232) (hT : Ints w aT n T) (hL : Ints w aL m L) :
    Calls Try.prog 23 #[plV aT n cT aL m cL] w fun e w' => SomeB (isPlan n m T L) w e w' := by
  have HT := Lib.hid (fun o1 => (hT.keep (Nat.le_refl _) (below_one w o1) : Ints _ _ _ _))
  have HL := Lib.hid (fun o1 => (hL.keep (Nat.le_refl _) (below_one w o1) : Ints _ _ _ _))
  clear hT hL
  by_cases h1a : n < 1
  · have hf : Hid (isPlan n m T L = false) := isPlan_no fun h => by omega
    go_enter Try.func23, Try.ntmps23
    go_wp2
    go_ret
    exact ⟨by rw [hf.out]; rfl, below_one _ _⟩
  by_cases h1b : 12 < n
  · have hf : Hid (isPlan n m T L = false) := isPlan_no fun h => by omega
    go_enter Try.func23, Try.ntmps23
    go_wp2
    go_ret
    exact ⟨by rw [hf.out]; rfl, below_one _ _⟩
  have h1a' : (1 : Int) ≤ (n : Int) := by omega
  have h1b' : (n : Int) ≤ 12 := by omega
  by_cases h2 : m = n
  · subst h2
    go_enter Try.func23, Try.ntmps23
    go_wp2
    go_loop [25] (fun i => ∃ k : Nat, k ≤ m ∧ i = .int .i64 k ∧ Hid (∀ j, j < k → -1 ≤ T j ∧ T j ≤ m ∧ 0 ≤ L j ∧ L j ≤ m + 1 ∧ T j < L j)) (fun i => m - (intOf i).toNat)
    case atStart => exact ⟨0, Nat.zero_le _, rfl, fun j hj => absurd hj (Nat.not_lt_zero _)⟩
    case round =>
      obtain ⟨k, hk, rfl, hr⟩ := hrel
      by_cases hlt : k < m
      · obtain ⟨bT, oT, rfl, hcT⟩ := HT.out (.cells #[.slice aT m cT, .slice aL m cL] 24) k hlt
        obtain ⟨bL, oL, rfl, hcL⟩ := HL.out (.cells #[.slice (some ⟨bT, oT, none⟩) m cT, .slice aL m cL] 24) k hlt
        have hno : ∀ (h : ¬ (-1 ≤ T k ∧ T k ≤ m ∧ 0 ≤ L k ∧ L k ≤ m + 1 ∧ T k < L k)), Hid (isPlan m m T L = false) := fun h => isPlan_no fun hh => h (hh.2.2.2.1 k hlt)
        have HNo := Lib.hid hno
        clear hno
        by_cases g1 : T k < -1
        · have hf := HNo.out (by omega)
          go_wp2
          go_ret
          exact ⟨by rw [hf.out]; rfl, below_one _ _⟩
        by_cases g2 : (m : Int) < T k
        · have hf := HNo.out (by omega)
          go_wp2
          go_ret
          exact ⟨by rw [hf.out]; rfl, below_one _ _⟩
        by_cases g3 : L k < 0
        · have hf := HNo.out (by omega)
          go_wp2
          go_ret
          exact ⟨by rw [hf.out]; rfl, below_one _ _⟩
        by_cases g4 : (m : Int) + 1 < L k
        · have hf := HNo.out (by omega)
          go_wp2
          go_ret
          exact ⟨by rw [hf.out]; rfl, below_one _ _⟩
        by_cases g5 : L k ≤ T k
        · have hf := HNo.out (by omega)
          go_wp2
          go_ret
          exact ⟨by rw [hf.out]; rfl, below_one _ _⟩
        have hn : Hid (∀ j, j < k + 1 → -1 ≤ T j ∧ T j ≤ m ∧ 0 ≤ L j ∧ L j ≤ m + 1 ∧ T j < L j) := by
          intro j hj
          by_cases e : j = k
          · subst e; omega
          · exact hr.out j (by omega)
        have G : decide (L k ≤ T k) = false := by simp; omega
        go_wp2
        go_round
        case rel => exact ⟨k + 1, by omega, by go_num, hn⟩
        case measure => simp [intOf]; omega
      · obtain rfl : m = k := by omega
        have hlt' : m - 1 < m := by omega
        obtain ⟨bT, oT, rfl, hcT⟩ := HT.out (.cells #[.slice aT m cT, .slice aL m cL] 24) (m - 1) hlt'
        obtain ⟨bL, oL, rfl, hcL⟩ := HL.out (.cells #[.slice (some ⟨bT, oT, none⟩) m cT, .slice aL m cL] 24) (m - 1) hlt'
        have em : ((m : Int) - 1).toNat = m - 1 := by omega
        have t1 := hr.out (m - 1) hlt'
        have hf : Hid (isPlan m m T L = decide (L (m - 1) = T (m - 1) + 1)) := by
          unfold Hid isPlan
          exact decide_eq_decide.2 ⟨fun h => h.2.2.2.2, fun h => ⟨by omega, by omega, rfl, hr.out, h⟩⟩
        go_wp2
        go_quiet (fail)
        go_wp2
        go_ret
        exact ⟨by rw [hf.out]; rfl, below_drewN (below_one _ _) _⟩
  · have hf : Hid (isPlan n m T L = false) := isPlan_no fun h => h2 h.2.2.1
    have G : ((m : Int) != (n : Int)) = true := by simp; omega
    clear h2
    go_enter Try.func23, Try.ntmps23
    go_wp2
    go_ret
    exact ⟨by rw [hf.out]; rfl, below_one _ _⟩

theorem rvalid_r (r : Bool) (aT : Option Addr) (n cT : Nat) (aL : Option Addr) (m cL : Nat) (T L : Nat → Int) (w : World) (hr : isPlan n m T L = r) (hn : n ≤ 140737488351232) (hm : m ≤ 140737488351232) (hT : Ints w aT n T) (hL : Ints w aL m L) :
    Calls Try.prog 23 #[plV aT n cT aL m cL] w fun e w' => SomeB r w e w' := by
  subst hr; exact rvalid_any aT n cT aL m cL T L w hn hm hT hL

theorem ris_r (r : Bool) (Y O : Int) (w : World) (hr : isCh Y O = r) : Calls Try.prog 24 #[chV Y O] w fun e w' => SomeB r w e w' := by
  subst hr; exact ris_any Y O w

/-- A plan that is cut is one just if it was. -/
theorem isPlan_cut {n m : Nat} {T L : Nat → Int} : isPlan (min n 15) (min m 15) T L = isPlan n m T L := by
  rw [Bool.eq_iff_iff, isPlan_iff, isPlan_iff]
  constructor
  · rintro ⟨h1, h2, h3, h4, h5⟩
    have e1 : min n 15 = n := by omega
    have e2 : min m 15 = m := by omega
    rw [e1] at h1 h2 h3 h4 h5
    rw [e2] at h3
    exact ⟨h1, h2, h3, h4, h5⟩
  · rintro ⟨h1, h2, h3, h4, h5⟩
    have e1 : min n 15 = n := by omega
    have e2 : min m 15 = m := by omega
    rw [e1, e2]
    exact ⟨h1, h2, h3, h4, h5⟩

end Go.Proofs.Ytcedhcpjnoppmaa
