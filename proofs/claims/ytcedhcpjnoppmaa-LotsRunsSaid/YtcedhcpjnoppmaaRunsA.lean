import Derived.Test.YtcedhcpjnoppmaaR4
namespace Go.Proofs.Ytcedhcpjnoppmaa
open Go.RowKit

set_option maxHeartbeats 4000000 in
set_option maxRecDepth 100000 in
theorem runs_a (aT : Option Addr) (n cT : Nat) (aL : Option Addr) (m cL : Nat) (T L : Nat → Int) (aX : Option Addr) (nX cX : Nat) (x : Nat → Bool) (w : World) (z1 : nX ≤ 15)
    (hn : n ≤ cT) (hn8 : n * 8 ≤ 140737488355328) (hm : m ≤ cL) (hm8 : m * 8 ≤ 140737488355328) (hT : Ints w aT n T) (hL : Ints w aL m L) (hX : Bools w aX nX x) (hcX : nX ≤ cX) (hX8 : nX ≤ 140737488355328) :
    Calls Try.prog 4 #[plV aT n cT aL m cL, .slice aX nX cX] w fun e w' => SomeB true w e w' := by
  have HX1 := Lib.hid hX
  have HT := Lib.hid hT
  have HL := Lib.hid hL
  have HX := Lib.hid hX
  have Hn := Lib.hid hn
  have Hm := Lib.hid hm
  have Hn8 := Lib.hid hn8
  have Hm8 := Lib.hid hm8
  clear hT hL hX hn hm hn8 hm8
  have HB0 := Lib.hid (PlAt.start (aT := aT) (nT := n) (cT := cT) (aL := aL) (nL := m) (cL := cL) (P := 24) w)
  obtain ⟨q1, q2, q3⟩ := HB0.out.cells
  go_enter Try.func4, Try.ntmps4
  go_upto_region 1 with fail
  go_cut [5, 6, 7] (fun s5 s6 s7 wx => ∃ (k : Nat) (r : Bool) (z : Int), s5 = .int .i64 (k : Int) ∧ s6 = .bool r ∧ s7 = .int .i64 z ∧ PlAt aT n cT aL m cL 24 w wx ∧ Hid (((isPlan (min n 15) (min m 15) T L && decide (nX = min n 15)) = true → Ends T L x k ∧ k ≤ min n 15 ∧ r = decide (av T L (k - 1) (bc x k) = 1) ∧ z = 0) ∧ ((isPlan (min n 15) (min m 15) T L && decide (nX = min n 15)) = false → k = 0 ∧ r = false ∧ z = 2)))
  case first =>
    go_region_with (first
      | (go_at_call 20; refine (of_any aT n cT aL m cL T L _ Hn.out Hn8.out Hm.out Hm8.out (HT.out.keep (Nat.le_refl _) HB0.out.drew.bel) (HL.out.keep (Nat.le_refl _) HB0.out.drew.bel)).mono ?_; rintro e w1 ⟨a1, c1, a2, c2, rfl, hO1, hO2, hb1⟩; have HI1 := Lib.hid hO1; have HI2 := Lib.hid hO2; have HB1 := Lib.hid (HB0.out.drew.keep hb1); obtain ⟨q1, q2, q3⟩ := HB1.out.cells; clear hO1 hO2 hb1)
      | (go_at_call 30; refine (cloneB_any aX cX nX x _ (by omega) (HX1.out.keep (Nat.le_refl _) HB1.out.bel)).mono ?_; rintro e w2 ⟨a3, c3, rfl, hO3, hb2⟩; have HI3 := Lib.hid hO3; have HI1' := Lib.hid (HI1.out.keep (Nat.le_refl _) hb2); have HI2' := Lib.hid (HI2.out.keep (Nat.le_refl _) hb2); have HB2 := Lib.hid (HB1.out.keep hb2); clear q1 q2 q3; obtain ⟨q1, q2, q3⟩ := HB2.out.cells; clear hO3 hb2)
      | (go_at_call 29; refine (run_all (isPlan (min n 15) (min m 15) T L && decide (nX = min n 15)) a1 (min n 15) c1 a2 (min m 15) c2 T L a3 nX c3 x _ rfl (by omega) (by omega) HI1'.out HI2'.out HI3.out).mono ?_; rintro e w3 ⟨k, r, z, rfl, hb3, hk1, hk2⟩; have HK := Lib.hid (And.intro hk1 hk2); have HB3 := Lib.hid (HB2.out.keep hb3); clear hb3 hk1 hk2))
    all_goals go_wp2
    all_goals go_meet
    all_goals exact ⟨k, r, z, rfl, rfl, rfl, HB3.out, HK.out⟩
  case rest =>
    obtain ⟨k, r, z, rfl, rfl, rfl, hB3, hK⟩ := hcut
    have HB3 := Lib.hid hB3
    clear hB3 q1 q2 q3
    obtain ⟨q1, q2, q3⟩ := HB3.out.cells
    cases hp : isPlan n m T L
    · have HP := Lib.hid hp
      have HK : Hid (k = 0 ∧ r = false ∧ z = 2) := hK.out.2 (by rw [isPlan_cut, hp]; rfl)
      obtain ⟨rfl, rfl, rfl⟩ := HK.out
      clear hp hK HK
      go_wp2_with fail
      refine (rvalid_r false aT n cT aL m cL T L _ HP.out (by have := Hn8.out; omega) (by have := Hm8.out; omega) (HT.out.keep (Nat.le_refl _) HB3.out.bel) (HL.out.keep (Nat.le_refl _) HB3.out.bel)).mono ?_
      rintro e w4 ⟨rfl, hb4⟩
      have HB4 := Lib.hid (HB3.out.keep hb4)
      clear hb4 q1 q2 q3
      obtain ⟨q1, q2, q3⟩ := HB4.out.cells
      go_wp2_with fail
      refine (awake_any _).mono ?_
      rintro e w6 ⟨rfl, hb6⟩
      have HB6 := Lib.hid (HB4.out.keep hb6)
      clear hb6
      go_wp2
      go_ret
      exact ⟨rfl, HB6.out.bel⟩
    · have HP := Lib.hid hp
      have hpp := isPlan_iff.1 hp
      by_cases he : nX = n
      · have HK : Hid (Ends T L x k ∧ k ≤ min n 15 ∧ r = decide (av T L (k - 1) (bc x k) = 1) ∧ z = 0) := hK.out.1 (by rw [isPlan_cut, hp, he]; simp; omega)
        subst he
        have hn12 := hpp.2.1
        have hmn : m ≤ nX := by omega
        obtain ⟨hE, hk, rfl, rfl⟩ := HK.out
        have HE := Lib.hid hE
        have HK2 := Lib.hid hk
        clear hE hk HK hp hpp hK
        go_wp2_with fail
        refine (rvalid_r true aT nX cT aL m cL T L _ HP.out (by omega) (by omega) (HT.out.keep (Nat.le_refl _) HB3.out.bel) (HL.out.keep (Nat.le_refl _) HB3.out.bel)).mono ?_
        rintro e w4 ⟨rfl, hb4⟩
        have HB4 := Lib.hid (HB3.out.keep hb4)
        clear hb4 q1 q2 q3
        obtain ⟨q1, q2, q3⟩ := HB4.out.cells
        go_wp2_with fail
        refine (rrun_any aT nX cT aL m cL T L aX cX x _ HP.out (HT.out.keep (Nat.le_refl _) HB4.out.bel) (HL.out.keep (Nat.le_refl _) HB4.out.bel) (HX.out.keep (Nat.le_refl _) HB4.out.bel)).mono ?_
        rintro e w5 ⟨k', hE', hk', rfl, hb5⟩
        have HB5 := Lib.hid (HB4.out.keep hb5)
        have he := HE.out.unique hE'
        subst he
        clear hb5 hE' q1 q2 q3
        go_wp2_with fail
        refine (awake_any _).mono ?_
        rintro e w6 ⟨rfl, hb6⟩
        have HB6 := Lib.hid (HB5.out.keep hb6)
        clear hb6
        go_wp2
        go_ret
        exact ⟨rfl, HB6.out.bel⟩
      · have HK : Hid (k = 0 ∧ r = false ∧ z = 2) := hK.out.2 (by rw [isPlan_cut, hp]; simp; omega)
        obtain ⟨rfl, rfl, rfl⟩ := HK.out
        have G : ((nX : Int) != (n : Int)) = true := by simp; omega
        clear hp hpp hK HK he
        go_wp2_with fail
        refine (rvalid_r true aT n cT aL m cL T L _ HP.out (by have := Hn8.out; omega) (by have := Hm8.out; omega) (HT.out.keep (Nat.le_refl _) HB3.out.bel) (HL.out.keep (Nat.le_refl _) HB3.out.bel)).mono ?_
        rintro e w4 ⟨rfl, hb4⟩
        have HB4 := Lib.hid (HB3.out.keep hb4)
        clear hb4 q1 q2 q3
        obtain ⟨q1, q2, q3⟩ := HB4.out.cells
        go_wp2_with fail
        refine (awake_any _).mono ?_
        rintro e w6 ⟨rfl, hb6⟩
        have HB6 := Lib.hid (HB4.out.keep hb6)
        clear hb6
        go_wp2
        go_ret
        exact ⟨rfl, HB6.out.bel⟩

end Go.Proofs.Ytcedhcpjnoppmaa
