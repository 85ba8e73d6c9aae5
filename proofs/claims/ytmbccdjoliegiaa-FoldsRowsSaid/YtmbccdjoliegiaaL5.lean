import Derived.Test.YtmbccdjoliegiaaT4
import Derived.Test.YtmbccdjoliegiaaL2
namespace Go.Proofs.Ytmbccdjoliegiaa
open Go.RowKit

/-- After the two calls of the law: what came back, and the world. -/
theorem list_min {a : Option Addr} {n cap : Nat} {z : Nat → Int} {W w : World} (hn : n ≤ cap) (h8 : n * 8 ≤ 140737488355328) (hI : Ints W a n z) (hmin : min n 11 = n) (hw : Below W.heap.size W w) :
    Calls Try.prog 16 #[.slice a n cap] w fun e w' => ∃ a' cap', e = .returned (.slice a' n cap') ∧ Own w' w.heap.size a' n cap' z ∧ Below w.heap.size w w' := by
  have := list_any a cap n z w hn h8 (hI.keep (Nat.le_refl _) hw)
  rw [hmin] at this; exact this

set_option maxHeartbeats 8000000 in
set_option maxRecDepth 100000 in
theorem foldsCreases_core (W : World) (a : Option Addr) (n cap : Nat) (z : Nat → Int) (hn : n ≤ cap) (h8 : n * 8 ≤ 140737488355328) (hI : Ints W a n z) :
    Calls Try.prog 5 #[.slice a n cap] W fun e W' => e = .returned (.bool true) ∧ Below W.heap.size W W' := by
  have HI := Lib.hid hI
  have Hl1 := Lib.hid (list_any a cap n z W hn h8 hI)
  clear hI
  cases hP : isP n z
  · have HP : Hid (isP (min n 11) z = false) := by rw [Hid, isP_min]; exact hP
    have HP' := Lib.hid hP
    clear hP
    go_enter Try.func5, Try.ntmps5
    go_wp2_with fail
    refine Hl1.out.mono ?_
    rintro e w1 ⟨a1, c1, rfl, hO1, hb1⟩
    have HB1 := Lib.hid hb1
    have Hq := Lib.hid (creases_bad a1 c1 _ z w1 HP.out (by omega) hO1.ints)
    clear hO1 hb1
    go_wp2_with fail
    refine Hq.out.mono ?_
    rintro e w2 ⟨rfl, hb2⟩
    have HB2 : Hid (Below W.heap.size W w2) := HB1.out.trans (hb2.mono HB1.out.size)
    have Hl2 := Lib.hid (list_any a cap n z w2 hn h8 (HI.out.keep (Nat.le_refl _) HB2.out))
    clear hb2 HB1 Hq
    go_wp2_with fail
    refine Hl2.out.mono ?_
    rintro e w3 ⟨a3, c3, rfl, hO3, hb3⟩
    have HB3 : Hid (Below W.heap.size W w3) := HB2.out.trans (hb3.mono HB2.out.size)
    have Hq3 := Lib.hid (open_bad a3 c3 _ z w3 HP.out (by omega) hO3.ints)
    clear hO3 hb3 HB2 Hl2
    go_wp2_with fail
    refine Hq3.out.mono ?_
    rintro e w4 ⟨rfl, hb4⟩
    have HB4 : Hid (Below W.heap.size W w4) := HB3.out.trans (hb4.mono HB3.out.size)
    have Hs := Lib.hid (stripL_r false a cap n z _ HP'.out (by omega) (HI.out.keep (Nat.le_refl _) HB4.out))
    clear hb4 HB3 Hq3
    go_wp2_with fail
    refine Hs.out.mono ?_
    rintro e w5 ⟨rfl, rfl⟩
    go_wp2_with fail
    refine (awake_any _).mono ?_
    rintro e w6 ⟨rfl, hb6⟩
    have HB6 : Hid (Below W.heap.size W w6) := HB4.out.trans (hb6.mono HB4.out.size)
    clear hb6
    go_wp2
    go_ret
    exact ⟨rfl, HB6.out⟩
  · have hp := isP_iff'.1 hP
    have hmin : min n 11 = n := by omega
    have h7 := hp.2.1
    have h1 := hp.1
    have HG := Lib.hid hp.2.2
    have HP := Lib.hid hP
    have HL : Hid (∀ w, Below W.heap.size W w → Calls Try.prog 16 #[.slice a n cap] w fun e w' => ∃ a' cap', e = .returned (.slice a' n cap') ∧ Own w' w.heap.size a' n cap' z ∧ Below w.heap.size w w') := fun w hw => list_min hn h8 HI.out hmin hw
    have HS : Hid (∀ w, Below W.heap.size W w → Calls Try.prog 18 #[.slice a n cap] w fun e w' => e = .returned (.bool true) ∧ w = w') := fun w hw => stripL_r true a cap n z w HP.out (by omega) (HI.out.keep (Nat.le_refl _) hw)
    have HRP : Hid (∀ w, Below W.heap.size W w → Calls Try.prog 21 #[.slice a n cap] w fun e w' => e = .returned (.bool (poss n z)) ∧ Below w.heap.size w w') := fun w hw => rpossible_any a cap n z w HP.out (HI.out.keep (Nat.le_refl _) hw)
    have HRC : Hid (∀ w, Below W.heap.size W w → Calls Try.prog 31 #[.slice a n cap] w fun e w' => e = .returned (.int .i64 (mts n z (n - 1))) ∧ Below w.heap.size w w') := fun w hw => rcreases_any a cap n z w h1 (by omega) HG.out (HI.out.keep (Nat.le_refl _) hw)
    have hMM : ((mts n z (n - 1) : Int) == (mts n z (n - 1) : Int)) = true := by simp
    clear hP hp hmin Hl1
    go_enter Try.func5, Try.ntmps5
    go_wp2_with fail
    refine (HL.out _ (Below.refl _ _)).mono ?_
    rintro e w1 ⟨a1, c1, rfl, hO1, hb1⟩
    have HB1 := Lib.hid hb1
    have Hq := Lib.hid (creases_good a1 c1 _ z w1 HP.out hO1.ints)
    clear hO1 hb1
    go_wp2_with fail
    refine Hq.out.mono ?_
    rintro e w2 ⟨hcr, hb2⟩
    have HB2 : Hid (Below W.heap.size W w2) := HB1.out.trans (hb2.mono HB1.out.size)
    clear hb2 HB1 Hq
    rcases hcr with ⟨hpo, rfl⟩ | ⟨hpo, rfl⟩
    · have HPo := Lib.hid hpo
      clear hpo
      go_wp2_with fail
      refine (HL.out _ HB2.out).mono ?_
      rintro e w3 ⟨a3, c3, rfl, hO3, hb3⟩
      have HB3 : Hid (Below W.heap.size W w3) := HB2.out.trans (hb3.mono HB2.out.size)
      by_cases h2 : 2 ≤ n
      · have Hq3 := Lib.hid (open_good a3 c3 n z w3 hO3.cap.1 (by have := hO3.cap.2; unfold maxLen at this; omega) HP.out h2 HPo.out hO3.ints)
        have HRO : Hid (∀ w, Below W.heap.size W w → Calls Try.prog 32 #[.slice a n cap] w fun e w' => ∃ a' c', e = .returned (.slice a' (n - 1) c') ∧ Own w' w.heap.size a' (n - 1) c' (opN n z) ∧ Below w.heap.size w w') := fun w hw => ropen_any a cap n z w h2 (by omega) HG.out (HI.out.keep (Nat.le_refl _) hw)
        clear hO3 hb3 HB2
        go_wp2_with fail
        refine Hq3.out.mono ?_
        rintro e w4 ⟨a4, c4, rfl, hO4, hb4⟩
        have HB4 : Hid (Below W.heap.size W w4) := HB3.out.trans (hb4.mono HB3.out.size)
        have HO4 := Lib.hid hO4.ints
        clear hO4 hb4 HB3 Hq3
        go_wp2_with fail
        refine (HS.out _ HB4.out).mono ?_
        rintro e w5 ⟨rfl, rfl⟩
        go_wp2_with fail
        refine (HRP.out _ HB4.out).mono ?_
        rintro e w6 ⟨rfl, hb6⟩
        have HB6 : Hid (Below W.heap.size W w6) := HB4.out.trans (hb6.mono HB4.out.size)
        have HO6 := Lib.hid (HO4.out.keep (Nat.le_refl _) hb6)
        rw [HPo.out]
        clear hb6 HB4 HO4
        go_wp2_with fail
        refine (HRC.out _ HB6.out).mono ?_
        rintro e w7 ⟨rfl, hb7⟩
        have HB7 : Hid (Below W.heap.size W w7) := HB6.out.trans (hb7.mono HB6.out.size)
        have HO7 := Lib.hid (HO6.out.keep (Nat.le_refl _) hb7)
        clear hb7 HB6 HO6
        go_wp2_with fail
        refine (HRO.out _ HB7.out).mono ?_
        rintro e w8 ⟨a8, c8, rfl, hO8, hb8⟩
        have HB8 : Hid (Below W.heap.size W w8) := HB7.out.trans (hb8.mono HB7.out.size)
        have He8 := Lib.hid (equal_yes a4 a8 c4 c8 (n - 1) (opN n z) w8 (by omega) (HO7.out.keep (Nat.le_refl _) hb8) hO8.ints)
        clear hb8 HB7 HO7 hO8
        go_wp2_with fail
        refine He8.out.mono ?_
        rintro e w9 ⟨rfl, hb9⟩
        have HB9 : Hid (Below W.heap.size W w9) := HB8.out.trans (hb9.mono HB8.out.size)
        clear hb9 HB8 He8
        go_wp2_with fail
        refine (awake_any _).mono ?_
        rintro e w10 ⟨rfl, hb10⟩
        have HB10 : Hid (Below W.heap.size W w10) := HB9.out.trans (hb10.mono HB9.out.size)
        clear hb10
        go_wp2
        go_ret
        exact ⟨rfl, HB10.out⟩
      · have hn2 : n < 2 := by omega
        have Hq3 := Lib.hid (open_one a3 c3 n z w3 HP.out hn2 hO3.ints)
        clear hO3 hb3 HB2 h2
        go_wp2_with fail
        refine Hq3.out.mono ?_
        rintro e w4 ⟨rfl, hb4⟩
        have HB4 : Hid (Below W.heap.size W w4) := HB3.out.trans (hb4.mono HB3.out.size)
        clear hb4 HB3 Hq3
        go_wp2_with fail
        refine (HS.out _ HB4.out).mono ?_
        rintro e w5 ⟨rfl, rfl⟩
        go_wp2_with fail
        refine (HRC.out _ HB4.out).mono ?_
        rintro e w7 ⟨rfl, hb7⟩
        have HB7 : Hid (Below W.heap.size W w7) := HB4.out.trans (hb7.mono HB4.out.size)
        clear hb7 HB4
        go_wp2_with fail
        refine (awake_any _).mono ?_
        rintro e w10 ⟨rfl, hb10⟩
        have HB10 : Hid (Below W.heap.size W w10) := HB7.out.trans (hb10.mono HB7.out.size)
        clear hb10
        go_wp2
        go_ret
        exact ⟨rfl, HB10.out⟩
    · have HPo := Lib.hid hpo
      have h2 : 2 ≤ n := by
        refine Decidable.byContradiction fun h => ?_
        have : poss n z = true := poss_iff.2 (fun i j h1 h2 => by omega)
        rw [hpo] at this; cases this
      clear hpo
      go_wp2_with fail
      refine (HL.out _ HB2.out).mono ?_
      rintro e w3 ⟨a3, c3, rfl, hO3, hb3⟩
      have HB3 : Hid (Below W.heap.size W w3) := HB2.out.trans (hb3.mono HB2.out.size)
      have Hq3 := Lib.hid (open_state a3 c3 n z w3 HP.out h2 HPo.out hO3.ints)
      clear hO3 hb3 HB2
      go_wp2_with fail
      refine Hq3.out.mono ?_
      rintro e w4 ⟨rfl, hb4⟩
      have HB4 : Hid (Below W.heap.size W w4) := HB3.out.trans (hb4.mono HB3.out.size)
      clear hb4 HB3 Hq3
      go_wp2_with fail
      refine (HS.out _ HB4.out).mono ?_
      rintro e w5 ⟨rfl, rfl⟩
      go_wp2_with fail
      refine (HRP.out _ HB4.out).mono ?_
      rintro e w6 ⟨rfl, hb6⟩
      have HB6 : Hid (Below W.heap.size W w6) := HB4.out.trans (hb6.mono HB4.out.size)
      rw [HPo.out]
      clear hb6 HB4
      go_wp2_with fail
      refine (awake_any _).mono ?_
      rintro e w10 ⟨rfl, hb10⟩
      have HB10 : Hid (Below W.heap.size W w10) := HB6.out.trans (hb10.mono HB6.out.size)
      clear hb10
      go_wp2
      go_ret
      exact ⟨rfl, HB10.out⟩

end Go.Proofs.Ytmbccdjoliegiaa
