import Derived.Test.YtmbccdjoliegiaaT1
import Derived.Test.YtmbccdjoliegiaaL1
namespace Go.Proofs.Ytmbccdjoliegiaa
open Go.RowKit

theorem below_drewN (w : World) (q : Nat) : Below w.heap.size w (w.drewN q) := ⟨rfl, rfl, rfl, Nat.le_refl _, fun _ _ => rfl⟩

/-- Two slices with the same numbers are equal. -/
theorem equal_yes (ax ay : Option Addr) (cx cy n : Nat) (x : Nat → Int) (w : World) (hs : n ≤ 140737488351232) (hx : Ints w ax n x) (hy : Ints w ay n x) :
    Calls Try.prog 28 #[.slice ax n cx, .slice ay n cy] w fun e w' => e = .returned (.bool true) ∧ Below w.heap.size w w' := by
  refine (equal_any ax ay cx cy n n x x w hs hs hx hy).mono ?_
  rintro e w' ⟨rfl, q, rfl⟩
  exact ⟨by rw [eqN_iff.2 ⟨rfl, fun _ _ => rfl⟩], below_drewN w q⟩

set_option maxHeartbeats 4000000 in
set_option maxRecDepth 100000 in
theorem foldsTurns_core (W : World) (a : Option Addr) (n cap : Nat) (z : Nat → Int) (hn : n ≤ cap) (h8 : n * 8 ≤ 140737488355328) (hI : Ints W a n z) :
    Calls Try.prog 7 #[.slice a n cap] W fun e W' => e = .returned (.bool true) ∧ Below W.heap.size W W' := by
  have HI := Lib.hid hI
  have Hl1 := Lib.hid (list_any a cap n z W hn h8 hI)
  clear hI
  cases hP : isP n z
  · have HP : Hid (isP (min n 11) z = false) := by rw [Hid, isP_min]; exact hP
    have HP' := Lib.hid hP
    clear hP
    go_enter Try.func7, Try.ntmps7
    go_wp2_with fail
    refine Hl1.out.mono ?_
    rintro e w1 ⟨a1, c1, rfl, hO1, hb1⟩
    have HB1 := Lib.hid hb1
    have Hq := Lib.hid (turn_bad a1 c1 _ z w1 HP.out (by omega) hO1.ints)
    clear hO1 hb1
    go_wp2_with fail
    refine Hq.out.mono ?_
    rintro e w2 ⟨rfl, hb2⟩
    have HB2 : Hid (Below W.heap.size W w2) := HB1.out.trans (hb2.mono HB1.out.size)
    have Hl2 := Lib.hid (list_any a cap n z w2 hn h8 (HI.out.keep (Nat.le_refl _) HB2.out))
    clear hb2 HB1 Hq
    go_wp2_with fail
    refine Hl2.out.mono ?_
    rintro e w3 ⟨a3, c3, rfl, hO3, hb3⟩
    have HB3 : Hid (Below W.heap.size W w3) := HB2.out.trans (hb3.mono HB2.out.size)
    have Hq3 := Lib.hid (back_bad a3 c3 _ z w3 HP.out (by omega) hO3.ints)
    clear hO3 hb3 HB2 Hl2
    go_wp2_with fail
    refine Hq3.out.mono ?_
    rintro e w4 ⟨rfl, hb4⟩
    have HB4 : Hid (Below W.heap.size W w4) := HB3.out.trans (hb4.mono HB3.out.size)
    have Hs := Lib.hid (stripL_r false a cap n z _ HP'.out (by omega) (HI.out.keep (Nat.le_refl _) HB4.out))
    clear hb4 HB3 Hq3
    go_wp2_with fail
    refine Hs.out.mono ?_
    rintro e w5 ⟨rfl, rfl⟩
    go_wp2_with fail
    refine (awake_any _).mono ?_
    rintro e w6 ⟨rfl, hb6⟩
    have HB6 : Hid (Below W.heap.size W w6) := HB4.out.trans (hb6.mono HB4.out.size)
    clear hb6
    go_wp2
    go_ret
    exact ⟨rfl, HB6.out⟩
  · have hp := isP_iff.1 hP
    have hmin : min n 11 = n := by omega
    have h7 := hp.2.1
    have h1 := hp.1
    have HG := Lib.hid (all_good (n := n) (z := z) (by omega) hp.2.2)
    have HP := Lib.hid hP
    rw [hmin] at Hl1
    clear hP hp
    go_enter Try.func7, Try.ntmps7
    go_wp2_with fail
    refine Hl1.out.mono ?_
    rintro e w1 ⟨a1, c1, rfl, hO1, hb1⟩
    have HB1 := Lib.hid hb1
    have Hq := Lib.hid (turn_good a1 c1 _ z w1 HP.out hO1.ints)
    clear hO1 hb1
    go_wp2_with fail
    refine Hq.out.mono ?_
    rintro e w2 ⟨g2, c2, rfl, hc2a, hc2b, hg2, hR2, hb2⟩
    have HB2 : Hid (Below W.heap.size W w2) := HB1.out.trans (hb2.mono HB1.out.size)
    have HR2 := Lib.hid hR2.ints
    have hl2 := list_any a cap n z w2 hn h8 (HI.out.keep (Nat.le_refl _) HB2.out)
    rw [hmin] at hl2
    have Hl2 := Lib.hid hl2
    clear hb2 HB1 Hq hl2 hmin hR2 hg2 hc2a hc2b
    go_wp2_with fail
    refine Hl2.out.mono ?_
    rintro e w3 ⟨a3, c3, rfl, hO3, hb3⟩
    have HB3 : Hid (Below W.heap.size W w3) := HB2.out.trans (hb3.mono HB2.out.size)
    have HR3 := Lib.hid (HR2.out.keep (Nat.le_refl _) hb3)
    have Hq3 := Lib.hid (back_good a3 c3 _ z w3 HP.out hO3.ints)
    clear hO3 hb3 HB2 Hl2 HR2
    go_wp2_with fail
    refine Hq3.out.mono ?_
    rintro e w4 ⟨a4, c4, rfl, hO4, hb4⟩
    have HB4 : Hid (Below W.heap.size W w4) := HB3.out.trans (hb4.mono HB3.out.size)
    have HR4 := Lib.hid (HR3.out.keep (Nat.le_refl _) hb4)
    have HK4 := Lib.hid hO4.ints
    have HI4 := Lib.hid (HI.out.keep (Nat.le_refl _) HB4.out)
    have Hs := Lib.hid (stripL_r true a cap n z _ HP.out (by omega) HI4.out)
    have Ht := Lib.hid (rturn_any a cap n z w4 (by omega) HI4.out)
    clear hb4 HB3 Hq3 hO4 HR3
    go_wp2_with fail
    refine Hs.out.mono ?_
    rintro e w5 ⟨rfl, rfl⟩
    go_wp2_with fail
    refine Ht.out.mono ?_
    rintro e w6 ⟨a6, c6, rfl, hO6, hb6⟩
    have HB6 : Hid (Below W.heap.size W w6) := HB4.out.trans (hb6.mono HB4.out.size)
    have He6 := Lib.hid (equal_yes (some ⟨g2, 0, none⟩) a6 c2 c6 n (upN n z) w6 (by omega) (HR4.out.keep (Nat.le_refl _) hb6) hO6.ints)
    have HK6 := Lib.hid (HK4.out.keep (Nat.le_refl _) hb6)
    clear hb6 hO6 HR4 HK4 Ht Hs
    go_wp2_with fail
    refine He6.out.mono ?_
    rintro e w7 ⟨rfl, hb7⟩
    have HB7 : Hid (Below W.heap.size W w7) := HB6.out.trans (hb7.mono HB6.out.size)
    have HK7 := Lib.hid (HK6.out.keep (Nat.le_refl _) hb7)
    have Hb7 := Lib.hid (rback_any a cap n z w7 (by omega) HG.out (HI.out.keep (Nat.le_refl _) HB7.out))
    clear hb7 HK6 He6
    go_wp2_with fail
    refine Hb7.out.mono ?_
    rintro e w8 ⟨a8, c8, rfl, hO8, hb8⟩
    have HB8 : Hid (Below W.heap.size W w8) := HB7.out.trans (hb8.mono HB7.out.size)
    have He8 := Lib.hid (equal_yes a4 a8 c4 c8 n (backN n z) w8 (by omega) (HK7.out.keep (Nat.le_refl _) hb8) hO8.ints)
    clear hb8 hO8 HK7 Hb7
    go_wp2_with fail
    refine He8.out.mono ?_
    rintro e w9 ⟨rfl, hb9⟩
    have HB9 : Hid (Below W.heap.size W w9) := HB8.out.trans (hb9.mono HB8.out.size)
    clear hb9 He8
    go_wp2_with fail
    refine (awake_any _).mono ?_
    rintro e w10 ⟨rfl, hb10⟩
    have HB10 : Hid (Below W.heap.size W w10) := HB9.out.trans (hb10.mono HB9.out.size)
    clear hb10
    go_wp2
    go_ret
    exact ⟨rfl, HB10.out⟩

end Go.Proofs.Ytmbccdjoliegiaa
