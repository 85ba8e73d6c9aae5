import Derived.Test.YtaglbnblfhfkeaaG4
namespace Go.Proofs.Ytaglbnblfhfkeaa
open Go.RowKit

set_option maxHeartbeats 8000000 in
set_option maxRecDepth 100000 in
theorem sums_bad (a : Option Addr) (cap R : Nat) (A : Nat → Option Addr) (L C : Nat → Nat) (Z : Nat → Nat → Int) (ax : Option Addr) (n cx : Nat) (x : Nat → Int) (W : World)
    (hR : R ≤ 140737488351232) (hM : Mat W a R A L C Z) (hn : n * 8 ≤ 140737488351232) (hnc : n ≤ cx) (hX : Ints W ax n x) (hS : isVec R L Z n x (-100) 100 = false) :
    Calls Try.prog 10 #[.slice a R cap, .slice ax n cx] W fun e w' => Fine W e w' := by
  have HM := Lib.hid hM
  have HR := Lib.hid hR
  have HX := Lib.hid hX
  have Hn := Lib.hid hn
  have Hnc := Lib.hid hnc
  have HS := Lib.hid hS
  clear hM hR hX hn hnc hS
  go_enter Try.func10, Try.ntmps10
  go_wp2_with fail
  refine (table_out _ _ _ _ _ _ _ _ HR.out HM.out).mono ?_
  rintro e w1 ⟨a1, c1, A1, C1, rfl, hM1, hb1⟩
  have HM1 := Lib.hid hM1
  have HB1 := Lib.hid hb1
  clear hM1 hb1
  go_wp2_with fail
  refine (list_out _ _ _ _ _ Hnc.out (by have := Hn.out; omega) (HX.out.keep (Nat.le_refl _) HB1.out)).mono ?_
  rintro e w2 ⟨a2, c2, rfl, hX2, hb2⟩
  have HX2 := Lib.hid hX2
  have HM2 := Lib.hid (HM1.out.keep (Nat.le_refl _) hb2)
  have HB2 : Hid (Below W.heap.size W w2) := HB1.out.trans (hb2.mono HB1.out.size)
  clear hX2 hb2
  go_wp2_with fail
  refine (fSplit_fails _ _ _ (readBoth_bad _ _ _ _ _ _ _ _ _ _ _ _ _ _ HR.out (by have := Hn.out; omega) HM2.out HX2.out HS.out)).mono ?_
  rintro e w3 ⟨rfl, hb3⟩
  have HB3 : Hid (Below W.heap.size W w3) := HB2.out.trans (hb3.mono HB2.out.size)
  clear hb3
  go_wp2_with fail
  refine (table_out _ _ _ _ _ _ _ _ HR.out (HM.out.keep (Nat.le_refl _) HB3.out)).mono ?_
  rintro e w4 ⟨a4, c4, A4, C4, rfl, hM4, hb4⟩
  have HM4 := Lib.hid hM4
  have HB4 : Hid (Below W.heap.size W w4) := HB3.out.trans (hb4.mono HB3.out.size)
  clear hM4 hb4
  go_wp2_with fail
  refine (list_out _ _ _ _ _ Hnc.out (by have := Hn.out; omega) (HX.out.keep (Nat.le_refl _) HB4.out)).mono ?_
  rintro e w5 ⟨a5, c5, rfl, hX5, hb5⟩
  have HX5 := Lib.hid hX5
  have HM5 := Lib.hid (HM4.out.keep (Nat.le_refl _) hb5)
  have HB5 : Hid (Below W.heap.size W w5) := HB4.out.trans (hb5.mono HB4.out.size)
  clear hX5 hb5
  cases hT : isVec R L Z n x (-1000) 1000
  · have HT := Lib.hid hT
    clear hT
    go_wp2_with fail
    refine (times_no _ _ _ _ _ _ _ _ _ _ _ _ (by omega) (by omega) HM5.out HX5.out (by rw [isVec_cut]; exact HT.out)).mono ?_
    rintro e w6 ⟨rfl, hb6⟩
    have HB6 : Hid (Below W.heap.size W w6) := HB5.out.trans (hb6.mono HB5.out.size)
    clear hb6
    go_wp2_with fail
    refine (rvector_r false _ _ _ _ _ _ _ _ _ _ _ _ _ _ HS.out HR.out (HM.out.keep (Nat.le_refl _) HB6.out) (by have := Hn.out; omega) (HX.out.keep (Nat.le_refl _) HB6.out)).mono ?_
    rintro e w7 ⟨rfl, rfl⟩
    go_wp2_with fail
    refine (awake_any _).mono ?_
    rintro e w8 ⟨rfl, hb8⟩
    have HB8 : Hid (Below W.heap.size W w8) := HB6.out.trans (hb8.mono HB6.out.size)
    clear hb8
    go_wp2
    go_ret
    exact ⟨rfl, HB8.out⟩
  · have HT := Lib.hid hT
    clear hT
    go_wp2_with fail
    refine (times_yes _ _ _ _ _ _ _ _ _ _ _ _ HM5.out HX5.out (by rw [isVec_cut]; exact HT.out)).mono ?_
    rintro e w6 ⟨ap, cp, rfl, hO6, hb6⟩
    have HB6 : Hid (Below W.heap.size W w6) := HB5.out.trans (hb6.mono HB5.out.size)
    clear hb6 hO6
    go_wp2_with fail
    refine (rvector_r false _ _ _ _ _ _ _ _ _ _ _ _ _ _ HS.out HR.out (HM.out.keep (Nat.le_refl _) HB6.out) (by have := Hn.out; omega) (HX.out.keep (Nat.le_refl _) HB6.out)).mono ?_
    rintro e w7 ⟨rfl, rfl⟩
    go_wp2_with fail
    refine (awake_any _).mono ?_
    rintro e w8 ⟨rfl, hb8⟩
    have HB8 : Hid (Below W.heap.size W w8) := HB6.out.trans (hb8.mono HB6.out.size)
    clear hb8
    go_wp2
    go_ret
    exact ⟨rfl, HB8.out⟩

theorem isVec_wide {R : Nat} {L : Nat → Nat} {Z : Nat → Nat → Int} {n : Nat} {x : Nat → Int} (h : isVec R L Z n x (-100) 100 = true) : isVec R L Z n x (-1000) 1000 = true := by
  obtain ⟨h1, h2, h3⟩ := isVec_iff.1 h
  exact isVec_iff.2 ⟨h1, h2, allIn_iff.2 fun j hj => by have := allIn_iff.1 h3 j hj; omega⟩

set_option maxHeartbeats 8000000 in
set_option maxRecDepth 100000 in
theorem sums_none (a : Option Addr) (cap R : Nat) (A : Nat → Option Addr) (L C : Nat → Nat) (Z : Nat → Nat → Int) (ax : Option Addr) (n cx : Nat) (x : Nat → Int) (W : World)
    (hR : R ≤ 140737488351232) (hM : Mat W a R A L C Z) (hn : n * 8 ≤ 140737488351232) (hnc : n ≤ cx) (hX : Ints W ax n x) (hS : isVec R L Z n x (-100) 100 = true) (hmv : isMoveB (mxOf R L Z) (vecN x n) = false) :
    Calls Try.prog 10 #[.slice a R cap, .slice ax n cx] W fun e w' => Fine W e w' := by
  have hv := isVec_iff.1 hS
  have hmi := isMat_iff.1 hv.1
  have hLi := hmi.2.2 0 (by omega)
  have HE1 : Hid (min R 250 = R) := by simp only [Hid]; omega
  have HE2 : Hid (min n 6 = n) := by simp only [Hid]; omega
  have HXn : Hid (Vec.norm (vecN x n) ≤ 400) := norm_near (vecN_near (by omega) hv.2.2)
  have HMX := Lib.hid (mxOf_ok hv.1)
  have HP : Hid (someP R (fun j => dotN (Z j) x n != 0) = true) := by rw [Hid, prods_move hv.1 hv.2.1, hmv]; rfl
  have HMV : Hid (¬ isMove (mxOf R L Z) (vecN x n)) := fun h => by rw [← isMoveB_iff, hmv] at h; cases h
  have HM := Lib.hid hM
  have HR := Lib.hid hR
  have HX := Lib.hid hX
  have Hn := Lib.hid hn
  have Hnc := Lib.hid hnc
  have HS := Lib.hid hS
  have EG : Hid (∀ args w, (callFunc 52 args).run Try.prog w = .ok (.enter 52 args) w) := enters_of Try.func52 (by kernel_rfl) rfl
  clear hM hR hX hn hnc hS hv hmi hLi hmv
  go_enter Try.func10, Try.ntmps10
  go_wp2_with fail
  refine (table_out _ _ _ _ _ _ _ _ HR.out HM.out).mono ?_
  rintro e w1 ⟨a1, c1, A1, C1, rfl, hM1, hb1⟩
  have HM1 := Lib.hid hM1
  have HB1 := Lib.hid hb1
  clear hM1 hb1
  go_wp2_with fail
  refine (list_out _ _ _ _ _ Hnc.out (by have := Hn.out; omega) (HX.out.keep (Nat.le_refl _) HB1.out)).mono ?_
  rintro e w2 ⟨a2, c2, rfl, hX2, hb2⟩
  have HX2 := Lib.hid hX2
  have HM2 := Lib.hid (HM1.out.keep (Nat.le_refl _) hb2)
  have HB2 : Hid (Below W.heap.size W w2) := HB1.out.trans (hb2.mono HB1.out.size)
  clear hX2 hb2
  go_wp2_with fail
  refine (fSplit_none _ _ _ _ _ HMX.out HMV.out HXn.out (readBoth_good _ c1 _ _ _ _ _ _ _ c2 _ _ _ _ HM2.out HX2.out HS.out)).mono ?_
  rintro e w3 ⟨rfl, hb3⟩
  have HB3 : Hid (Below W.heap.size W w3) := HB2.out.trans (hb3.mono HB2.out.size)
  clear hb3
  go_wp2_with fail
  refine (table_out _ _ _ _ _ _ _ _ HR.out (HM.out.keep (Nat.le_refl _) HB3.out)).mono ?_
  rintro e w4 ⟨a4, c4, A4, C4, rfl, hM4, hb4⟩
  have HM4 := Lib.hid hM4
  have HB4 : Hid (Below W.heap.size W w4) := HB3.out.trans (hb4.mono HB3.out.size)
  clear hM4 hb4
  go_wp2_with fail
  refine (list_out _ _ _ _ _ Hnc.out (by have := Hn.out; omega) (HX.out.keep (Nat.le_refl _) HB4.out)).mono ?_
  rintro e w5 ⟨a5, c5, rfl, hX5, hb5⟩
  have HX5 := Lib.hid hX5
  have HM5 := Lib.hid (HM4.out.keep (Nat.le_refl _) hb5)
  have HB5 : Hid (Below W.heap.size W w5) := HB4.out.trans (hb5.mono HB4.out.size)
  clear hX5 hb5
  go_wp2_with fail
  refine (times_yes _ _ _ _ _ _ _ _ _ _ _ _ HM5.out HX5.out (by rw [isVec_cut]; exact isVec_wide HS.out)).mono ?_
  rintro e w6 ⟨ap, cp, rfl, hO6, hb6⟩
  have HP6 := Lib.hid hO6.ints
  have HB6 : Hid (Below W.heap.size W w6) := HB5.out.trans (hb6.mono HB5.out.size)
  clear hb6 hO6
  go_wp2_with fail
  refine (rvector_r true _ _ _ _ _ _ _ _ _ _ _ _ _ _ HS.out HR.out (HM.out.keep (Nat.le_refl _) HB6.out) (by have := Hn.out; omega) (HX.out.keep (Nat.le_refl _) HB6.out)).mono ?_
  rintro e w7 ⟨rfl, rfl⟩
  go_wp2_with fail
  refine (containsI_r true 52 #[] (fun j => dotN (Z j) x (min n 6) != 0) _ _ _ _ _ (by rw [HE1.out, HE2.out]; exact HP.out) (by omega) HP6.out EG.out (fun j _ q => sumsClo1 _ _ q)).mono ?_
  rintro e w8 ⟨rfl, q8, h8⟩
  have HB8 : Hid (Below W.heap.size W w8) := below_drawn HB6.out h8
  clear h8
  go_wp2_with fail
  refine (awake_any _).mono ?_
  rintro e w9 ⟨rfl, hb9⟩
  have HB9 : Hid (Below W.heap.size W w9) := HB8.out.trans (hb9.mono HB8.out.size)
  clear hb9
  go_wp2
  go_ret
  exact ⟨rfl, HB9.out⟩
end Go.Proofs.Ytaglbnblfhfkeaa
