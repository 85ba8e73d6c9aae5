import Derived.Test.YtaglbnblfhfkeaaB8
namespace Go.Proofs.Ytaglbnblfhfkeaa
open Go.RowKit

theorem isMat_cut {R : Nat} {L : Nat → Nat} {Z : Nat → Nat → Int} : isMat (min R 250) (fun j => min (L j) 6) Z = isMat R L Z := by
  rw [Bool.eq_iff_iff, isMat_iff, isMat_iff]
  constructor
  · rintro ⟨h1, h2, h3⟩
    have e : min R 250 = R := by omega
    rw [e] at h3
    refine ⟨by omega, by omega, fun j hj => ?_⟩
    have h0 := h3 0 (by omega)
    obtain ⟨k1, k2, k3, k4⟩ := h3 j hj
    simp only at k1 k2 k3 h0
    exact ⟨by omega, by omega, by omega, fun i hi => k4 i (by omega)⟩
  · rintro ⟨h1, h2, h3⟩
    have e : min R 250 = R := by omega
    rw [e]
    refine ⟨h1, h2, fun j hj => ?_⟩
    have h0 := h3 0 (by omega)
    obtain ⟨k1, k2, k3, k4⟩ := h3 j hj
    exact ⟨by omega, by omega, by omega, fun i hi => k4 i (by omega)⟩

theorem allIn_cut {n : Nat} {z : Nat → Int} {lo hi : Int} (h : n ≤ 6) : allIn z (min n 6) lo hi = allIn z n lo hi := by rw [show min n 6 = n by omega]

theorem isVec_cut {R : Nat} {L : Nat → Nat} {Z : Nat → Nat → Int} {n : Nat} {z : Nat → Int} {lo hi : Int} :
    isVec (min R 250) (fun j => min (L j) 6) Z (min n 6) z lo hi = isVec R L Z n z lo hi := by
  rw [Bool.eq_iff_iff, isVec_iff, isVec_iff, isMat_cut]
  constructor
  · rintro ⟨h1, h2, h3⟩
    have h4 := isMat_iff.1 h1
    have h5 := h4.2.2 0 (by omega)
    have e : n = L 0 := by omega
    exact ⟨h1, e, by rw [allIn_cut (by omega)] at h3; exact h3⟩
  · rintro ⟨h1, h2, h3⟩
    have h4 := isMat_iff.1 h1
    have h5 := h4.2.2 0 (by omega)
    exact ⟨h1, by omega, by rw [allIn_cut (by omega)]; exact h3⟩

theorem fitsArg_cut {n m : Nat} {x y : Nat → Int} : fitsArg (min n 6) (min m 6) x y = fitsArg n m x y := by
  rw [Bool.eq_iff_iff, fitsArg_iff, fitsArg_iff]
  constructor
  · rintro ⟨h1, h2, h3⟩
    rw [allIn_cut (by omega)] at h2 h3
    exact ⟨by omega, h2, h3⟩
  · rintro ⟨h1, h2, h3⟩
    rw [allIn_cut (by omega), allIn_cut (by omega)]
    exact ⟨by omega, h2, h3⟩

set_option maxHeartbeats 2000000 in
set_option maxRecDepth 100000 in
theorem law_core (a : Option Addr) (cap R : Nat) (A : Nat → Option Addr) (L C : Nat → Nat) (Z : Nat → Nat → Int) (ax : Option Addr) (n cx : Nat) (x : Nat → Int) (ay : Option Addr) (m cy : Nat) (y : Nat → Int) (W : World)
    (hR : R ≤ 140737488351232) (hM : Mat W a R A L C Z) (hn : n * 8 ≤ 140737488351232) (hnc : n ≤ cx) (hX : Ints W ax n x) (hm : m * 8 ≤ 140737488351232) (hmc : m ≤ cy) (hY : Ints W ay m y) :
    Calls Try.prog 3 #[.slice a R cap, .slice ax n cx, .slice ay m cy] W fun e w' => e = .returned (.bool true) ∧ Below W.heap.size W w' := by
  have HM := Lib.hid hM
  have HX := Lib.hid hX
  have HY := Lib.hid hY
  have HR := Lib.hid hR
  have Hn := Lib.hid hn
  have Hm := Lib.hid hm
  have Hnc := Lib.hid hnc
  have Hmc := Lib.hid hmc
  clear hM hX hY hR hn hm hnc hmc
  go_enter Try.func3, Try.ntmps3
  go_wp2_with fail
  refine (table_any _ _ _ _ _ _ _ _ HR.out HM.out).mono ?_
  rintro e w1 ⟨v1, rfl, hT, hb1⟩
  obtain ⟨A1, C1, hO⟩ := hT
  obtain ⟨at1, ct1, rfl, hM1, hc1, hc2⟩ := hO.mat (fun j _ => by omega)
  have HM1 := Lib.hid hM1
  have HB1 := Lib.hid hb1
  clear hO hM1 hc1 hc2 hb1
  go_wp2_with fail
  refine (list_any _ _ _ _ _ Hnc.out (by have := Hn.out; omega) (HX.out.keep (Nat.le_refl _) HB1.out)).mono ?_
  rintro e w2 ⟨ax2, cx2, rfl, hO2, hb2⟩
  have HB2 : Hid (Below W.heap.size W w2) := HB1.out.trans (hb2.mono HB1.out.size)
  have HM2 := Lib.hid (HM1.out.keep (Nat.le_refl _) hb2)
  have HX2 := Lib.hid hO2.ints
  clear hO2 hb2
  cases hV : isVec R L Z n x (-1000) 1000
  · have HV := Lib.hid hV
    clear hV
    go_wp2_with fail
    refine (times_no _ _ _ _ _ _ _ _ _ _ _ _ (by omega) (by omega) HM2.out HX2.out (by rw [isVec_cut]; exact HV.out)).mono ?_
    rintro e w3 ⟨rfl, hb⟩
    have HB3 : Hid (Below W.heap.size W w3) := HB2.out.trans (hb.mono HB2.out.size)
    have hR1 := HR.out
    clear hb
    go_wp2_with fail
    refine (list_any _ _ _ _ _ Hnc.out (by have := Hn.out; omega) (HX.out.keep (Nat.le_refl _) HB3.out)).mono ?_
    rintro e w4 ⟨ax4, cx4, rfl, hO4, hb4⟩
    have HB4 : Hid (Below W.heap.size W w4) := HB3.out.trans (hb4.mono HB3.out.size)
    have HX4 := Lib.hid hO4.ints
    clear hO4 hb4
    go_wp2_with fail
    refine (list_any _ _ _ _ _ Hmc.out (by have := Hm.out; omega) (HY.out.keep (Nat.le_refl _) HB4.out)).mono ?_
    rintro e w5 ⟨ay5, cy5, rfl, hO5, hb5⟩
    have HB5 : Hid (Below W.heap.size W w5) := HB4.out.trans (hb5.mono HB4.out.size)
    have HX5 := Lib.hid (HX4.out.keep (Nat.le_refl _) hb5)
    have HY5 := Lib.hid hO5.ints
    clear hO5 hb5
    cases hF : fitsArg n m x y
    · have HF := Lib.hid hF
      go_wp2_with fail
      refine (fits_no _ _ _ _ _ _ _ _ _ (by omega) (by omega) HX5.out HY5.out (by rw [fitsArg_cut]; exact HF.out)).mono ?_
      rintro e w6 ⟨rfl, hb6⟩
      have HB6 : Hid (Below W.heap.size W w6) := HB5.out.trans (hb6.mono HB5.out.size)
      clear hb6 hF HX5 HY5 HX4 HX2 HM2 HM1
      go_wp2_with fail
      refine (rvector_r false _ _ _ _ _ _ _ _ _ _ _ _ _ _ HV.out HR.out (HM.out.keep (Nat.le_refl _) HB6.out) (by have := Hn.out; omega) (HX.out.keep (Nat.le_refl _) HB6.out)).mono ?_
      rintro e w7 ⟨rfl, rfl⟩
      have HBL := Lib.hid HB6.out
      have HXL := Lib.hid (HX.out.keep (Nat.le_refl _) HBL.out)
      have HYL := Lib.hid (HY.out.keep (Nat.le_refl _) HBL.out)
      have hnn := Hn.out
      have hmm := Hm.out
      have hcase : n < 1 ∨ 4 < n ∨ (1 ≤ n ∧ n ≤ 4 ∧ m ≠ n) ∨ (1 ≤ n ∧ n ≤ 4 ∧ m = n ∧ allIn x n (-1000) 1000 = false) ∨ (1 ≤ n ∧ n ≤ 4 ∧ m = n ∧ allIn x n (-1000) 1000 = true ∧ allIn y m (-1000) 1000 = false) := by
        have h := HF.out
        by_cases h1 : 1 ≤ n ∧ n ≤ 4 ∧ m = n
        · cases e1 : allIn x n (-1000) 1000
          · exact Or.inr (Or.inr (Or.inr (Or.inl ⟨h1.1, h1.2.1, h1.2.2, rfl⟩)))
          · cases e2 : allIn y m (-1000) 1000
            · exact Or.inr (Or.inr (Or.inr (Or.inr ⟨h1.1, h1.2.1, h1.2.2, rfl, rfl⟩)))
            · rw [fitsArg_iff.2 ⟨h1, e1, e2⟩] at h; cases h
        · omega
      clear hR1
      rcases hcase with h1 | h1 | ⟨h1, h2, h3⟩ | ⟨h1, h2, h3, h4⟩ | ⟨h1, h2, h3, h4, h5⟩
      · go_wp2_with fail
        refine (awake_any _).mono ?_
        rintro e w9 ⟨rfl, hb9⟩
        have HB9 : Hid (Below W.heap.size W w9) := HBL.out.trans (hb9.mono HBL.out.size)
        go_wp2
        go_ret
        exact ⟨rfl, HB9.out⟩
      · go_wp2_with fail
        refine (awake_any _).mono ?_
        rintro e w9 ⟨rfl, hb9⟩
        have HB9 : Hid (Below W.heap.size W w9) := HBL.out.trans (hb9.mono HBL.out.size)
        go_wp2
        go_ret
        exact ⟨rfl, HB9.out⟩
      · have G : ((m : Int) != (n : Int)) = true := by simp; omega
        go_wp2_with fail
        refine (awake_any _).mono ?_
        rintro e w9 ⟨rfl, hb9⟩
        have HB9 : Hid (Below W.heap.size W w9) := HBL.out.trans (hb9.mono HBL.out.size)
        go_wp2
        go_ret
        exact ⟨rfl, HB9.out⟩
      · have G : ((m : Int) != (n : Int)) = false := by simp; omega
        have H4 := Lib.hid h4
        clear h3 h4
        go_wp2_with fail
        refine (numbers_r false _ _ _ _ _ _ _ H4.out (by omega) HXL.out).mono ?_
        rintro e w9 ⟨rfl, rfl⟩
        go_wp2_with fail
        refine (awake_any _).mono ?_
        rintro e w9 ⟨rfl, hb9⟩
        have HB9 : Hid (Below W.heap.size W w9) := HBL.out.trans (hb9.mono HBL.out.size)
        go_wp2
        go_ret
        exact ⟨rfl, HB9.out⟩
      · have G : ((m : Int) != (n : Int)) = false := by simp; omega
        have H4 := Lib.hid h4
        have H5 := Lib.hid h5
        clear h3 h4 h5
        go_wp2_with fail
        refine (numbers_r true _ _ _ _ _ _ _ H4.out (by omega) HXL.out).mono ?_
        rintro e w9 ⟨rfl, rfl⟩
        go_wp2_with fail
        refine (numbers_r false _ _ _ _ _ _ _ H5.out (by omega) HYL.out).mono ?_
        rintro e w9 ⟨rfl, rfl⟩
        go_wp2_with fail
        refine (awake_any _).mono ?_
        rintro e w9 ⟨rfl, hb9⟩
        have HB9 : Hid (Below W.heap.size W w9) := HBL.out.trans (hb9.mono HBL.out.size)
        go_wp2
        go_ret
        exact ⟨rfl, HB9.out⟩
    · have HF := Lib.hid hF
      obtain ⟨⟨h1, h2, h3⟩, h4, h5⟩ := fitsArg_iff.1 hF
      have H4 := Lib.hid h4
      have H5 := Lib.hid h5
      have H3 := Lib.hid h3
      clear h3 h4 h5
      go_wp2_with fail
      refine (fits_yes _ _ _ _ _ _ _ _ _ HX5.out HY5.out (by rw [fitsArg_cut]; exact HF.out)).mono ?_
      rintro e w6 ⟨rfl, hb6⟩
      rw [show min n 6 = n by omega]
      have HB6 : Hid (Below W.heap.size W w6) := HB5.out.trans (hb6.mono HB5.out.size)
      clear hb6 hF HX5 HY5 HX4 HX2 HM2 HM1
      go_wp2_with fail
      refine (rvector_r false _ _ _ _ _ _ _ _ _ _ _ _ _ _ HV.out HR.out (HM.out.keep (Nat.le_refl _) HB6.out) (by have := Hn.out; omega) (HX.out.keep (Nat.le_refl _) HB6.out)).mono ?_
      rintro e w7 ⟨rfl, rfl⟩
      have HBL := Lib.hid HB6.out
      have HXL := Lib.hid (HX.out.keep (Nat.le_refl _) HBL.out)
      have HYL := Lib.hid (HY.out.keep (Nat.le_refl _) HBL.out)
      have hnn := Hn.out
      have hmm := Hm.out
      have G : ((m : Int) != (n : Int)) = false := by have := H3.out; simp; omega
      have hnm : n ≤ m := by have := H3.out; omega
      clear hR1
      go_wp2_with fail
      refine (numbers_r true _ _ _ _ _ _ _ H4.out (by omega) HXL.out).mono ?_
      rintro e w9 ⟨rfl, rfl⟩
      go_wp2_with fail
      refine (numbers_r true _ _ _ _ _ _ _ H5.out (by omega) HYL.out).mono ?_
      rintro e w9 ⟨rfl, rfl⟩
      go_wp2_with fail
      refine (rfits_any _ _ _ _ _ _ _ _ _ (by omega) hnm HXL.out HYL.out).mono ?_
      rintro e w9 ⟨rfl, rfl⟩
      have G2 : (fitsN x y n == fitsN x y n) = true := by simp
      go_wp2_with fail
      refine (awake_any _).mono ?_
      rintro e w9 ⟨rfl, hb9⟩
      have HB9 : Hid (Below W.heap.size W w9) := HBL.out.trans (hb9.mono HBL.out.size)
      go_wp2
      go_ret
      exact ⟨rfl, HB9.out⟩
  · have HV := Lib.hid hV
    have hV2 := isVec_iff.1 hV
    have hM2 := isMat_iff.1 hV2.1
    have Ht : Hid (Tame R n L Z x) := by
      have h0 := (hM2.2.2 0 (by omega)).2.2.1
      refine ⟨hM2.2.1, by omega, fun j hj => by have := (hM2.2.2 j hj).1; omega, fun j hj i hi => (hM2.2.2 j hj).2.2.2 i (by have := (hM2.2.2 j hj).1; omega), fun i hi => ?_⟩
      have := allIn_iff.1 hV2.2.2 i hi
      omega
    have He : Hid (∀ k, k ≤ R → eqN (min k 250) k (fun j => dotN (Z j) x (min n 6)) (fun j => dotN (Z j) x n) = true) := by
      intro k hk
      have hr := Ht.out.rows
      have hn4 := Ht.out.len
      rw [show min n 6 = n by omega]
      exact eqN_iff.2 ⟨by omega, fun _ _ => rfl⟩
    clear hV hV2 hM2
    go_wp2_with fail
    refine (times_yes _ _ _ _ _ _ _ _ _ _ _ _ HM2.out HX2.out (by rw [isVec_cut]; exact HV.out)).mono ?_
    rintro e w3 ⟨ap3, cp3, rfl, hp, hb⟩
    have HB3 : Hid (Below W.heap.size W w3) := HB2.out.trans (hb.mono HB2.out.size)
    have HP3 := Lib.hid hp.ints
    have hR1 := HR.out
    clear hb hp
    go_wp2_with fail
    refine (list_any _ _ _ _ _ Hnc.out (by have := Hn.out; omega) (HX.out.keep (Nat.le_refl _) HB3.out)).mono ?_
    rintro e w4 ⟨ax4, cx4, rfl, hO4, hb4⟩
    have HB4 : Hid (Below W.heap.size W w4) := HB3.out.trans (hb4.mono HB3.out.size)
    have HX4 := Lib.hid hO4.ints
    have HP4 := Lib.hid (HP3.out.keep (Nat.le_refl _) hb4)
    clear hO4 hb4
    go_wp2_with fail
    refine (list_any _ _ _ _ _ Hmc.out (by have := Hm.out; omega) (HY.out.keep (Nat.le_refl _) HB4.out)).mono ?_
    rintro e w5 ⟨ay5, cy5, rfl, hO5, hb5⟩
    have HB5 : Hid (Below W.heap.size W w5) := HB4.out.trans (hb5.mono HB4.out.size)
    have HX5 := Lib.hid (HX4.out.keep (Nat.le_refl _) hb5)
    have HY5 := Lib.hid hO5.ints
    have HP5 := Lib.hid (HP4.out.keep (Nat.le_refl _) hb5)
    clear hO5 hb5
    cases hF : fitsArg n m x y
    · have HF := Lib.hid hF
      go_wp2_with fail
      refine (fits_no _ _ _ _ _ _ _ _ _ (by omega) (by omega) HX5.out HY5.out (by rw [fitsArg_cut]; exact HF.out)).mono ?_
      rintro e w6 ⟨rfl, hb6⟩
      have HB6 : Hid (Below W.heap.size W w6) := HB5.out.trans (hb6.mono HB5.out.size)
      have HP6 := Lib.hid (HP5.out.keep (Nat.le_refl _) hb6)
      clear hb6 hF HX5 HY5 HX4 HX2 HM2 HM1
      go_wp2_with fail
      refine (rvector_r true _ _ _ _ _ _ _ _ _ _ _ _ _ _ HV.out HR.out (HM.out.keep (Nat.le_refl _) HB6.out) (by have := Hn.out; omega) (HX.out.keep (Nat.le_refl _) HB6.out)).mono ?_
      rintro e w7 ⟨rfl, rfl⟩
      go_wp2_with fail
      refine (rtimes_any _ _ _ _ _ _ _ _ _ _ _ _ (HM.out.keep (Nat.le_refl _) HB6.out) (HX.out.keep (Nat.le_refl _) HB6.out) Ht.out).mono ?_
      rintro e w7 ⟨ap7, cp7, rfl, hp7, hb7⟩
      have HB7 : Hid (Below W.heap.size W w7) := HB6.out.trans (hb7.mono HB6.out.size)
      have HP7 := Lib.hid (HP6.out.keep (Nat.le_refl _) hb7)
      have HQ7 := Lib.hid hp7.ints
      clear hp7 hb7
      go_wp2_with fail
      refine (equal_r true _ _ _ _ _ _ _ _ _ (He.out _ (Nat.le_refl _)) (by omega) hR1 HP7.out HQ7.out).mono ?_
      rintro e w8 ⟨rfl, q8, rfl⟩
      have HBL : Hid (Below W.heap.size W (w7.drewN q8)) := below_drewN HB7.out q8
      have HXL := Lib.hid (HX.out.keep (Nat.le_refl _) HBL.out)
      have HYL := Lib.hid (HY.out.keep (Nat.le_refl _) HBL.out)
      have hnn := Hn.out
      have hmm := Hm.out
      have hcase : n < 1 ∨ 4 < n ∨ (1 ≤ n ∧ n ≤ 4 ∧ m ≠ n) ∨ (1 ≤ n ∧ n ≤ 4 ∧ m = n ∧ allIn x n (-1000) 1000 = false) ∨ (1 ≤ n ∧ n ≤ 4 ∧ m = n ∧ allIn x n (-1000) 1000 = true ∧ allIn y m (-1000) 1000 = false) := by
        have h := HF.out
        by_cases h1 : 1 ≤ n ∧ n ≤ 4 ∧ m = n
        · cases e1 : allIn x n (-1000) 1000
          · exact Or.inr (Or.inr (Or.inr (Or.inl ⟨h1.1, h1.2.1, h1.2.2, rfl⟩)))
          · cases e2 : allIn y m (-1000) 1000
            · exact Or.inr (Or.inr (Or.inr (Or.inr ⟨h1.1, h1.2.1, h1.2.2, rfl, rfl⟩)))
            · rw [fitsArg_iff.2 ⟨h1, e1, e2⟩] at h; cases h
        · omega
      clear hR1
      rcases hcase with h1 | h1 | ⟨h1, h2, h3⟩ | ⟨h1, h2, h3, h4⟩ | ⟨h1, h2, h3, h4, h5⟩
      · go_wp2_with fail
        refine (awake_any _).mono ?_
        rintro e w9 ⟨rfl, hb9⟩
        have HB9 : Hid (Below W.heap.size W w9) := HBL.out.trans (hb9.mono HBL.out.size)
        go_wp2
        go_ret
        exact ⟨rfl, HB9.out⟩
      · go_wp2_with fail
        refine (awake_any _).mono ?_
        rintro e w9 ⟨rfl, hb9⟩
        have HB9 : Hid (Below W.heap.size W w9) := HBL.out.trans (hb9.mono HBL.out.size)
        go_wp2
        go_ret
        exact ⟨rfl, HB9.out⟩
      · have G : ((m : Int) != (n : Int)) = true := by simp; omega
        go_wp2_with fail
        refine (awake_any _).mono ?_
        rintro e w9 ⟨rfl, hb9⟩
        have HB9 : Hid (Below W.heap.size W w9) := HBL.out.trans (hb9.mono HBL.out.size)
        go_wp2
        go_ret
        exact ⟨rfl, HB9.out⟩
      · have G : ((m : Int) != (n : Int)) = false := by simp; omega
        have H4 := Lib.hid h4
        clear h3 h4
        go_wp2_with fail
        refine (numbers_r false _ _ _ _ _ _ _ H4.out (by omega) HXL.out).mono ?_
        rintro e w9 ⟨rfl, rfl⟩
        go_wp2_with fail
        refine (awake_any _).mono ?_
        rintro e w9 ⟨rfl, hb9⟩
        have HB9 : Hid (Below W.heap.size W w9) := HBL.out.trans (hb9.mono HBL.out.size)
        go_wp2
        go_ret
        exact ⟨rfl, HB9.out⟩
      · have G : ((m : Int) != (n : Int)) = false := by simp; omega
        have H4 := Lib.hid h4
        have H5 := Lib.hid h5
        clear h3 h4 h5
        go_wp2_with fail
        refine (numbers_r true _ _ _ _ _ _ _ H4.out (by omega) HXL.out).mono ?_
        rintro e w9 ⟨rfl, rfl⟩
        go_wp2_with fail
        refine (numbers_r false _ _ _ _ _ _ _ H5.out (by omega) HYL.out).mono ?_
        rintro e w9 ⟨rfl, rfl⟩
        go_wp2_with fail
        refine (awake_any _).mono ?_
        rintro e w9 ⟨rfl, hb9⟩
        have HB9 : Hid (Below W.heap.size W w9) := HBL.out.trans (hb9.mono HBL.out.size)
        go_wp2
        go_ret
        exact ⟨rfl, HB9.out⟩
    · have HF := Lib.hid hF
      obtain ⟨⟨h1, h2, h3⟩, h4, h5⟩ := fitsArg_iff.1 hF
      have H4 := Lib.hid h4
      have H5 := Lib.hid h5
      have H3 := Lib.hid h3
      clear h3 h4 h5
      go_wp2_with fail
      refine (fits_yes _ _ _ _ _ _ _ _ _ HX5.out HY5.out (by rw [fitsArg_cut]; exact HF.out)).mono ?_
      rintro e w6 ⟨rfl, hb6⟩
      rw [show min n 6 = n by omega]
      have HB6 : Hid (Below W.heap.size W w6) := HB5.out.trans (hb6.mono HB5.out.size)
      have HP6 := Lib.hid (HP5.out.keep (Nat.le_refl _) hb6)
      clear hb6 hF HX5 HY5 HX4 HX2 HM2 HM1
      go_wp2_with fail
      refine (rvector_r true _ _ _ _ _ _ _ _ _ _ _ _ _ _ HV.out HR.out (HM.out.keep (Nat.le_refl _) HB6.out) (by have := Hn.out; omega) (HX.out.keep (Nat.le_refl _) HB6.out)).mono ?_
      rintro e w7 ⟨rfl, rfl⟩
      go_wp2_with fail
      refine (rtimes_any _ _ _ _ _ _ _ _ _ _ _ _ (HM.out.keep (Nat.le_refl _) HB6.out) (HX.out.keep (Nat.le_refl _) HB6.out) Ht.out).mono ?_
      rintro e w7 ⟨ap7, cp7, rfl, hp7, hb7⟩
      have HB7 : Hid (Below W.heap.size W w7) := HB6.out.trans (hb7.mono HB6.out.size)
      have HP7 := Lib.hid (HP6.out.keep (Nat.le_refl _) hb7)
      have HQ7 := Lib.hid hp7.ints
      clear hp7 hb7
      go_wp2_with fail
      refine (equal_r true _ _ _ _ _ _ _ _ _ (He.out _ (Nat.le_refl _)) (by omega) hR1 HP7.out HQ7.out).mono ?_
      rintro e w8 ⟨rfl, q8, rfl⟩
      have HBL : Hid (Below W.heap.size W (w7.drewN q8)) := below_drewN HB7.out q8
      have HXL := Lib.hid (HX.out.keep (Nat.le_refl _) HBL.out)
      have HYL := Lib.hid (HY.out.keep (Nat.le_refl _) HBL.out)
      have hnn := Hn.out
      have hmm := Hm.out
      have G : ((m : Int) != (n : Int)) = false := by have := H3.out; simp; omega
      have hnm : n ≤ m := by have := H3.out; omega
      clear hR1
      go_wp2_with fail
      refine (numbers_r true _ _ _ _ _ _ _ H4.out (by omega) HXL.out).mono ?_
      rintro e w9 ⟨rfl, rfl⟩
      go_wp2_with fail
      refine (numbers_r true _ _ _ _ _ _ _ H5.out (by omega) HYL.out).mono ?_
      rintro e w9 ⟨rfl, rfl⟩
      go_wp2_with fail
      refine (rfits_any _ _ _ _ _ _ _ _ _ (by omega) hnm HXL.out HYL.out).mono ?_
      rintro e w9 ⟨rfl, rfl⟩
      have G2 : (fitsN x y n == fitsN x y n) = true := by simp
      go_wp2_with fail
      refine (awake_any _).mono ?_
      rintro e w9 ⟨rfl, hb9⟩
      have HB9 : Hid (Below W.heap.size W w9) := HBL.out.trans (hb9.mono HBL.out.size)
      go_wp2
      go_ret
      exact ⟨rfl, HB9.out⟩
end Go.Proofs.Ytaglbnblfhfkeaa
