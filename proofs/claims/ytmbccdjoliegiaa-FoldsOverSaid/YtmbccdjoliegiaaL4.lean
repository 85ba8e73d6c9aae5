import Derived.Test.YtmbccdjoliegiaaT2
import Derived.Test.YtmbccdjoliegiaaL2
namespace Go.Proofs.Ytmbccdjoliegiaa
open Go.RowKit

theorem bxor (a b : Nat) (ha : a < 2 ^ 61) (hb : b < 2 ^ 61) : bits .xor .i64 (a : Int) (b : Int) = ((a ^^^ b : Nat) : Int) := by
  have e64 : (2 : Nat) ^ 61 < 2 ^ 64 := by decide
  have ha' : a % 2 ^ 64 = a := Nat.mod_eq_of_lt (by omega)
  have hb' : b % 2 ^ 64 = b := Nat.mod_eq_of_lt (by omega)
  have hx : a ^^^ b < 2 ^ 61 := Nat.xor_lt_two_pow ha hb
  show IntKind.i64.wrap ((BitVec.ofInt 64 (a : Int) ^^^ BitVec.ofInt 64 (b : Int)).toNat : Int) = _
  simp only [BitVec.ofInt_natCast, BitVec.toNat_xor, BitVec.toNat_ofNat, ha', hb']
  refine wraps_i64 _ (Int.natCast_nonneg _) ?_
  have e1 : (2 : Int) ^ 62 = 4611686018427387904 := by decide
  have e2 : (2 : Nat) ^ 61 = 2305843009213693952 := by decide
  omega

theorem mtB_pos {n : Nat} {z : Nat → Int} (i : Nat) : mtB n z i = (decide (pos n z i < pos n z (i + 1)) == decide (i % 2 = 0)) := rfl
theorem mtB_up {n : Nat} {z : Nat → Int} (h : goodP n z n) {i : Nat} (hi : i + 1 < n) : mtB n (upN n z) i = !mtB n z i := by
  rw [mtB_pos, mtB_pos, pos_up h (show i < n by omega), pos_up h hi]
  have hne := pos_ne h (show i < n by omega) hi (by omega)
  rcases Int.lt_or_gt_of_ne hne with hh | hh
  · have e1 : decide ((n : Int) - 1 - pos n z i < (n : Int) - 1 - pos n z (i + 1)) = false := by simp; omega
    have e2 : decide (pos n z i < pos n z (i + 1)) = true := by simp; omega
    rw [e1, e2]
    cases decide (i % 2 = 0) <;> rfl
  · have e1 : decide ((n : Int) - 1 - pos n z i < (n : Int) - 1 - pos n z (i + 1)) = true := by simp; omega
    have e2 : decide (pos n z i < pos n z (i + 1)) = false := by simp; omega
    rw [e1, e2]
    cases decide (i % 2 = 0) <;> rfl
theorem mts_up {n : Nat} {z : Nat → Int} (h : goodP n z n) : mts n z (n - 1) ^^^ mts n (upN n z) (n - 1) = 2 ^ (n - 1) - 1 := by
  refine Nat.eq_of_testBit_eq fun x => ?_
  rw [Nat.testBit_xor, mts_bit, mts_bit, Nat.testBit_two_pow_sub_one]
  by_cases e : x < n - 1
  · rw [mtB_up h (by omega)]
    simp [e]
  · simp [e]
theorem up_up {n : Nat} {z : Nat → Int} : ∀ j, j < n → upN n (upN n z) j = z j := fun j hj => by unfold upN; congr 1; omega
theorem back_back {n : Nat} {z : Nat → Int} : ∀ j, j < n → backN n (backN n z) j = z j := fun j _ => by unfold backN; omega
theorem Ints.congr {w : World} {a : Option Addr} {n : Nat} {x y : Nat → Int} (h : Ints w a n x) (e : ∀ j, j < n → x j = y j) : Ints w a n y := fun j hj => by
  obtain ⟨b, o, ha, hc⟩ := h j hj
  exact ⟨b, o, ha, by rw [← e j hj]; exact hc⟩

theorem pow_full (n : Nat) (h1 : 1 ≤ n) (h7 : n ≤ 7) : ∃ q : Nat, q = 2 ^ (n - 1) - 1 ∧ q < 64 := ⟨_, rfl, by
  have : n = 1 ∨ n = 2 ∨ n = 3 ∨ n = 4 ∨ n = 5 ∨ n = 6 ∨ n = 7 := by omega
  rcases this with rfl | rfl | rfl | rfl | rfl | rfl | rfl <;> decide⟩

set_option maxHeartbeats 8000000 in
set_option maxRecDepth 100000 in
theorem foldsOver_core (W : World) (a : Option Addr) (n cap : Nat) (z : Nat → Int) (hn : n ≤ cap) (h8 : n * 8 ≤ 140737488355328) (hI : Ints W a n z) :
    Calls Try.prog 10 #[.slice a n cap] W fun e W' => e = .returned (.bool true) ∧ Below W.heap.size W W' := by
  have HI := Lib.hid hI
  have Hl1 := Lib.hid (list_any a cap n z W hn h8 hI)
  clear hI
  cases hP : isP n z
  · have HP : Hid (isP (min n 11) z = false) := by rw [Hid, isP_min]; exact hP
    clear hP
    go_enter Try.func10, Try.ntmps10
    go_wp2_with fail
    refine Hl1.out.mono ?_
    rintro e w1 ⟨a1, c1, rfl, hO1, hb1⟩
    have HB1 := Lib.hid hb1
    have Hq := Lib.hid (turn_bad a1 c1 _ z w1 HP.out (by omega) hO1.ints)
    clear hO1 hb1
    go_wp2_with fail
    refine Hq.out.mono ?_
    rintro e w2 ⟨rfl, hb2⟩
    have HB2 : Hid (Below W.heap.size W w2) := HB1.out.trans (hb2.mono HB1.out.size)
    have Hl2 := Lib.hid (list_any a cap n z w2 hn h8 (HI.out.keep (Nat.le_refl _) HB2.out))
    clear hb2 HB1 Hq
    go_wp2_with fail
    refine Hl2.out.mono ?_
    rintro e w3 ⟨a3, c3, rfl, hO3, hb3⟩
    have HB3 : Hid (Below W.heap.size W w3) := HB2.out.trans (hb3.mono HB2.out.size)
    have Hq3 := Lib.hid (back_bad a3 c3 _ z w3 HP.out (by omega) hO3.ints)
    clear hO3 hb3 HB2 Hl2
    go_wp2_with fail
    refine Hq3.out.mono ?_
    rintro e w4 ⟨rfl, hb4⟩
    have HB4 : Hid (Below W.heap.size W w4) := HB3.out.trans (hb4.mono HB3.out.size)
    clear hb4 HB3 Hq3
    go_wp2_with fail
    refine (awake_any _).mono ?_
    rintro e w6 ⟨rfl, hb6⟩
    have HB6 : Hid (Below W.heap.size W w6) := HB4.out.trans (hb6.mono HB4.out.size)
    clear hb6
    go_wp2
    go_ret
    exact ⟨rfl, HB6.out⟩
  · have hp := isP_iff'.1 hP
    have hmin : min n 11 = n := by omega
    have h7 := hp.2.1
    have h1 := hp.1
    have HG := Lib.hid hp.2.2
    have HP := Lib.hid hP
    have HPu : Hid (isP n (upN n z) = true) := isP_iff'.2 ⟨h1, h7, good_up hp.2.2⟩
    have HPb : Hid (isP n (backN n z) = true) := isP_iff'.2 ⟨h1, h7, good_back (by omega) hp.2.2⟩
    have HQu : Hid (poss n (upN n z) = poss n z) := poss_up hp.2.2
    have HQb : Hid (poss n (backN n z) = poss n z) := poss_back (by omega) hp.2.2
    have HL : Hid (∀ w, Below W.heap.size W w → Calls Try.prog 16 #[.slice a n cap] w fun e w' => ∃ a' cap', e = .returned (.slice a' n cap') ∧ Own w' w.heap.size a' n cap' z ∧ Below w.heap.size w w') := fun w hw => by
      have := list_any a cap n z w hn h8 (HI.out.keep (Nat.le_refl _) hw)
      rw [hmin] at this; exact this
    clear hP hp hmin Hl1
    go_enter Try.func10, Try.ntmps10
    go_wp2_with fail
    refine (HL.out _ (Below.refl _ _)).mono ?_
    rintro e w1 ⟨a1, c1, rfl, hO1, hb1⟩
    have HB1 := Lib.hid hb1
    have Hq := Lib.hid (turn_good a1 c1 _ z w1 HP.out hO1.ints)
    clear hO1 hb1
    go_wp2_with fail
    refine Hq.out.mono ?_
    rintro e w2 ⟨ga, ca, rfl, hca, hca2, hg2, hR2, hb2⟩
    have HB2 : Hid (Below W.heap.size W w2) := HB1.out.trans (hb2.mono HB1.out.size)
    have HA2 := Lib.hid hR2.ints
    clear hb2 HB1 Hq hR2 hg2 hca hca2
    go_wp2_with fail
    refine (HL.out _ HB2.out).mono ?_
    rintro e w3 ⟨a3, c3, rfl, hO3, hb3⟩
    have HB3 : Hid (Below W.heap.size W w3) := HB2.out.trans (hb3.mono HB2.out.size)
    have HA3 := Lib.hid (HA2.out.keep (Nat.le_refl _) hb3)
    have Hq3 := Lib.hid (back_good a3 c3 _ z w3 HP.out hO3.ints)
    clear hO3 hb3 HB2 HA2
    go_wp2_with fail
    refine Hq3.out.mono ?_
    rintro e w4 ⟨ab, cb, rfl, hO4, hb4⟩
    have HB4 : Hid (Below W.heap.size W w4) := HB3.out.trans (hb4.mono HB3.out.size)
    have HA4 := Lib.hid (HA3.out.keep (Nat.le_refl _) hb4)
    have HK4 := Lib.hid hO4.ints
    have Hs := Lib.hid (stripL_r true a cap n z _ HP.out (by omega) (HI.out.keep (Nat.le_refl _) HB4.out))
    clear hb4 HB3 Hq3 hO4 HA3
    go_wp2_with fail
    refine Hs.out.mono ?_
    rintro e w5 ⟨rfl, rfl⟩
    -- the possible ones
    go_wp2_with fail
    refine (HL.out _ HB4.out).mono ?_
    rintro e w6 ⟨a6, c6, rfl, hO6, hb6⟩
    have HB6 : Hid (Below W.heap.size W w6) := HB4.out.trans (hb6.mono HB4.out.size)
    have HA6 := Lib.hid (HA4.out.keep (Nat.le_refl _) hb6)
    have HK6 := Lib.hid (HK4.out.keep (Nat.le_refl _) hb6)
    have Hq6 := Lib.hid (possible_good a6 c6 _ z w6 HP.out hO6.ints)
    clear hO6 hb6 HB4 HA4 HK4 Hs
    go_wp2_with fail
    refine Hq6.out.mono ?_
    rintro e w7 ⟨rfl, hb7⟩
    have HB7 : Hid (Below W.heap.size W w7) := HB6.out.trans (hb7.mono HB6.out.size)
    have HA7 := Lib.hid (HA6.out.keep (Nat.le_refl _) hb7)
    have HK7 := Lib.hid (HK6.out.keep (Nat.le_refl _) hb7)
    have Hc7 := Lib.hid (clone_any (some ⟨ga, 0, none⟩) ca n (upN n z) w7 (by omega) HA7.out)
    clear hb7 HB6 HA6 HK6 Hq6
    go_wp2_with fail
    refine Hc7.out.mono ?_
    rintro e w8 ⟨a8, c8, rfl, hO8, hb8⟩
    have HB8 : Hid (Below W.heap.size W w8) := HB7.out.trans (hb8.mono HB7.out.size)
    have HA8 := Lib.hid (HA7.out.keep (Nat.le_refl _) hb8)
    have HK8 := Lib.hid (HK7.out.keep (Nat.le_refl _) hb8)
    have hq8 := possible_good a8 c8 _ (upN n z) w8 HPu.out hO8.ints
    rw [HQu.out] at hq8
    have Hq8 := Lib.hid hq8
    clear hO8 hb8 HB7 HA7 HK7 Hc7 hq8
    go_wp2_with fail
    refine Hq8.out.mono ?_
    rintro e w9 ⟨rfl, hb9⟩
    have HB9 : Hid (Below W.heap.size W w9) := HB8.out.trans (hb9.mono HB8.out.size)
    have HA9 := Lib.hid (HA8.out.keep (Nat.le_refl _) hb9)
    have HK9 := Lib.hid (HK8.out.keep (Nat.le_refl _) hb9)
    have Hc9 := Lib.hid (clone_any ab cb n (backN n z) w9 (by omega) HK9.out)
    clear hb9 HB8 HA8 HK8 Hq8
    go_wp2_with fail
    refine Hc9.out.mono ?_
    rintro e w10 ⟨a10, c10, rfl, hO10, hb10⟩
    have HB10 : Hid (Below W.heap.size W w10) := HB9.out.trans (hb10.mono HB9.out.size)
    have HA10 := Lib.hid (HA9.out.keep (Nat.le_refl _) hb10)
    have HK10 := Lib.hid (HK9.out.keep (Nat.le_refl _) hb10)
    have hq10 := possible_good a10 c10 _ (backN n z) w10 HPb.out hO10.ints
    rw [HQb.out] at hq10
    have Hq10 := Lib.hid hq10
    clear hO10 hb10 HB9 HA9 HK9 Hc9 hq10
    go_wp2_with fail
    refine Hq10.out.mono ?_
    rintro e w11 ⟨rfl, hb11⟩
    have HB11 : Hid (Below W.heap.size W w11) := HB10.out.trans (hb11.mono HB10.out.size)
    have HA11 := Lib.hid (HA10.out.keep (Nat.le_refl _) hb11)
    have HK11 := Lib.hid (HK10.out.keep (Nat.le_refl _) hb11)
    have Hc11 := Lib.hid (clone_any (some ⟨ga, 0, none⟩) ca n (upN n z) w11 (by omega) HA11.out)
    clear hb11 HB10 HA10 HK10 Hq10
    -- twice
    go_wp2_with fail
    refine Hc11.out.mono ?_
    rintro e w12 ⟨a12, c12, rfl, hO12, hb12⟩
    have HB12 : Hid (Below W.heap.size W w12) := HB11.out.trans (hb12.mono HB11.out.size)
    have HA12 := Lib.hid (HA11.out.keep (Nat.le_refl _) hb12)
    have HK12 := Lib.hid (HK11.out.keep (Nat.le_refl _) hb12)
    have Hq12 := Lib.hid (turn_good a12 c12 _ (upN n z) w12 HPu.out hO12.ints)
    clear hO12 hb12 HB11 HA11 HK11 Hc11
    go_wp2_with fail
    refine Hq12.out.mono ?_
    rintro e w13 ⟨gc, cc, rfl, hcc, hcc2, hg13, hR13, hb13⟩
    have HB13 : Hid (Below W.heap.size W w13) := HB12.out.trans (hb13.mono HB12.out.size)
    have HA13 := Lib.hid (HA12.out.keep (Nat.le_refl _) hb13)
    have HK13 := Lib.hid (HK12.out.keep (Nat.le_refl _) hb13)
    have HC13 := Lib.hid (hR13.ints.congr up_up)
    have Hc13 := Lib.hid (clone_any ab cb n (backN n z) w13 (by omega) HK13.out)
    clear hb13 HB12 HA12 HK12 Hq12 hR13 hg13 hcc hcc2
    go_wp2_with fail
    refine Hc13.out.mono ?_
    rintro e w14 ⟨a14, c14, rfl, hO14, hb14⟩
    have HB14 : Hid (Below W.heap.size W w14) := HB13.out.trans (hb14.mono HB13.out.size)
    have HA14 := Lib.hid (HA13.out.keep (Nat.le_refl _) hb14)
    have HC14 := Lib.hid (HC13.out.keep (Nat.le_refl _) hb14)
    have Hq14 := Lib.hid (back_good a14 c14 _ (backN n z) w14 HPb.out hO14.ints)
    clear hO14 hb14 HB13 HA13 HK13 Hc13 HC13
    go_wp2_with fail
    refine Hq14.out.mono ?_
    rintro e w15 ⟨a15, c15, rfl, hO15, hb15⟩
    have HB15 : Hid (Below W.heap.size W w15) := HB14.out.trans (hb15.mono HB14.out.size)
    have HA15 := Lib.hid (HA14.out.keep (Nat.le_refl _) hb15)
    have HC15 := Lib.hid (HC14.out.keep (Nat.le_refl _) hb15)
    have HD15 := Lib.hid (hO15.ints.congr back_back)
    have He15 := Lib.hid (equal_yes (some ⟨gc, 0, none⟩) a cc cap n z w15 (by omega) HC15.out (HI.out.keep (Nat.le_refl _) HB15.out))
    clear hb15 HB14 HA14 HC14 Hq14 hO15
    have hbb : (poss n z != poss n z) = false := by simp
    go_wp2_with fail
    refine He15.out.mono ?_
    rintro e w16 ⟨rfl, hb16⟩
    have HB16 : Hid (Below W.heap.size W w16) := HB15.out.trans (hb16.mono HB15.out.size)
    have HA16 := Lib.hid (HA15.out.keep (Nat.le_refl _) hb16)
    have He16 := Lib.hid (equal_yes a15 a c15 cap n z w16 (by omega) (HD15.out.keep (Nat.le_refl _) hb16) (HI.out.keep (Nat.le_refl _) HB16.out))
    clear hb16 HB15 HA15 HC15 HD15 He15
    go_wp2_with fail
    refine He16.out.mono ?_
    rintro e w17 ⟨rfl, hb17⟩
    have HB17 : Hid (Below W.heap.size W w17) := HB16.out.trans (hb17.mono HB16.out.size)
    have HA17 := Lib.hid (HA16.out.keep (Nat.le_refl _) hb17)
    clear hb17 HB16 HA16 He16
    -- the creases
    go_wp2_with fail
    refine (HL.out _ HB17.out).mono ?_
    rintro e w18 ⟨a18, c18, rfl, hO18, hb18⟩
    have HB18 : Hid (Below W.heap.size W w18) := HB17.out.trans (hb18.mono HB17.out.size)
    have HA18 := Lib.hid (HA17.out.keep (Nat.le_refl _) hb18)
    have Hq18 := Lib.hid (creases_good a18 c18 _ z w18 HP.out hO18.ints)
    clear hO18 hb18 HB17 HA17 hbb
    go_wp2_with fail
    refine Hq18.out.mono ?_
    rintro e w19 ⟨hcr, hb19⟩
    have HB19 : Hid (Below W.heap.size W w19) := HB18.out.trans (hb19.mono HB18.out.size)
    have hq19 := creases_good (some ⟨ga, 0, none⟩) ca n (upN n z) w19 HPu.out (HA18.out.keep (Nat.le_refl _) hb19)
    rw [HQu.out] at hq19
    have Hq19 := Lib.hid hq19
    clear hb19 HB18 HA18 Hq18 hq19
    rcases hcr with ⟨hpo, rfl⟩ | ⟨hpo, rfl⟩
    · have HPo := Lib.hid hpo
      have hx := bxor _ _ (mts_lt n z (n - 1) (by omega)) (mts_lt n (upN n z) (n - 1) (by omega))
      rw [mts_up HG.out] at hx
      obtain ⟨q, hq, hq64⟩ := pow_full n h1 h7
      rw [← hq] at hx
      have Hx := Lib.hid hx
      have hg : wrap64 (wrap64 ((2 : Int) ^ (n - 1)) - 1) = (q : Int) := by
        rw [wrap_pow (n - 1) (by omega)]
        have e1 : 1 ≤ 2 ^ (n - 1) := Nat.one_le_two_pow
        rw [IntWalk.wrap64_in _ (by omega)]
        omega
      have Hg := Lib.hid hg
      clear hx hg hq
      go_wp2_with fail
      refine Hq19.out.mono ?_
      rintro e w20 ⟨hcr2, hb20⟩
      have HB20 : Hid (Below W.heap.size W w20) := HB19.out.trans (hb20.mono HB19.out.size)
      clear hb20
      rcases hcr2 with ⟨_, rfl⟩ | ⟨hpo2, rfl⟩
      · have hx := Hx.out
        have hg := Hg.out
        have hqq : ((q : Int) == (q : Int)) = true := by simp
        clear Hx Hg hpo
        go_wp2_with fail
        refine (awake_any _).mono ?_
        rintro e w21 ⟨rfl, hb21⟩
        have HB21 : Hid (Below W.heap.size W w21) := HB20.out.trans (hb21.mono HB20.out.size)
        clear hb21
        go_wp2
        go_ret
        exact ⟨rfl, HB21.out⟩
      · rw [hpo] at hpo2; cases hpo2
    · have HPo := Lib.hid hpo
      go_wp2_with fail
      refine Hq19.out.mono ?_
      rintro e w20 ⟨hcr2, hb20⟩
      have HB20 : Hid (Below W.heap.size W w20) := HB19.out.trans (hb20.mono HB19.out.size)
      clear hb20
      rcases hcr2 with ⟨hpo2, rfl⟩ | ⟨_, rfl⟩
      · rw [hpo] at hpo2; cases hpo2
      · go_wp2_with fail
        refine (awake_any _).mono ?_
        rintro e w21 ⟨rfl, hb21⟩
        have HB21 : Hid (Below W.heap.size W w21) := HB20.out.trans (hb21.mono HB20.out.size)
        clear hb21
        go_wp2
        go_ret
        exact ⟨rfl, HB21.out⟩

end Go.Proofs.Ytmbccdjoliegiaa
