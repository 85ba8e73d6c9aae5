import Derived.Test.YtmbccdjoliegiaaMath4
import Derived.Test.YtmbccdjoliegiaaL5
namespace Go.Proofs.Ytmbccdjoliegiaa
open Go.RowKit

theorem mask_ok (j : Nat) (hj : j ≤ 6) : ∃ q : Nat, q = 2 ^ j - 1 ∧ q < 2 ^ 62 ∧ wrap64 (wrap64 ((2 : Int) ^ j) - 1) = (q : Int) := by
  have h := wrap_pow j (by omega)
  have e1 : 1 ≤ 2 ^ j := Nat.one_le_two_pow
  have e2 : 2 ^ j < 2 ^ 61 := pow_le j (by omega)
  have e3 : (2 : Nat) ^ 61 = 2305843009213693952 := by decide
  have e4 : (2 : Nat) ^ 62 = 4611686018427387904 := by decide
  refine ⟨_, rfl, by omega, ?_⟩
  rw [h, IntWalk.wrap64_in _ (by omega)]
  omega

set_option maxHeartbeats 8000000 in
set_option maxRecDepth 100000 in
theorem foldsOpens_core (W : World) (a : Option Addr) (n cap : Nat) (z : Nat → Int) (hn : n ≤ cap) (h8 : n * 8 ≤ 140737488355328) (hI : Ints W a n z) :
    Calls Try.prog 11 #[.slice a n cap] W fun e W' => e = .returned (.bool true) ∧ Below W.heap.size W W' := by
  have HI := Lib.hid hI
  have Hl1 := Lib.hid (list_any a cap n z W hn h8 hI)
  clear hI
  cases hP : isP n z
  · have HP : Hid (isP (min n 11) z = false) := by rw [Hid, isP_min]; exact hP
    clear hP
    go_enter Try.func11, Try.ntmps11
    go_wp2_with fail
    refine Hl1.out.mono ?_
    rintro e w1 ⟨a1, c1, rfl, hO1, hb1⟩
    have HB1 := Lib.hid hb1
    have Hq := Lib.hid (creases_bad a1 c1 _ z w1 HP.out (by omega) hO1.ints)
    clear hO1 hb1
    go_wp2_with fail
    refine Hq.out.mono ?_
    rintro e w2 ⟨rfl, hb2⟩
    have HB2 : Hid (Below W.heap.size W w2) := HB1.out.trans (hb2.mono HB1.out.size)
    clear hb2 HB1 Hq
    go_wp2_with fail
    refine (awake_any _).mono ?_
    rintro e w6 ⟨rfl, hb6⟩
    have HB6 : Hid (Below W.heap.size W w6) := HB2.out.trans (hb6.mono HB2.out.size)
    clear hb6
    go_wp2
    go_ret
    exact ⟨rfl, HB6.out⟩
  · have hp := isP_iff'.1 hP
    have hmin : min n 11 = n := by omega
    have h7 := hp.2.1
    have h1 := hp.1
    have HG := Lib.hid hp.2.2
    have HP := Lib.hid hP
    have HL : Hid (∀ w, Below W.heap.size W w → Calls Try.prog 16 #[.slice a n cap] w fun e w' => ∃ a' cap', e = .returned (.slice a' n cap') ∧ Own w' w.heap.size a' n cap' z ∧ Below w.heap.size w w') := fun w hw => list_min hn h8 HI.out hmin hw
    have HS : Hid (∀ w, Below W.heap.size W w → Calls Try.prog 18 #[.slice a n cap] w fun e w' => e = .returned (.bool true) ∧ w = w') := fun w hw => stripL_r true a cap n z w HP.out (by omega) (HI.out.keep (Nat.le_refl _) hw)
    clear hP hp hmin Hl1
    go_enter Try.func11, Try.ntmps11
    go_wp2_with fail
    refine (HL.out _ (Below.refl _ _)).mono ?_
    rintro e w1 ⟨a1, c1, rfl, hO1, hb1⟩
    have HB1 := Lib.hid hb1
    have Hq := Lib.hid (creases_good a1 c1 _ z w1 HP.out hO1.ints)
    clear hO1 hb1
    go_wp2_with fail
    refine Hq.out.mono ?_
    rintro e w2 ⟨hcr, hb2⟩
    have HB2 : Hid (Below W.heap.size W w2) := HB1.out.trans (hb2.mono HB1.out.size)
    clear hb2 HB1 Hq
    rcases hcr with ⟨hpo, rfl⟩ | ⟨hpo, rfl⟩
    · have HLf : Hid (Left n z n z) := ⟨Nat.le_refl _, h1, h7, HG.out, hpo, fun _ _ => rfl⟩
      have HM : Hid (mts n z (n - 1) < 2 ^ 62) := Nat.lt_trans (mts_lt n z (n - 1) (by omega)) (by decide)
      have HMs : Hid (∀ j y, Left n z (j + 1) y → mts (j + 1) y j = mts n z (n - 1) &&& (2 ^ j - 1)) := fun j y h => h.mts
      clear hpo
      obtain ⟨M, hM⟩ : ∃ M, M = mts n z (n - 1) := ⟨_, rfl⟩
      rw [← hM] at HM HMs ⊢
      clear hM
      go_wp2_with fail
      refine (HS.out _ HB2.out).mono ?_
      rintro e w5 ⟨rfl, rfl⟩
      go_wp2_with fail
      refine (HL.out _ HB2.out).mono ?_
      rintro e w6 ⟨a6, c6, rfl, hO6, hb6⟩
      have HB6 : Hid (Below W.heap.size W w6) := HB2.out.trans (hb6.mono HB2.out.size)
      have HC6 : Hid (c6 ≤ 9223372036854775807 ∧ n ≤ c6) := ⟨by have := hO6.cap.2; unfold maxLen at this; omega, hO6.cap.1⟩
      have HO6 := Lib.hid hO6.ints
      clear hO6 hb6 HB2
      go_wp2
      go_loopw [5] (fun v wr => ∃ (k : Nat) (y : Nat → Int) (b : Option Addr) (c : Nat), v = .slice b k c ∧ Ints wr b k y ∧ Left n z k y ∧ Below W.heap.size W wr) (fun v _ => match v with | .slice _ k _ => k | _ => 0)
      case atStart => exact ⟨n, z, a6, c6, rfl, HO6.out, HLf.out, HB6.out⟩
      case round =>
        obtain ⟨k, y, b, c, rfl, hIy, hLf, hB⟩ := hrel
        have HIy := Lib.hid hIy
        have HLf := Lib.hid hLf
        have HB := Lib.hid hB
        have hk7 : k ≤ 7 := by have := hLf.le; omega
        have hk1 : 1 ≤ k := hLf.one
        clear hIy hLf hB HO6 HB6
        by_cases hgt : 1 < k
        · obtain ⟨j, rfl⟩ : ∃ j, k = j + 2 := ⟨k - 2, by omega⟩
          have Hc1 := Lib.hid (clone_any b c (j + 2) y wr (by omega) HIy.out)
          clear hgt hk1
          go_wp2_with fail
          refine Hc1.out.mono ?_
          rintro e v1 ⟨b1, d1, rfl, hO1, hb1⟩
          have HV1 : Hid (Below W.heap.size W v1) := HB.out.trans (hb1.mono HB.out.size)
          have hop := open_good b1 d1 (j + 2) y v1 hO1.cap.1 (by have := hO1.cap.2; unfold maxLen at this; omega) HLf.out.isP (by omega) HLf.out.can hO1.ints
          rw [show j + 2 - 1 = j + 1 by omega] at hop
          have Hop := Lib.hid hop
          clear hO1 hb1 hop Hc1
          go_wp2_with fail
          refine Hop.out.mono ?_
          rintro e v2 ⟨b2, d2, rfl, hO2, hb2⟩
          have HV2 : Hid (Below W.heap.size W v2) := HV1.out.trans (hb2.mono HV1.out.size)
          have HO2 := Lib.hid hO2.ints
          have HN := Lib.hid HLf.out.next
          have Hc2 := Lib.hid (clone_any b2 d2 (j + 1) (opN (j + 2) y) v2 (by omega) HO2.out)
          generalize opN (j + 2) y = y2 at *
          clear hO2 hb2 HV1 Hop
          go_wp2_with fail
          refine Hc2.out.mono ?_
          rintro e v3 ⟨b3, d3, rfl, hO3, hb3⟩
          have HV3 : Hid (Below W.heap.size W v3) := HV2.out.trans (hb3.mono HV2.out.size)
          have HO3 := Lib.hid (HO2.out.keep (Nat.le_refl _) hb3)
          have hpg := possible_good b3 d3 (j + 1) y2 v3 HN.out.isP hO3.ints
          rw [HN.out.can] at hpg
          have Hpg := Lib.hid hpg
          clear hO3 hb3 HV2 HO2 hpg Hc2
          go_wp2_with fail
          refine Hpg.out.mono ?_
          rintro e v4 ⟨rfl, hb4⟩
          have HV4 : Hid (Below W.heap.size W v4) := HV3.out.trans (hb4.mono HV3.out.size)
          have HO4 := Lib.hid (HO3.out.keep (Nat.le_refl _) hb4)
          have Hc4 := Lib.hid (clone_any b2 d2 (j + 1) y2 v4 (by omega) HO4.out)
          clear hb4 HV3 HO3 Hpg
          go_wp2_with fail
          refine Hc4.out.mono ?_
          rintro e v5 ⟨b5, d5, rfl, hO5, hb5⟩
          have HV5 : Hid (Below W.heap.size W v5) := HV4.out.trans (hb5.mono HV4.out.size)
          have HO5 := Lib.hid (HO4.out.keep (Nat.le_refl _) hb5)
          have Hcr := Lib.hid (creases_good b5 d5 (j + 1) y2 v5 HN.out.isP hO5.ints)
          clear hO5 hb5 HV4 HO4 Hc4
          go_wp2_with fail
          refine Hcr.out.mono ?_
          rintro e v6 ⟨hcr, hb6⟩
          have HV6 : Hid (Below W.heap.size W v6) := HV5.out.trans (hb6.mono HV5.out.size)
          have HO6 := Lib.hid (HO5.out.keep (Nat.le_refl _) hb6)
          clear hb6 HV5 HO5 Hcr
          rcases hcr with ⟨_, rfl⟩ | ⟨hno, rfl⟩
          · obtain ⟨q, hq, hq62, hmask⟩ := mask_ok j (by omega)
            have hmm : mts (j + 1) y2 (j + 1 - 1) = M &&& q := by rw [hq, show j + 1 - 1 = j by omega]; exact HMs.out j y2 HN.out
            have hand := band M q HM.out hq62
            have hand2 : bits BinOp.and IntKind.i64 (M : Int) (q : Int) = ((M &&& q : Nat) : Int) := hand
            rw [hmm]
            generalize M &&& q = r at hand2
            have hrr : ((r : Int) != (r : Int)) = false := by simp
            clear hq hmm hand hq62
            go_wp2
            refine ⟨⟨j + 1, y2, b2, d2, rfl, HO6.out, HN.out, HV6.out⟩, ?_⟩
            show j + 1 < j + 2
            omega
          · rw [HN.out.can] at hno; cases hno
        · have e : k = 1 := by omega
          subst e
          obtain ⟨bb, oo, rfl, hc0⟩ := HIy.out 0 (by omega)
          have h0 : y 0 = 0 := HLf.out.last
          rw [h0, Nat.add_zero] at hc0
          clear h0
          go_wp2_with fail
          refine (awake_any _).mono ?_
          rintro e w10 ⟨rfl, hb10⟩
          have HB10 : Hid (Below W.heap.size W w10) := HB.out.trans (hb10.mono HB.out.size)
          clear hb10
          go_wp2
          go_ret
          exact ⟨rfl, HB10.out⟩
    · clear hpo
      go_wp2_with fail
      refine (awake_any _).mono ?_
      rintro e w10 ⟨rfl, hb10⟩
      have HB10 : Hid (Below W.heap.size W w10) := HB2.out.trans (hb10.mono HB2.out.size)
      clear hb10
      go_wp2
      go_ret
      exact ⟨rfl, HB10.out⟩

end Go.Proofs.Ytmbccdjoliegiaa
