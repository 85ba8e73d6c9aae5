import Derived.Test.YtmbccdjoliegiaaMath5
import Derived.Test.YtmbccdjoliegiaaL5
import Derived.Test.YtmbccdjoliegiaaA3
namespace Go.Proofs.Ytmbccdjoliegiaa
open Go.RowKit

/-- The first pile does not come behind another one. -/
theorem cmp_first {n : Nat} {x : List Nat} {z : Nat → Int} {r : Int} (hg : goodP n z n) (hl : x.length = n) (hx : x = listOf n z ∨ lexLt x (listOf n z)) (h : CmpN n n (zl x) z r) : r ≤ 0 := by
  rcases h with ⟨rfl, _⟩ | ⟨rfl, _⟩ | ⟨rfl, k, hk, _, he, hgt⟩
  · omega
  · omega
  · exfalso
    have hgt := hgt hk
    rcases hx with e | ⟨q, hq1, hq2, hqe, hqlt⟩
    · rw [e, zl_listOf hg k hk] at hgt; omega
    · have hz := zl_listOf hg
      rw [listOf_len] at hq2
      rcases Nat.lt_trichotomy q k with hh | hh | hh
      · have h1 := he q hh
        rw [← hz q (by omega)] at h1
        unfold zl at h1
        omega
      · subst hh
        rw [← hz q hk] at hgt
        unfold zl at hgt
        omega
      · have h1 := hqe k hh
        rw [← hz k hk] at hgt
        unfold zl at hgt
        omega

set_option maxHeartbeats 8000000 in
set_option maxRecDepth 100000 in
theorem foldsFound_core (W : World) (n : Int) (hn' : -9223372036854775808 ≤ n ∧ n ≤ 9223372036854775807) (m : Int) (hm' : -9223372036854775808 ≤ m ∧ m ≤ 9223372036854775807) (a : Option Addr) (k cap : Nat) (z : Nat → Int) (hk : k ≤ cap) (h8 : k * 8 ≤ 140737488355328) (hI : Ints W a k z) :
    Calls Try.prog 13 #[.int .i64 n, .int .i64 m, .slice a k cap] W fun e W' => e = .returned (.bool true) ∧ Below W.heap.size W W' := by
  clear hn' hm'
  have HI := Lib.hid hI
  clear hI
  cases hs : setB n m
  · have HS := Lib.hid hs
    clear hs
    go_enter Try.func13, Try.ntmps13
    go_wp2_with fail
    refine (fold_bad _ _ _ HS.out).mono ?_
    rintro e w1 ⟨rfl, hb1⟩
    have HB1 := Lib.hid hb1
    clear hb1
    go_wp2_with fail
    refine (awake_any _).mono ?_
    rintro e w6 ⟨rfl, hb6⟩
    have HB6 : Hid (Below W.heap.size W w6) := HB1.out.trans (hb6.mono HB1.out.size)
    clear hb6
    go_wp2
    go_ret
    exact ⟨rfl, HB6.out⟩
  · obtain ⟨N, M, rfl, rfl, h1, h7, hM⟩ := setB_iff.1 hs
    obtain ⟨x, rest, hx⟩ := fpiles_some h1 h7 hM
    obtain ⟨hxl, hxP, hxp, hxm, hxle⟩ := head_facts h1 h7 hx
    have HFd := Lib.hid (fold_good N M W h1 h7 hM x rest hx)
    have HXP := Lib.hid hxP
    have HXp := Lib.hid hxp
    have HXm := Lib.hid hxm
    have HXle := Lib.hid hxle
    have HXl := Lib.hid hxl
    obtain ⟨Q, hQ⟩ : ∃ Q : Nat, Q = 2 ^ (N - 1) := ⟨_, rfl⟩
    have hw : wrap64 ((2 : Int) ^ (N - 1)) = (Q : Int) := by rw [hQ]; exact wrap_pow (N - 1) (by omega)
    have hMQ : (M : Int) < (Q : Int) := by omega
    have hMM : ((M : Int) != (M : Int)) = false := by simp
    have hNN : ((N : Int) != (N : Int)) = false := by simp
    clear hs hx hxl hxP hxp hxm hxle hQ hM
    go_enter Try.func13, Try.ntmps13
    go_wp2_with fail
    refine HFd.out.mono ?_
    rintro e w1 ⟨v, rfl, ⟨ax, cx, rfl, hcx1, hcx2, hIx⟩, hb1⟩
    have HB1 := Lib.hid hb1
    have HIx : Hid (Ints w1 ax N (zl x)) := by have := hIx; rw [HXl.out] at this; exact this
    rw [HXl.out]
    clear hb1 hIx hcx1 hcx2 HFd
    have Hc1 := Lib.hid (clone_any ax cx N (zl x) w1 (by omega) HIx.out)
    go_wp2_with fail
    refine Hc1.out.mono ?_
    rintro e w2 ⟨a2, c2, rfl, hO2, hb2⟩
    have HB2 : Hid (Below W.heap.size W w2) := HB1.out.trans (hb2.mono HB1.out.size)
    have HIx2 := Lib.hid (HIx.out.keep (Nat.le_refl _) hb2)
    have hq2 := possible_good a2 c2 N (zl x) w2 HXP.out hO2.ints
    rw [HXp.out] at hq2
    have Hq2 := Lib.hid hq2
    clear hO2 hb2 hq2 HIx HB1 Hc1
    go_wp2_with fail
    refine Hq2.out.mono ?_
    rintro e w3 ⟨rfl, hb3⟩
    have HB3 : Hid (Below W.heap.size W w3) := HB2.out.trans (hb3.mono HB2.out.size)
    have HIx3 := Lib.hid (HIx2.out.keep (Nat.le_refl _) hb3)
    have Hc3 := Lib.hid (clone_any ax cx N (zl x) w3 (by omega) HIx3.out)
    clear hb3 HIx2 HB2 Hq2
    go_wp2_with fail
    refine Hc3.out.mono ?_
    rintro e w4 ⟨a4, c4, rfl, hO4, hb4⟩
    have HB4 : Hid (Below W.heap.size W w4) := HB3.out.trans (hb4.mono HB3.out.size)
    have HIx4 := Lib.hid (HIx3.out.keep (Nat.le_refl _) hb4)
    have Hq4 := Lib.hid (creases_good a4 c4 N (zl x) w4 HXP.out hO4.ints)
    clear hO4 hb4 HIx3 HB3 Hc3
    go_wp2_with fail
    refine Hq4.out.mono ?_
    rintro e w5 ⟨hcr, hb5⟩
    have HB5 : Hid (Below W.heap.size W w5) := HB4.out.trans (hb5.mono HB4.out.size)
    have HIx5 := Lib.hid (HIx4.out.keep (Nat.le_refl _) hb5)
    clear hb5 HIx4 HB4 Hq4
    rcases hcr with ⟨_, rfl⟩ | ⟨hno, rfl⟩
    · rw [HXm.out]
      have Hl5 := Lib.hid (list_any a cap k z w5 hk h8 (HI.out.keep (Nat.le_refl _) HB5.out))
      go_wp2_with fail
      refine Hl5.out.mono ?_
      rintro e w6 ⟨a6, c6, rfl, hO6, hb6⟩
      have HB6 : Hid (Below W.heap.size W w6) := HB5.out.trans (hb6.mono HB5.out.size)
      have HIx6 := Lib.hid (HIx5.out.keep (Nat.le_refl _) hb6)
      have HO6 := Lib.hid hO6.ints
      clear hb6 hO6 HIx5 HB5 Hl5
      cases hP : isP k z
      · have Hq6 := Lib.hid (creases_bad a6 c6 _ z w6 (by rw [isP_min]; exact hP) (by omega) HO6.out)
        clear hP
        go_wp2_with fail
        refine Hq6.out.mono ?_
        rintro e w7 ⟨rfl, hb7⟩
        have HB7 : Hid (Below W.heap.size W w7) := HB6.out.trans (hb7.mono HB6.out.size)
        clear hb7 HB6
        go_wp2_with fail
        refine (awake_any _).mono ?_
        rintro e w10 ⟨rfl, hb10⟩
        have HB10 : Hid (Below W.heap.size W w10) := HB7.out.trans (hb10.mono HB7.out.size)
        clear hb10
        go_wp2
        go_ret
        exact ⟨rfl, HB10.out⟩
      · have hp := isP_iff'.1 hP
        have hk7 := hp.2.1
        have hk1 := hp.1
        have HG := Lib.hid hp.2.2
        have HP := Lib.hid hP
        have hmin : min k 11 = k := by omega
        rw [hmin] at HO6
        have Hq6 := Lib.hid (creases_good a6 c6 k z w6 HP.out HO6.out)
        clear hp hP
        rw [hmin]
        clear hmin
        go_wp2_with fail
        refine Hq6.out.mono ?_
        rintro e w7 ⟨hcr, hb7⟩
        have HB7 : Hid (Below W.heap.size W w7) := HB6.out.trans (hb7.mono HB6.out.size)
        have HIx7 := Lib.hid (HIx6.out.keep (Nat.le_refl _) hb7)
        clear hb7 HIx6 HB6 Hq6 HO6
        rcases hcr with ⟨hpo, rfl⟩ | ⟨hpo, rfl⟩
        · have HPo := Lib.hid hpo
          clear hpo
          by_cases hkN : k = N
          · by_cases hmm : mts k z (k - 1) = M
            · have hkN' : ((k : Int) != (N : Int)) = false := by simp [hkN]
              have HK := Lib.hid hkN
              rw [hmm]
              have Hmm := Lib.hid hmm
              have HC := Lib.hid (compare_any ax a cx cap N k (zl x) z w7 (by omega) (by omega) HIx7.out (HI.out.keep (Nat.le_refl _) HB7.out))
              clear hkN hmm
              go_wp2_with fail
              refine HC.out.mono ?_
              rintro e w8 ⟨r, hr, rfl, rfl⟩
              have hr0 : r ≤ 0 := by
                have hh := HK.out
                have hP2 := HP.out
                have hpo2 := HPo.out
                have hm2 := Hmm.out
                have hg2 := HG.out
                subst hh
                exact cmp_first hg2 HXl.out (HXle.out z hP2 hpo2 hm2) hr
              clear hr
              go_wp2_with fail
              refine (awake_any _).mono ?_
              rintro e w10 ⟨rfl, hb10⟩
              have HB10 : Hid (Below W.heap.size W w10) := HB7.out.trans (hb10.mono HB7.out.size)
              clear hb10
              go_wp2
              go_ret
              exact ⟨rfl, HB10.out⟩
            · have hkN' : ((k : Int) != (N : Int)) = false := by simp [hkN]
              have hmm' : ((mts k z (k - 1) : Int) != (M : Int)) = true := by simp; omega
              clear hkN hmm
              go_wp2_with fail
              refine (awake_any _).mono ?_
              rintro e w10 ⟨rfl, hb10⟩
              have HB10 : Hid (Below W.heap.size W w10) := HB7.out.trans (hb10.mono HB7.out.size)
              clear hb10
              go_wp2
              go_ret
              exact ⟨rfl, HB10.out⟩
          · have hkN' : ((k : Int) != (N : Int)) = true := by simp; omega
            clear hkN
            go_wp2_with fail
            refine (awake_any _).mono ?_
            rintro e w10 ⟨rfl, hb10⟩
            have HB10 : Hid (Below W.heap.size W w10) := HB7.out.trans (hb10.mono HB7.out.size)
            clear hb10
            go_wp2
            go_ret
            exact ⟨rfl, HB10.out⟩
        · clear hpo
          go_wp2_with fail
          refine (awake_any _).mono ?_
          rintro e w10 ⟨rfl, hb10⟩
          have HB10 : Hid (Below W.heap.size W w10) := HB7.out.trans (hb10.mono HB7.out.size)
          clear hb10
          go_wp2
          go_ret
          exact ⟨rfl, HB10.out⟩
    · rw [HXp.out] at hno; cases hno

end Go.Proofs.Ytmbccdjoliegiaa
