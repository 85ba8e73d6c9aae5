import Derived.Test.YtkbbijhknbcflaaL1
import Derived.Test.YtkbbijhknbcflaaR5
import Derived.Laws.Concat
/-
  The law FixesWays.
-/
namespace Go.Proofs.Ytkbbijhknbcflaa
open Go.RowKit Go.Shelf

theorem u64_pos (j : Int) : 0 ≤ IntKind.u64.wrap j := by
  have : IntKind.u64.wrap j = j % 18446744073709551616 := rfl
  rw [this]
  exact Int.emod_nonneg _ (by decide)
theorem conv4 (j : Int) : ∃ d : Nat, d < 4 ∧ wrap64 ((IntKind.u64.wrap j).tmod 4) = d := by
  have hp := u64_pos j
  generalize IntKind.u64.wrap j = u at *
  have h1 : u.tmod 4 = u % 4 := Int.tmod_eq_emod_of_nonneg hp
  rw [h1]
  have h2 := Int.emod_nonneg u (show (4 : Int) ≠ 0 by decide)
  have h3 := Int.emod_lt_of_pos u (show (0 : Int) < 4 by decide)
  refine ⟨(u % 4).toNat, by omega, ?_⟩
  rw [IntWalk.wrap64_in _ ⟨by omega, by omega⟩]; omega
/-- The formulas of reaching a mark, and of staying at it. -/
def fRe (d : Nat) : Fm := .fix false 0 (.two false (.mark d) (.ahead true (.var 0)))
def fSt (d : Nat) : Fm := .fix true 0 (.two true (.mark d) (.ahead true (.var 0)))
theorem holds_re (n : Nat) (nx mk : Nat → Nat) (d : Nat) : holds n nx mk (fRe d) = fixp false n (reF n nx (mkd mk d n)) := rfl
theorem holds_st (n : Nat) (nx mk : Nat → Nat) (d : Nat) : holds n nx mk (fSt d) = fixp true n (stF n nx (mkd mk d n)) := rfl
theorem sdf_zero {X Y : Nat} (h : Sub X Y) : sdf X Y = 0 := by
  refine Nat.eq_of_testBit_eq fun i => ?_
  rw [bit_sdf, Nat.zero_testBit]
  cases hx : X.testBit i
  · rfl
  · rw [h i hx]; rfl
theorem sub_reach {n : Nat} {nx : Nat → Nat} {s : Nat} (hs : s < 2 ^ n) : Sub s (fixp false n (reF n nx s)) := fun i hi => by
  rw [← (reF_mono (nx := nx) hs).fix false, reF, Nat.testBit_or, hi]; rfl
theorem sub_always {n : Nat} {nx : Nat → Nat} {s : Nat} : Sub (fixp true n (stF n nx s)) s := fun i hi => by
  rw [← (stF_mono (n := n) (nx := nx) (s := s)).fix true, stF, Nat.testBit_and] at hi
  simp at hi; exact hi.1

set_option maxHeartbeats 4000000 in
set_option maxRecDepth 100000 in
theorem ways_bad (W : World) (aN : Option Addr) (n cN : Nat) (aM : Option Addr) (m cM : Nat) (T L : Nat → Int) (hn : n ≤ cN) (hn8 : n * 8 ≤ 140737488355328) (hm : m ≤ cM) (hm8 : m * 8 ≤ 140737488355328) (hT : Ints W aN n T) (hL : Ints W aM m L) (z : Int) (hv : isWk n m T L = false) :
    Calls Try.prog 5 #[wkV aN n cN aM m cM, .int .i64 z] W fun e W' => SomeB true W e W' := by
  obtain ⟨d, hd, hc⟩ := conv4 z
  have HOf : Hid (∀ W', Below W.heap.size W W' → Calls Try.prog 9 #[wkV aN n cN aM m cM] W' fun e w' => ∃ a1 c1 a2 c2, e = .returned (wkV a1 (min n 9) c1 a2 (min m 9) c2) ∧ Ints w' a1 (min n 9) T ∧ Ints w' a2 (min m 9) L ∧ Below W'.heap.size W' w') :=
    fun W' hb => of_any aN n cN aM m cM T L W' hn hn8 hm hm8 (hT.keep (Nat.le_refl _) hb) (hL.keep (Nat.le_refl _) hb)
  have hv9 : isWk (min n 9) (min m 9) T L = false := by rw [isWk_cut]; exact hv
  have HHo := Lib.hid (fun S a1 c1 a2 c2 W' (h1 : Ints W' a1 (min n 9) T) (h2 : Ints W' a2 (min m 9) L) => fHolds_arg a1 (min n 9) c1 a2 (min m 9) c2 T L S W' (by omega) (by omega) hv9 h1 h2)
  generalize min n 9 = n9 at *
  generalize min m 9 = m9 at *
  have he : (∃ S, Utf8.encode (48 + (d : Int)) = S) := ⟨_, rfl⟩
  obtain ⟨S, hS⟩ := he
  have h32 : IntKind.i32.wrap (48 + (d : Int)) = 48 + (d : Int) := by rcases cases4 hd with rfl | rfl | rfl | rfl <;> rfl
  have hd4 : (d : Int) < 4 := by omega
  clear hn hm hT hL hv hv9 hd
  have HI0 := Lib.hid (RInv.start aN n cN aM m cM W)
  obtain ⟨q0, q1⟩ := HI0.out.cells
  go_enter Try.func5, Try.ntmps5
  go_wp2_with fail
  refine (HOf.out _ HI0.out.bel).mono ?_
  rintro e w1 ⟨a1, c1, a2, c2, rfl, k1, k2, hb⟩
  have H1 := Lib.hid (HHo.out S a1 c1 a2 c2 _ k1 k2)
  have HI1 := Lib.hid (HI0.out.keep hb)
  clear hb q0 q1 k1 k2
  obtain ⟨q0, q1⟩ := HI1.out.cells
  go_wp2_with fail
  refine (H1.out).mono ?_
  rintro e w2 ⟨rfl, hb⟩
  have HI2 := Lib.hid (HI1.out.keep hb)
  clear hb q0 q1
  obtain ⟨q0, q1⟩ := HI2.out.cells
  go_wp2_with fail
  refine (awake_any _).mono ?_
  rintro e w3 ⟨rfl, hb⟩
  have HI3 := Lib.hid (HI2.out.keep hb)
  clear hb q0 q1
  obtain ⟨q0, q1⟩ := HI3.out.cells
  go_wp2
  go_ret
  exact ⟨rfl, HI3.out.bel⟩

set_option maxHeartbeats 4000000 in
set_option maxRecDepth 100000 in
theorem ways_good0 (W : World) (aN : Option Addr) (n cN : Nat) (aM : Option Addr) (cM : Nat) (T L : Nat → Int) (hn : n ≤ cN) (hm : n ≤ cM) (hT : Ints W aN n T) (hL : Ints W aM n L) (z : Int) (hv : isWk n n T L = true) (hc : wrap64 ((IntKind.u64.wrap z).tmod 4) = 0) :
    Calls Try.prog 5 #[wkV aN n cN aM n cM, .int .i64 z] W fun e W' => SomeB true W e W' := by
  have h6 := (isWk_iff.1 hv).2.1
  have HOf : Hid (∀ W', Below W.heap.size W W' → Calls Try.prog 9 #[wkV aN n cN aM n cM] W' fun e w' => ∃ a1 c1 a2 c2, e = .returned (wkV a1 n c1 a2 n c2) ∧ Ints w' a1 n T ∧ Ints w' a2 n L ∧ Below W'.heap.size W' w') := by
    intro W' hb
    have := of_any aN n cN aM n cM T L W' hn (by omega) hm (by omega) (hT.keep (Nat.le_refl _) hb) (hL.keep (Nat.le_refl _) hb)
    unfold OfOut at this
    rw [show min n 9 = n by omega] at this
    exact this
  have HV := Lib.hid (fun W' (hb : Below W.heap.size W W') => rvalid_r true aN n cN aM n cM T L W' hv (by omega) (by omega) (hT.keep (Nat.le_refl _) hb) (hL.keep (Nat.le_refl _) hb))
  have HH0 := Lib.hid (fun a1 c1 a2 c2 W' (h1 : Ints W' a1 n T) (h2 : Ints W' a2 n L) => fHolds_good a1 n c1 a2 n c2 T L [48] (.mark 0) W' hv (by decide) ⟨rfl, by show 0 < 4; decide⟩ h1 h2)
  have HH1 := Lib.hid (fun a1 c1 a2 c2 W' (h1 : Ints W' a1 n T) (h2 : Ints W' a2 n L) => fHolds_good a1 n c1 a2 n c2 T L [109, 120, 124, 48, 60, 120] (fRe 0) W' hv (by decide) ⟨rfl, ⟨⟨by decide, rfl⟩, (by show 0 < 4; decide), by decide, rfl⟩⟩ h1 h2)
  have HH2 := Lib.hid (fun a1 c1 a2 c2 W' (h1 : Ints W' a1 n T) (h2 : Ints W' a2 n L) => fHolds_good a1 n c1 a2 n c2 T L [103, 120, 38, 48, 60, 120] (fSt 0) W' hv (by decide) ⟨rfl, ⟨⟨by decide, rfl⟩, (by show 0 < 4; decide), by decide, rfl⟩⟩ h1 h2)
  have hwk := wk_of hv hT hL
  have hs : mkd (nat L) 0 n < 2 ^ n := mkd_lt _ _ _
  have HRe := Lib.hid (fun a1 c1 a2 c2 W' (h1 : Ints W' a1 n T) (h2 : Ints W' a2 n L) => fReach_good a1 n c1 a2 n c2 T L (mkd (nat L) 0 n) W' hv hs h1 h2)
  have HAl := Lib.hid (fun a1 c1 a2 c2 W' (h1 : Ints W' a1 n T) (h2 : Ints W' a2 n L) => fAlways_good a1 n c1 a2 n c2 T L (mkd (nat L) 0 n) W' hv hs h1 h2)
  rw [holds_re] at HH1
  rw [holds_st] at HH2
  rw [show holds n (nat T) (nat L) (.mark 0) = mkd (nat L) 0 n from rfl] at HH0
  have hA := sdf_zero (sub_reach (n := n) (nx := nat T) hs)
  have hB := sdf_zero (sub_always (n := n) (nx := nat T) (s := mkd (nat L) 0 n))
  have hA6 := lt64 ((reF_mono (nx := nat T) hs).fix_lt false) h6
  have hB6 := lt64 ((stF_mono (n := n) (nx := nat T) (s := mkd (nat L) 0 n)).fix_lt true) h6
  have hAN := andNot_nat (lt64 hs h6) hA6
  have hBN := andNot_nat hB6 (lt64 hs h6)
  rw [hA] at hAN
  rw [hB] at hBN
  have HM0 := Lib.hid (fun W' (hb : Below W.heap.size W W') => (hwk.keep (Nat.le_refl _) hb).M)
  have HK16 := Lib.hid hwk.mk_lt
  generalize fixp false n (reF n (nat T) (mkd (nat L) 0 n)) = X at *
  generalize fixp true n (stF n (nat T) (mkd (nat L) 0 n)) = Y at *
  generalize nat L = mk at *
  have HAN := Lib.hid hAN
  have HBN := Lib.hid hBN
  have hE : Utf8.encode 48 = st [48] := rfl
  obtain ⟨S0, hS0⟩ : ∃ S, st [48] = S := ⟨_, rfl⟩
  have hS1 : (⟨#[109, 120, 124]⟩ : ByteArray) ++ S0 ++ ⟨#[60, 120]⟩ = st [109, 120, 124, 48, 60, 120] := by rw [← hS0]; rfl
  have hS2 : (⟨#[103, 120, 38]⟩ : ByteArray) ++ S0 ++ ⟨#[60, 120]⟩ = st [103, 120, 38, 48, 60, 120] := by rw [← hS0]; rfl
  have HS1 := Lib.hid hS1
  have HS2 := Lib.hid hS2
  have hsz : S0.size = 1 := by rw [← hS0]; rfl
  rw [hS0] at hE HH0
  clear hn hm hT hL hv hwk hA hB hA6 hB6 hAN hBN hs hS0 hS1 hS2
  have HI0 := Lib.hid (RInv.start aN n cN aM n cM W)
  obtain ⟨q0, q1⟩ := HI0.out.cells
  go_enter Try.func5, Try.ntmps5
  go_wp2_with fail
  refine (HOf.out _ HI0.out.bel).mono ?_
  rintro e w1 ⟨a1, c1, b1, d1, rfl, k1, k2, hb⟩
  have H1 := Lib.hid (HH0.out a1 c1 b1 d1 _ k1 k2)
  have HI1 := Lib.hid (HI0.out.keep hb)
  clear hb q0 q1 k1 k2
  obtain ⟨q0, q1⟩ := HI1.out.cells
  go_wp2_with fail
  refine (H1.out).mono ?_
  rintro e w2 ⟨rfl, hb⟩
  have HI2 := Lib.hid (HI1.out.keep hb)
  clear hb q0 q1
  obtain ⟨q0, q1⟩ := HI2.out.cells
  go_wp2_with fail
  refine (HV.out _ HI2.out.bel).mono ?_
  rintro e w3 ⟨rfl, hb⟩
  have HI3 := Lib.hid (HI2.out.keep hb)
  clear hb q0 q1
  obtain ⟨q0, q1⟩ := HI3.out.cells
  have HM := Lib.hid (HM0.out _ HI3.out.bel)
  go_wp2
  go_loop [8, 49] (fun sv iv => ∃ k : Nat, k ≤ n ∧ iv = .int .i64 k ∧ sv = .int .i64 ((mkd mk 0 k : Nat) : Int)) (fun _ iv => n - (intOf iv).toNat)
  case atStart => exact ⟨0, Nat.zero_le _, rfl, rfl⟩
  case round =>
    obtain ⟨k, hk, rfl, rfl⟩ := hrel
    by_cases hlt : k < n
    · obtain ⟨b, o, rfl, hck⟩ := HM.out k hlt
      have hck' := hck
      simp only at hck'
      have hS := lt64 (mkd_lt mk 0 k) (show k ≤ 6 by omega)
      have HO := Lib.hid (or_wrap hS (show k ≤ 6 by omega))
      have HO0 := Lib.hid (or_zero hS)
      have hmb : bits BinOp.and IntKind.i64 ((mk k : Nat) : Int) 1 = if (mk k).testBit 0 then 1 else 0 := by simpa using mark_bit (j := 0) (HK16.out k hlt)
      cases hbit : (mk k).testBit 0
      · have HKn := Lib.hid (mkd_no hbit)
        rw [hbit] at hmb
        have hmb' : bits BinOp.and IntKind.i64 ((mk k : Nat) : Int) 1 = 0 := hmb
        clear hmb hck hS
        go_wp2
        go_round
        case rel => exact ⟨k + 1, by omega, by go_num, by rw [HKn.out, HO0.out]⟩
        case measure => simp [intOf]; omega
      · have HKn := Lib.hid (mkd_yes hbit)
        rw [hbit] at hmb
        have hmb' : bits BinOp.and IntKind.i64 ((mk k : Nat) : Int) 1 = 1 := hmb
        clear hmb hck hS
        go_wp2
        go_round
        case rel => exact ⟨k + 1, by omega, by go_num, by rw [HKn.out, HO.out]⟩
        case measure => simp [intOf]; omega
    · obtain rfl : k = n := by omega
      go_wp2_with fail
      refine (HOf.out _ HI3.out.bel).mono ?_
      rintro e w4 ⟨a2, c2, b2, d2, rfl, k1, k2, hb⟩
      have H2 := Lib.hid (HRe.out a2 c2 b2 d2 _ k1 k2)
      have HI4 := Lib.hid (HI3.out.keep hb)
      clear hb q0 q1 k1 k2
      obtain ⟨q0, q1⟩ := HI4.out.cells
      go_wp2_with fail
      refine (H2.out).mono ?_
      rintro e w5 ⟨rfl, hb⟩
      have HI5 := Lib.hid (HI4.out.keep hb)
      clear hb q0 q1
      obtain ⟨q0, q1⟩ := HI5.out.cells
      go_wp2_with fail
      refine (HOf.out _ HI5.out.bel).mono ?_
      rintro e w6 ⟨a3, c3, b3, d3, rfl, k1, k2, hb⟩
      have H3 := Lib.hid (HAl.out a3 c3 b3 d3 _ k1 k2)
      have HI6 := Lib.hid (HI5.out.keep hb)
      clear hb q0 q1 k1 k2
      obtain ⟨q0, q1⟩ := HI6.out.cells
      go_wp2_with fail
      refine (H3.out).mono ?_
      rintro e w7 ⟨rfl, hb⟩
      have HI7 := Lib.hid (HI6.out.keep hb)
      clear hb q0 q1
      obtain ⟨q0, q1⟩ := HI7.out.cells
      go_wp2_with fail
      refine (HOf.out _ HI7.out.bel).mono ?_
      rintro e w8 ⟨a4, c4, b4, d4, rfl, k1, k2, hb⟩
      have H4 := Lib.hid (HH1.out a4 c4 b4 d4 _ k1 k2)
      have HI8 := Lib.hid (HI7.out.keep hb)
      clear hb q0 q1 k1 k2
      obtain ⟨q0, q1⟩ := HI8.out.cells
      go_wp2_with fail
      rw [HS1.out]
      refine (H4.out).mono ?_
      rintro e w9 ⟨rfl, hb⟩
      have HI9 := Lib.hid (HI8.out.keep hb)
      clear hb q0 q1
      obtain ⟨q0, q1⟩ := HI9.out.cells
      go_wp2_with fail
      refine (HOf.out _ HI9.out.bel).mono ?_
      rintro e w10 ⟨a5, c5, b5, d5, rfl, k1, k2, hb⟩
      have H5 := Lib.hid (HH2.out a5 c5 b5 d5 _ k1 k2)
      have HI10 := Lib.hid (HI9.out.keep hb)
      clear hb q0 q1 k1 k2
      obtain ⟨q0, q1⟩ := HI10.out.cells
      go_wp2_with fail
      rw [HS2.out]
      refine (H5.out).mono ?_
      rintro e w11 ⟨rfl, hb⟩
      have HI11 := Lib.hid (HI10.out.keep hb)
      clear hb q0 q1
      obtain ⟨q0, q1⟩ := HI11.out.cells
      have hAN := HAN.out
      have hBN := HBN.out
      go_wp2_with fail
      refine (awake_any _).mono ?_
      rintro e w12 ⟨rfl, hb⟩
      have HI12 := Lib.hid (HI11.out.keep hb)
      clear hb q0 q1
      obtain ⟨q0, q1⟩ := HI12.out.cells
      go_wp2
      go_ret
      exact ⟨rfl, HI12.out.bel⟩

set_option maxHeartbeats 4000000 in
set_option maxRecDepth 100000 in
theorem ways_good1 (W : World) (aN : Option Addr) (n cN : Nat) (aM : Option Addr) (cM : Nat) (T L : Nat → Int) (hn : n ≤ cN) (hm : n ≤ cM) (hT : Ints W aN n T) (hL : Ints W aM n L) (z : Int) (hv : isWk n n T L = true) (hc : wrap64 ((IntKind.u64.wrap z).tmod 4) = 1) :
    Calls Try.prog 5 #[wkV aN n cN aM n cM, .int .i64 z] W fun e W' => SomeB true W e W' := by
  have h6 := (isWk_iff.1 hv).2.1
  have HOf : Hid (∀ W', Below W.heap.size W W' → Calls Try.prog 9 #[wkV aN n cN aM n cM] W' fun e w' => ∃ a1 c1 a2 c2, e = .returned (wkV a1 n c1 a2 n c2) ∧ Ints w' a1 n T ∧ Ints w' a2 n L ∧ Below W'.heap.size W' w') := by
    intro W' hb
    have := of_any aN n cN aM n cM T L W' hn (by omega) hm (by omega) (hT.keep (Nat.le_refl _) hb) (hL.keep (Nat.le_refl _) hb)
    unfold OfOut at this
    rw [show min n 9 = n by omega] at this
    exact this
  have HV := Lib.hid (fun W' (hb : Below W.heap.size W W') => rvalid_r true aN n cN aM n cM T L W' hv (by omega) (by omega) (hT.keep (Nat.le_refl _) hb) (hL.keep (Nat.le_refl _) hb))
  have HH0 := Lib.hid (fun a1 c1 a2 c2 W' (h1 : Ints W' a1 n T) (h2 : Ints W' a2 n L) => fHolds_good a1 n c1 a2 n c2 T L [49] (.mark 1) W' hv (by decide) ⟨rfl, by show 1 < 4; decide⟩ h1 h2)
  have HH1 := Lib.hid (fun a1 c1 a2 c2 W' (h1 : Ints W' a1 n T) (h2 : Ints W' a2 n L) => fHolds_good a1 n c1 a2 n c2 T L [109, 120, 124, 49, 60, 120] (fRe 1) W' hv (by decide) ⟨rfl, ⟨⟨by decide, rfl⟩, (by show 1 < 4; decide), by decide, rfl⟩⟩ h1 h2)
  have HH2 := Lib.hid (fun a1 c1 a2 c2 W' (h1 : Ints W' a1 n T) (h2 : Ints W' a2 n L) => fHolds_good a1 n c1 a2 n c2 T L [103, 120, 38, 49, 60, 120] (fSt 1) W' hv (by decide) ⟨rfl, ⟨⟨by decide, rfl⟩, (by show 1 < 4; decide), by decide, rfl⟩⟩ h1 h2)
  have hwk := wk_of hv hT hL
  have hs : mkd (nat L) 1 n < 2 ^ n := mkd_lt _ _ _
  have HRe := Lib.hid (fun a1 c1 a2 c2 W' (h1 : Ints W' a1 n T) (h2 : Ints W' a2 n L) => fReach_good a1 n c1 a2 n c2 T L (mkd (nat L) 1 n) W' hv hs h1 h2)
  have HAl := Lib.hid (fun a1 c1 a2 c2 W' (h1 : Ints W' a1 n T) (h2 : Ints W' a2 n L) => fAlways_good a1 n c1 a2 n c2 T L (mkd (nat L) 1 n) W' hv hs h1 h2)
  rw [holds_re] at HH1
  rw [holds_st] at HH2
  rw [show holds n (nat T) (nat L) (.mark 1) = mkd (nat L) 1 n from rfl] at HH0
  have hA := sdf_zero (sub_reach (n := n) (nx := nat T) hs)
  have hB := sdf_zero (sub_always (n := n) (nx := nat T) (s := mkd (nat L) 1 n))
  have hA6 := lt64 ((reF_mono (nx := nat T) hs).fix_lt false) h6
  have hB6 := lt64 ((stF_mono (n := n) (nx := nat T) (s := mkd (nat L) 1 n)).fix_lt true) h6
  have hAN := andNot_nat (lt64 hs h6) hA6
  have hBN := andNot_nat hB6 (lt64 hs h6)
  rw [hA] at hAN
  rw [hB] at hBN
  have HM0 := Lib.hid (fun W' (hb : Below W.heap.size W W') => (hwk.keep (Nat.le_refl _) hb).M)
  have HK16 := Lib.hid hwk.mk_lt
  generalize fixp false n (reF n (nat T) (mkd (nat L) 1 n)) = X at *
  generalize fixp true n (stF n (nat T) (mkd (nat L) 1 n)) = Y at *
  generalize nat L = mk at *
  have HAN := Lib.hid hAN
  have HBN := Lib.hid hBN
  have hE : Utf8.encode 49 = st [49] := rfl
  obtain ⟨S0, hS0⟩ : ∃ S, st [49] = S := ⟨_, rfl⟩
  have hS1 : (⟨#[109, 120, 124]⟩ : ByteArray) ++ S0 ++ ⟨#[60, 120]⟩ = st [109, 120, 124, 49, 60, 120] := by rw [← hS0]; rfl
  have hS2 : (⟨#[103, 120, 38]⟩ : ByteArray) ++ S0 ++ ⟨#[60, 120]⟩ = st [103, 120, 38, 49, 60, 120] := by rw [← hS0]; rfl
  have HS1 := Lib.hid hS1
  have HS2 := Lib.hid hS2
  have hsz : S0.size = 1 := by rw [← hS0]; rfl
  rw [hS0] at hE HH0
  clear hn hm hT hL hv hwk hA hB hA6 hB6 hAN hBN hs hS0 hS1 hS2
  have HI0 := Lib.hid (RInv.start aN n cN aM n cM W)
  obtain ⟨q0, q1⟩ := HI0.out.cells
  go_enter Try.func5, Try.ntmps5
  go_wp2_with fail
  refine (HOf.out _ HI0.out.bel).mono ?_
  rintro e w1 ⟨a1, c1, b1, d1, rfl, k1, k2, hb⟩
  have H1 := Lib.hid (HH0.out a1 c1 b1 d1 _ k1 k2)
  have HI1 := Lib.hid (HI0.out.keep hb)
  clear hb q0 q1 k1 k2
  obtain ⟨q0, q1⟩ := HI1.out.cells
  go_wp2_with fail
  refine (H1.out).mono ?_
  rintro e w2 ⟨rfl, hb⟩
  have HI2 := Lib.hid (HI1.out.keep hb)
  clear hb q0 q1
  obtain ⟨q0, q1⟩ := HI2.out.cells
  go_wp2_with fail
  refine (HV.out _ HI2.out.bel).mono ?_
  rintro e w3 ⟨rfl, hb⟩
  have HI3 := Lib.hid (HI2.out.keep hb)
  clear hb q0 q1
  obtain ⟨q0, q1⟩ := HI3.out.cells
  have HM := Lib.hid (HM0.out _ HI3.out.bel)
  go_wp2
  go_loop [8, 49] (fun sv iv => ∃ k : Nat, k ≤ n ∧ iv = .int .i64 k ∧ sv = .int .i64 ((mkd mk 1 k : Nat) : Int)) (fun _ iv => n - (intOf iv).toNat)
  case atStart => exact ⟨0, Nat.zero_le _, rfl, rfl⟩
  case round =>
    obtain ⟨k, hk, rfl, rfl⟩ := hrel
    by_cases hlt : k < n
    · obtain ⟨b, o, rfl, hck⟩ := HM.out k hlt
      have hck' := hck
      simp only at hck'
      have hS := lt64 (mkd_lt mk 1 k) (show k ≤ 6 by omega)
      have HO := Lib.hid (or_wrap hS (show k ≤ 6 by omega))
      have HO0 := Lib.hid (or_zero hS)
      have hmb : bits BinOp.and IntKind.i64 (((mk k : Nat) : Int) / 2) 1 = if (mk k).testBit 1 then 1 else 0 := by simpa using mark_bit (j := 1) (HK16.out k hlt)
      cases hbit : (mk k).testBit 1
      · have HKn := Lib.hid (mkd_no hbit)
        rw [hbit] at hmb
        have hmb' : bits BinOp.and IntKind.i64 (((mk k : Nat) : Int) / 2) 1 = 0 := hmb
        clear hmb hck hS
        go_wp2
        go_round
        case rel => exact ⟨k + 1, by omega, by go_num, by rw [HKn.out, HO0.out]⟩
        case measure => simp [intOf]; omega
      · have HKn := Lib.hid (mkd_yes hbit)
        rw [hbit] at hmb
        have hmb' : bits BinOp.and IntKind.i64 (((mk k : Nat) : Int) / 2) 1 = 1 := hmb
        clear hmb hck hS
        go_wp2
        go_round
        case rel => exact ⟨k + 1, by omega, by go_num, by rw [HKn.out, HO.out]⟩
        case measure => simp [intOf]; omega
    · obtain rfl : k = n := by omega
      go_wp2_with fail
      refine (HOf.out _ HI3.out.bel).mono ?_
      rintro e w4 ⟨a2, c2, b2, d2, rfl, k1, k2, hb⟩
      have H2 := Lib.hid (HRe.out a2 c2 b2 d2 _ k1 k2)
      have HI4 := Lib.hid (HI3.out.keep hb)
      clear hb q0 q1 k1 k2
      obtain ⟨q0, q1⟩ := HI4.out.cells
      go_wp2_with fail
      refine (H2.out).mono ?_
      rintro e w5 ⟨rfl, hb⟩
      have HI5 := Lib.hid (HI4.out.keep hb)
      clear hb q0 q1
      obtain ⟨q0, q1⟩ := HI5.out.cells
      go_wp2_with fail
      refine (HOf.out _ HI5.out.bel).mono ?_
      rintro e w6 ⟨a3, c3, b3, d3, rfl, k1, k2, hb⟩
      have H3 := Lib.hid (HAl.out a3 c3 b3 d3 _ k1 k2)
      have HI6 := Lib.hid (HI5.out.keep hb)
      clear hb q0 q1 k1 k2
      obtain ⟨q0, q1⟩ := HI6.out.cells
      go_wp2_with fail
      refine (H3.out).mono ?_
      rintro e w7 ⟨rfl, hb⟩
      have HI7 := Lib.hid (HI6.out.keep hb)
      clear hb q0 q1
      obtain ⟨q0, q1⟩ := HI7.out.cells
      go_wp2_with fail
      refine (HOf.out _ HI7.out.bel).mono ?_
      rintro e w8 ⟨a4, c4, b4, d4, rfl, k1, k2, hb⟩
      have H4 := Lib.hid (HH1.out a4 c4 b4 d4 _ k1 k2)
      have HI8 := Lib.hid (HI7.out.keep hb)
      clear hb q0 q1 k1 k2
      obtain ⟨q0, q1⟩ := HI8.out.cells
      go_wp2_with fail
      rw [HS1.out]
      refine (H4.out).mono ?_
      rintro e w9 ⟨rfl, hb⟩
      have HI9 := Lib.hid (HI8.out.keep hb)
      clear hb q0 q1
      obtain ⟨q0, q1⟩ := HI9.out.cells
      go_wp2_with fail
      refine (HOf.out _ HI9.out.bel).mono ?_
      rintro e w10 ⟨a5, c5, b5, d5, rfl, k1, k2, hb⟩
      have H5 := Lib.hid (HH2.out a5 c5 b5 d5 _ k1 k2)
      have HI10 := Lib.hid (HI9.out.keep hb)
      clear hb q0 q1 k1 k2
      obtain ⟨q0, q1⟩ := HI10.out.cells
      go_wp2_with fail
      rw [HS2.out]
      refine (H5.out).mono ?_
      rintro e w11 ⟨rfl, hb⟩
      have HI11 := Lib.hid (HI10.out.keep hb)
      clear hb q0 q1
      obtain ⟨q0, q1⟩ := HI11.out.cells
      have hAN := HAN.out
      have hBN := HBN.out
      go_wp2_with fail
      refine (awake_any _).mono ?_
      rintro e w12 ⟨rfl, hb⟩
      have HI12 := Lib.hid (HI11.out.keep hb)
      clear hb q0 q1
      obtain ⟨q0, q1⟩ := HI12.out.cells
      go_wp2
      go_ret
      exact ⟨rfl, HI12.out.bel⟩

set_option maxHeartbeats 4000000 in
set_option maxRecDepth 100000 in
theorem ways_good2 (W : World) (aN : Option Addr) (n cN : Nat) (aM : Option Addr) (cM : Nat) (T L : Nat → Int) (hn : n ≤ cN) (hm : n ≤ cM) (hT : Ints W aN n T) (hL : Ints W aM n L) (z : Int) (hv : isWk n n T L = true) (hc : wrap64 ((IntKind.u64.wrap z).tmod 4) = 2) :
    Calls Try.prog 5 #[wkV aN n cN aM n cM, .int .i64 z] W fun e W' => SomeB true W e W' := by
  have h6 := (isWk_iff.1 hv).2.1
  have HOf : Hid (∀ W', Below W.heap.size W W' → Calls Try.prog 9 #[wkV aN n cN aM n cM] W' fun e w' => ∃ a1 c1 a2 c2, e = .returned (wkV a1 n c1 a2 n c2) ∧ Ints w' a1 n T ∧ Ints w' a2 n L ∧ Below W'.heap.size W' w') := by
    intro W' hb
    have := of_any aN n cN aM n cM T L W' hn (by omega) hm (by omega) (hT.keep (Nat.le_refl _) hb) (hL.keep (Nat.le_refl _) hb)
    unfold OfOut at this
    rw [show min n 9 = n by omega] at this
    exact this
  have HV := Lib.hid (fun W' (hb : Below W.heap.size W W') => rvalid_r true aN n cN aM n cM T L W' hv (by omega) (by omega) (hT.keep (Nat.le_refl _) hb) (hL.keep (Nat.le_refl _) hb))
  have HH0 := Lib.hid (fun a1 c1 a2 c2 W' (h1 : Ints W' a1 n T) (h2 : Ints W' a2 n L) => fHolds_good a1 n c1 a2 n c2 T L [50] (.mark 2) W' hv (by decide) ⟨rfl, by show 2 < 4; decide⟩ h1 h2)
  have HH1 := Lib.hid (fun a1 c1 a2 c2 W' (h1 : Ints W' a1 n T) (h2 : Ints W' a2 n L) => fHolds_good a1 n c1 a2 n c2 T L [109, 120, 124, 50, 60, 120] (fRe 2) W' hv (by decide) ⟨rfl, ⟨⟨by decide, rfl⟩, (by show 2 < 4; decide), by decide, rfl⟩⟩ h1 h2)
  have HH2 := Lib.hid (fun a1 c1 a2 c2 W' (h1 : Ints W' a1 n T) (h2 : Ints W' a2 n L) => fHolds_good a1 n c1 a2 n c2 T L [103, 120, 38, 50, 60, 120] (fSt 2) W' hv (by decide) ⟨rfl, ⟨⟨by decide, rfl⟩, (by show 2 < 4; decide), by decide, rfl⟩⟩ h1 h2)
  have hwk := wk_of hv hT hL
  have hs : mkd (nat L) 2 n < 2 ^ n := mkd_lt _ _ _
  have HRe := Lib.hid (fun a1 c1 a2 c2 W' (h1 : Ints W' a1 n T) (h2 : Ints W' a2 n L) => fReach_good a1 n c1 a2 n c2 T L (mkd (nat L) 2 n) W' hv hs h1 h2)
  have HAl := Lib.hid (fun a1 c1 a2 c2 W' (h1 : Ints W' a1 n T) (h2 : Ints W' a2 n L) => fAlways_good a1 n c1 a2 n c2 T L (mkd (nat L) 2 n) W' hv hs h1 h2)
  rw [holds_re] at HH1
  rw [holds_st] at HH2
  rw [show holds n (nat T) (nat L) (.mark 2) = mkd (nat L) 2 n from rfl] at HH0
  have hA := sdf_zero (sub_reach (n := n) (nx := nat T) hs)
  have hB := sdf_zero (sub_always (n := n) (nx := nat T) (s := mkd (nat L) 2 n))
  have hA6 := lt64 ((reF_mono (nx := nat T) hs).fix_lt false) h6
  have hB6 := lt64 ((stF_mono (n := n) (nx := nat T) (s := mkd (nat L) 2 n)).fix_lt true) h6
  have hAN := andNot_nat (lt64 hs h6) hA6
  have hBN := andNot_nat hB6 (lt64 hs h6)
  rw [hA] at hAN
  rw [hB] at hBN
  have HM0 := Lib.hid (fun W' (hb : Below W.heap.size W W') => (hwk.keep (Nat.le_refl _) hb).M)
  have HK16 := Lib.hid hwk.mk_lt
  generalize fixp false n (reF n (nat T) (mkd (nat L) 2 n)) = X at *
  generalize fixp true n (stF n (nat T) (mkd (nat L) 2 n)) = Y at *
  generalize nat L = mk at *
  have HAN := Lib.hid hAN
  have HBN := Lib.hid hBN
  have hE : Utf8.encode 50 = st [50] := rfl
  obtain ⟨S0, hS0⟩ : ∃ S, st [50] = S := ⟨_, rfl⟩
  have hS1 : (⟨#[109, 120, 124]⟩ : ByteArray) ++ S0 ++ ⟨#[60, 120]⟩ = st [109, 120, 124, 50, 60, 120] := by rw [← hS0]; rfl
  have hS2 : (⟨#[103, 120, 38]⟩ : ByteArray) ++ S0 ++ ⟨#[60, 120]⟩ = st [103, 120, 38, 50, 60, 120] := by rw [← hS0]; rfl
  have HS1 := Lib.hid hS1
  have HS2 := Lib.hid hS2
  have hsz : S0.size = 1 := by rw [← hS0]; rfl
  rw [hS0] at hE HH0
  clear hn hm hT hL hv hwk hA hB hA6 hB6 hAN hBN hs hS0 hS1 hS2
  have HI0 := Lib.hid (RInv.start aN n cN aM n cM W)
  obtain ⟨q0, q1⟩ := HI0.out.cells
  go_enter Try.func5, Try.ntmps5
  go_wp2_with fail
  refine (HOf.out _ HI0.out.bel).mono ?_
  rintro e w1 ⟨a1, c1, b1, d1, rfl, k1, k2, hb⟩
  have H1 := Lib.hid (HH0.out a1 c1 b1 d1 _ k1 k2)
  have HI1 := Lib.hid (HI0.out.keep hb)
  clear hb q0 q1 k1 k2
  obtain ⟨q0, q1⟩ := HI1.out.cells
  go_wp2_with fail
  refine (H1.out).mono ?_
  rintro e w2 ⟨rfl, hb⟩
  have HI2 := Lib.hid (HI1.out.keep hb)
  clear hb q0 q1
  obtain ⟨q0, q1⟩ := HI2.out.cells
  go_wp2_with fail
  refine (HV.out _ HI2.out.bel).mono ?_
  rintro e w3 ⟨rfl, hb⟩
  have HI3 := Lib.hid (HI2.out.keep hb)
  clear hb q0 q1
  obtain ⟨q0, q1⟩ := HI3.out.cells
  have HM := Lib.hid (HM0.out _ HI3.out.bel)
  go_wp2
  go_loop [8, 49] (fun sv iv => ∃ k : Nat, k ≤ n ∧ iv = .int .i64 k ∧ sv = .int .i64 ((mkd mk 2 k : Nat) : Int)) (fun _ iv => n - (intOf iv).toNat)
  case atStart => exact ⟨0, Nat.zero_le _, rfl, rfl⟩
  case round =>
    obtain ⟨k, hk, rfl, rfl⟩ := hrel
    by_cases hlt : k < n
    · obtain ⟨b, o, rfl, hck⟩ := HM.out k hlt
      have hck' := hck
      simp only at hck'
      have hS := lt64 (mkd_lt mk 2 k) (show k ≤ 6 by omega)
      have HO := Lib.hid (or_wrap hS (show k ≤ 6 by omega))
      have HO0 := Lib.hid (or_zero hS)
      have hmb : bits BinOp.and IntKind.i64 (((mk k : Nat) : Int) / 4) 1 = if (mk k).testBit 2 then 1 else 0 := by simpa using mark_bit (j := 2) (HK16.out k hlt)
      cases hbit : (mk k).testBit 2
      · have HKn := Lib.hid (mkd_no hbit)
        rw [hbit] at hmb
        have hmb' : bits BinOp.and IntKind.i64 (((mk k : Nat) : Int) / 4) 1 = 0 := hmb
        clear hmb hck hS
        go_wp2
        go_round
        case rel => exact ⟨k + 1, by omega, by go_num, by rw [HKn.out, HO0.out]⟩
        case measure => simp [intOf]; omega
      · have HKn := Lib.hid (mkd_yes hbit)
        rw [hbit] at hmb
        have hmb' : bits BinOp.and IntKind.i64 (((mk k : Nat) : Int) / 4) 1 = 1 := hmb
        clear hmb hck hS
        go_wp2
        go_round
        case rel => exact ⟨k + 1, by omega, by go_num, by rw [HKn.out, HO.out]⟩
        case measure => simp [intOf]; omega
    · obtain rfl : k = n := by omega
      go_wp2_with fail
      refine (HOf.out _ HI3.out.bel).mono ?_
      rintro e w4 ⟨a2, c2, b2, d2, rfl, k1, k2, hb⟩
      have H2 := Lib.hid (HRe.out a2 c2 b2 d2 _ k1 k2)
      have HI4 := Lib.hid (HI3.out.keep hb)
      clear hb q0 q1 k1 k2
      obtain ⟨q0, q1⟩ := HI4.out.cells
      go_wp2_with fail
      refine (H2.out).mono ?_
      rintro e w5 ⟨rfl, hb⟩
      have HI5 := Lib.hid (HI4.out.keep hb)
      clear hb q0 q1
      obtain ⟨q0, q1⟩ := HI5.out.cells
      go_wp2_with fail
      refine (HOf.out _ HI5.out.bel).mono ?_
      rintro e w6 ⟨a3, c3, b3, d3, rfl, k1, k2, hb⟩
      have H3 := Lib.hid (HAl.out a3 c3 b3 d3 _ k1 k2)
      have HI6 := Lib.hid (HI5.out.keep hb)
      clear hb q0 q1 k1 k2
      obtain ⟨q0, q1⟩ := HI6.out.cells
      go_wp2_with fail
      refine (H3.out).mono ?_
      rintro e w7 ⟨rfl, hb⟩
      have HI7 := Lib.hid (HI6.out.keep hb)
      clear hb q0 q1
      obtain ⟨q0, q1⟩ := HI7.out.cells
      go_wp2_with fail
      refine (HOf.out _ HI7.out.bel).mono ?_
      rintro e w8 ⟨a4, c4, b4, d4, rfl, k1, k2, hb⟩
      have H4 := Lib.hid (HH1.out a4 c4 b4 d4 _ k1 k2)
      have HI8 := Lib.hid (HI7.out.keep hb)
      clear hb q0 q1 k1 k2
      obtain ⟨q0, q1⟩ := HI8.out.cells
      go_wp2_with fail
      rw [HS1.out]
      refine (H4.out).mono ?_
      rintro e w9 ⟨rfl, hb⟩
      have HI9 := Lib.hid (HI8.out.keep hb)
      clear hb q0 q1
      obtain ⟨q0, q1⟩ := HI9.out.cells
      go_wp2_with fail
      refine (HOf.out _ HI9.out.bel).mono ?_
      rintro e w10 ⟨a5, c5, b5, d5, rfl, k1, k2, hb⟩
      have H5 := Lib.hid (HH2.out a5 c5 b5 d5 _ k1 k2)
      have HI10 := Lib.hid (HI9.out.keep hb)
      clear hb q0 q1 k1 k2
      obtain ⟨q0, q1⟩ := HI10.out.cells
      go_wp2_with fail
      rw [HS2.out]
      refine (H5.out).mono ?_
      rintro e w11 ⟨rfl, hb⟩
      have HI11 := Lib.hid (HI10.out.keep hb)
      clear hb q0 q1
      obtain ⟨q0, q1⟩ := HI11.out.cells
      have hAN := HAN.out
      have hBN := HBN.out
      go_wp2_with fail
      refine (awake_any _).mono ?_
      rintro e w12 ⟨rfl, hb⟩
      have HI12 := Lib.hid (HI11.out.keep hb)
      clear hb q0 q1
      obtain ⟨q0, q1⟩ := HI12.out.cells
      go_wp2
      go_ret
      exact ⟨rfl, HI12.out.bel⟩

set_option maxHeartbeats 4000000 in
set_option maxRecDepth 100000 in
theorem ways_good3 (W : World) (aN : Option Addr) (n cN : Nat) (aM : Option Addr) (cM : Nat) (T L : Nat → Int) (hn : n ≤ cN) (hm : n ≤ cM) (hT : Ints W aN n T) (hL : Ints W aM n L) (z : Int) (hv : isWk n n T L = true) (hc : wrap64 ((IntKind.u64.wrap z).tmod 4) = 3) :
    Calls Try.prog 5 #[wkV aN n cN aM n cM, .int .i64 z] W fun e W' => SomeB true W e W' := by
  have h6 := (isWk_iff.1 hv).2.1
  have HOf : Hid (∀ W', Below W.heap.size W W' → Calls Try.prog 9 #[wkV aN n cN aM n cM] W' fun e w' => ∃ a1 c1 a2 c2, e = .returned (wkV a1 n c1 a2 n c2) ∧ Ints w' a1 n T ∧ Ints w' a2 n L ∧ Below W'.heap.size W' w') := by
    intro W' hb
    have := of_any aN n cN aM n cM T L W' hn (by omega) hm (by omega) (hT.keep (Nat.le_refl _) hb) (hL.keep (Nat.le_refl _) hb)
    unfold OfOut at this
    rw [show min n 9 = n by omega] at this
    exact this
  have HV := Lib.hid (fun W' (hb : Below W.heap.size W W') => rvalid_r true aN n cN aM n cM T L W' hv (by omega) (by omega) (hT.keep (Nat.le_refl _) hb) (hL.keep (Nat.le_refl _) hb))
  have HH0 := Lib.hid (fun a1 c1 a2 c2 W' (h1 : Ints W' a1 n T) (h2 : Ints W' a2 n L) => fHolds_good a1 n c1 a2 n c2 T L [51] (.mark 3) W' hv (by decide) ⟨rfl, by show 3 < 4; decide⟩ h1 h2)
  have HH1 := Lib.hid (fun a1 c1 a2 c2 W' (h1 : Ints W' a1 n T) (h2 : Ints W' a2 n L) => fHolds_good a1 n c1 a2 n c2 T L [109, 120, 124, 51, 60, 120] (fRe 3) W' hv (by decide) ⟨rfl, ⟨⟨by decide, rfl⟩, (by show 3 < 4; decide), by decide, rfl⟩⟩ h1 h2)
  have HH2 := Lib.hid (fun a1 c1 a2 c2 W' (h1 : Ints W' a1 n T) (h2 : Ints W' a2 n L) => fHolds_good a1 n c1 a2 n c2 T L [103, 120, 38, 51, 60, 120] (fSt 3) W' hv (by decide) ⟨rfl, ⟨⟨by decide, rfl⟩, (by show 3 < 4; decide), by decide, rfl⟩⟩ h1 h2)
  have hwk := wk_of hv hT hL
  have hs : mkd (nat L) 3 n < 2 ^ n := mkd_lt _ _ _
  have HRe := Lib.hid (fun a1 c1 a2 c2 W' (h1 : Ints W' a1 n T) (h2 : Ints W' a2 n L) => fReach_good a1 n c1 a2 n c2 T L (mkd (nat L) 3 n) W' hv hs h1 h2)
  have HAl := Lib.hid (fun a1 c1 a2 c2 W' (h1 : Ints W' a1 n T) (h2 : Ints W' a2 n L) => fAlways_good a1 n c1 a2 n c2 T L (mkd (nat L) 3 n) W' hv hs h1 h2)
  rw [holds_re] at HH1
  rw [holds_st] at HH2
  rw [show holds n (nat T) (nat L) (.mark 3) = mkd (nat L) 3 n from rfl] at HH0
  have hA := sdf_zero (sub_reach (n := n) (nx := nat T) hs)
  have hB := sdf_zero (sub_always (n := n) (nx := nat T) (s := mkd (nat L) 3 n))
  have hA6 := lt64 ((reF_mono (nx := nat T) hs).fix_lt false) h6
  have hB6 := lt64 ((stF_mono (n := n) (nx := nat T) (s := mkd (nat L) 3 n)).fix_lt true) h6
  have hAN := andNot_nat (lt64 hs h6) hA6
  have hBN := andNot_nat hB6 (lt64 hs h6)
  rw [hA] at hAN
  rw [hB] at hBN
  have HM0 := Lib.hid (fun W' (hb : Below W.heap.size W W') => (hwk.keep (Nat.le_refl _) hb).M)
  have HK16 := Lib.hid hwk.mk_lt
  generalize fixp false n (reF n (nat T) (mkd (nat L) 3 n)) = X at *
  generalize fixp true n (stF n (nat T) (mkd (nat L) 3 n)) = Y at *
  generalize nat L = mk at *
  have HAN := Lib.hid hAN
  have HBN := Lib.hid hBN
  have hE : Utf8.encode 51 = st [51] := rfl
  obtain ⟨S0, hS0⟩ : ∃ S, st [51] = S := ⟨_, rfl⟩
  have hS1 : (⟨#[109, 120, 124]⟩ : ByteArray) ++ S0 ++ ⟨#[60, 120]⟩ = st [109, 120, 124, 51, 60, 120] := by rw [← hS0]; rfl
  have hS2 : (⟨#[103, 120, 38]⟩ : ByteArray) ++ S0 ++ ⟨#[60, 120]⟩ = st [103, 120, 38, 51, 60, 120] := by rw [← hS0]; rfl
  have HS1 := Lib.hid hS1
  have HS2 := Lib.hid hS2
  have hsz : S0.size = 1 := by rw [← hS0]; rfl
  rw [hS0] at hE HH0
  clear hn hm hT hL hv hwk hA hB hA6 hB6 hAN hBN hs hS0 hS1 hS2
  have HI0 := Lib.hid (RInv.start aN n cN aM n cM W)
  obtain ⟨q0, q1⟩ := HI0.out.cells
  go_enter Try.func5, Try.ntmps5
  go_wp2_with fail
  refine (HOf.out _ HI0.out.bel).mono ?_
  rintro e w1 ⟨a1, c1, b1, d1, rfl, k1, k2, hb⟩
  have H1 := Lib.hid (HH0.out a1 c1 b1 d1 _ k1 k2)
  have HI1 := Lib.hid (HI0.out.keep hb)
  clear hb q0 q1 k1 k2
  obtain ⟨q0, q1⟩ := HI1.out.cells
  go_wp2_with fail
  refine (H1.out).mono ?_
  rintro e w2 ⟨rfl, hb⟩
  have HI2 := Lib.hid (HI1.out.keep hb)
  clear hb q0 q1
  obtain ⟨q0, q1⟩ := HI2.out.cells
  go_wp2_with fail
  refine (HV.out _ HI2.out.bel).mono ?_
  rintro e w3 ⟨rfl, hb⟩
  have HI3 := Lib.hid (HI2.out.keep hb)
  clear hb q0 q1
  obtain ⟨q0, q1⟩ := HI3.out.cells
  have HM := Lib.hid (HM0.out _ HI3.out.bel)
  go_wp2
  go_loop [8, 49] (fun sv iv => ∃ k : Nat, k ≤ n ∧ iv = .int .i64 k ∧ sv = .int .i64 ((mkd mk 3 k : Nat) : Int)) (fun _ iv => n - (intOf iv).toNat)
  case atStart => exact ⟨0, Nat.zero_le _, rfl, rfl⟩
  case round =>
    obtain ⟨k, hk, rfl, rfl⟩ := hrel
    by_cases hlt : k < n
    · obtain ⟨b, o, rfl, hck⟩ := HM.out k hlt
      have hck' := hck
      simp only at hck'
      have hS := lt64 (mkd_lt mk 3 k) (show k ≤ 6 by omega)
      have HO := Lib.hid (or_wrap hS (show k ≤ 6 by omega))
      have HO0 := Lib.hid (or_zero hS)
      have hmb : bits BinOp.and IntKind.i64 (((mk k : Nat) : Int) / 8) 1 = if (mk k).testBit 3 then 1 else 0 := by simpa using mark_bit (j := 3) (HK16.out k hlt)
      cases hbit : (mk k).testBit 3
      · have HKn := Lib.hid (mkd_no hbit)
        rw [hbit] at hmb
        have hmb' : bits BinOp.and IntKind.i64 (((mk k : Nat) : Int) / 8) 1 = 0 := hmb
        clear hmb hck hS
        go_wp2
        go_round
        case rel => exact ⟨k + 1, by omega, by go_num, by rw [HKn.out, HO0.out]⟩
        case measure => simp [intOf]; omega
      · have HKn := Lib.hid (mkd_yes hbit)
        rw [hbit] at hmb
        have hmb' : bits BinOp.and IntKind.i64 (((mk k : Nat) : Int) / 8) 1 = 1 := hmb
        clear hmb hck hS
        go_wp2
        go_round
        case rel => exact ⟨k + 1, by omega, by go_num, by rw [HKn.out, HO.out]⟩
        case measure => simp [intOf]; omega
    · obtain rfl : k = n := by omega
      go_wp2_with fail
      refine (HOf.out _ HI3.out.bel).mono ?_
      rintro e w4 ⟨a2, c2, b2, d2, rfl, k1, k2, hb⟩
      have H2 := Lib.hid (HRe.out a2 c2 b2 d2 _ k1 k2)
      have HI4 := Lib.hid (HI3.out.keep hb)
      clear hb q0 q1 k1 k2
      obtain ⟨q0, q1⟩ := HI4.out.cells
      go_wp2_with fail
      refine (H2.out).mono ?_
      rintro e w5 ⟨rfl, hb⟩
      have HI5 := Lib.hid (HI4.out.keep hb)
      clear hb q0 q1
      obtain ⟨q0, q1⟩ := HI5.out.cells
      go_wp2_with fail
      refine (HOf.out _ HI5.out.bel).mono ?_
      rintro e w6 ⟨a3, c3, b3, d3, rfl, k1, k2, hb⟩
      have H3 := Lib.hid (HAl.out a3 c3 b3 d3 _ k1 k2)
      have HI6 := Lib.hid (HI5.out.keep hb)
      clear hb q0 q1 k1 k2
      obtain ⟨q0, q1⟩ := HI6.out.cells
      go_wp2_with fail
      refine (H3.out).mono ?_
      rintro e w7 ⟨rfl, hb⟩
      have HI7 := Lib.hid (HI6.out.keep hb)
      clear hb q0 q1
      obtain ⟨q0, q1⟩ := HI7.out.cells
      go_wp2_with fail
      refine (HOf.out _ HI7.out.bel).mono ?_
      rintro e w8 ⟨a4, c4, b4, d4, rfl, k1, k2, hb⟩
      have H4 := Lib.hid (HH1.out a4 c4 b4 d4 _ k1 k2)
      have HI8 := Lib.hid (HI7.out.keep hb)
      clear hb q0 q1 k1 k2
      obtain ⟨q0, q1⟩ := HI8.out.cells
      go_wp2_with fail
      rw [HS1.out]
      refine (H4.out).mono ?_
      rintro e w9 ⟨rfl, hb⟩
      have HI9 := Lib.hid (HI8.out.keep hb)
      clear hb q0 q1
      obtain ⟨q0, q1⟩ := HI9.out.cells
      go_wp2_with fail
      refine (HOf.out _ HI9.out.bel).mono ?_
      rintro e w10 ⟨a5, c5, b5, d5, rfl, k1, k2, hb⟩
      have H5 := Lib.hid (HH2.out a5 c5 b5 d5 _ k1 k2)
      have HI10 := Lib.hid (HI9.out.keep hb)
      clear hb q0 q1 k1 k2
      obtain ⟨q0, q1⟩ := HI10.out.cells
      go_wp2_with fail
      rw [HS2.out]
      refine (H5.out).mono ?_
      rintro e w11 ⟨rfl, hb⟩
      have HI11 := Lib.hid (HI10.out.keep hb)
      clear hb q0 q1
      obtain ⟨q0, q1⟩ := HI11.out.cells
      have hAN := HAN.out
      have hBN := HBN.out
      go_wp2_with fail
      refine (awake_any _).mono ?_
      rintro e w12 ⟨rfl, hb⟩
      have HI12 := Lib.hid (HI11.out.keep hb)
      clear hb q0 q1
      obtain ⟨q0, q1⟩ := HI12.out.cells
      go_wp2
      go_ret
      exact ⟨rfl, HI12.out.bel⟩

theorem ways_core (W : World) (aN : Option Addr) (n cN : Nat) (aM : Option Addr) (m cM : Nat) (T L : Nat → Int) (hn : n ≤ cN) (hn8 : n * 8 ≤ 140737488355328) (hm : m ≤ cM) (hm8 : m * 8 ≤ 140737488355328) (hT : Ints W aN n T) (hL : Ints W aM m L) (z : Int) (_ : -9223372036854775808 ≤ z ∧ z ≤ 9223372036854775807) :
    Calls Try.prog 5 #[wkV aN n cN aM m cM, .int .i64 z] W fun e W' => SomeB true W e W' := by
  cases hv : isWk n m T L
  · exact ways_bad W aN n cN aM m cM T L hn hn8 hm hm8 hT hL z hv
  · obtain rfl := (isWk_iff.1 hv).2.2.1
    obtain ⟨d, hd, hc⟩ := conv4 z
    rcases cases4 hd with rfl | rfl | rfl | rfl
    · exact ways_good0 W aN m cN aM cM T L hn hm hT hL z hv hc
    · exact ways_good1 W aN m cN aM cM T L hn hm hT hL z hv hc
    · exact ways_good2 W aN m cN aM cM T L hn hm hT hL z hv hc
    · exact ways_good3 W aN m cN aM cM T L hn hm hT hL z hv hc
end Go.Proofs.Ytkbbijhknbcflaa
