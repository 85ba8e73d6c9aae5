import Derived.Test.YtkbbijhknbcflabL0
import Derived.Test.YtkbbijhknbcflabR9
import Derived.Test.YtkbbijhknbcflabC7
/-
  The law FixesEqual.
-/
namespace Go.Proofs.Ytkbbijhknbcflab
open Go.RowKit Go.Shelf

set_option maxHeartbeats 4000000 in
set_option maxRecDepth 100000 in
theorem equal_arg (W : World) (aN : Option Addr) (n cN : Nat) (aM : Option Addr) (m cM : Nat) (T L : Nat → Int) (hn : n ≤ cN) (hn8 : n * 8 ≤ 140737488355328) (hm : m ≤ cM) (hm8 : m * 8 ≤ 140737488355328) (hT : Ints W aN n T) (hL : Ints W aM m L) (l : List UInt8) (hl : l.length ≤ 9223372036854775807)
    (hv : isWk n m T L = false) :
    Calls Try.prog 5 #[wkV aN n cN aM m cM, .string (st l)] W fun e W' => SomeB true W e W' := by
  have HOf : Hid (∀ W', Below W.heap.size W W' → Calls Try.prog 11 #[wkV aN n cN aM m cM] W' fun e w' => ∃ a1 c1 a2 c2, e = .returned (wkV a1 (min n 9) c1 a2 (min m 9) c2) ∧ Ints w' a1 (min n 9) T ∧ Ints w' a2 (min m 9) L ∧ Below W'.heap.size W' w') :=
    fun W' hb => of_any aN n cN aM m cM T L W' hn hn8 hm hm8 (hT.keep (Nat.le_refl _) hb) (hL.keep (Nat.le_refl _) hb)
  have hv9 : isWk (min n 9) (min m 9) T L = isWk n m T L := isWk_cut n m T L
  rw [hv] at hv9
  have HTx := Lib.hid (fun W' => text_any l W' hl)
  have HV := Lib.hid (fun W' (hb : Below W.heap.size W W') => rvalid_r false aN n cN aM m cM T L W' hv hn8 hm8 (hT.keep (Nat.le_refl _) hb) (hL.keep (Nat.le_refl _) hb))
  have HH1 := Lib.hid (fun a1 c1 a2 c2 W' (h1 : Ints W' a1 (min n 9) T) (h2 : Ints W' a2 (min m 9) L) => fClasses_arg a1 (min n 9) c1 a2 (min m 9) c2 T L W' (by omega) (by omega) hv9 h1 h2)
  have HH2 := Lib.hid (fun a1 c1 a2 c2 W' (h1 : Ints W' a1 (min n 9) T) (h2 : Ints W' a2 (min m 9) L) => fHolds_arg a1 (min n 9) c1 a2 (min m 9) c2 T L (st (l.take 50)) W' (by omega) (by omega) hv9 h1 h2)
  generalize min n 9 = n9 at *
  generalize min m 9 = m9 at *
  generalize st (l.take 50) = S5 at *
  generalize st l = S at *
  clear hn hm hT hL hl hn8 hm8 hv hv9
  have HI0 := Lib.hid (RInv.start aN n cN aM m cM W)
  obtain ⟨q0, q1⟩ := HI0.out.cells
  go_enter Try.func5, Try.ntmps5
  go_wp2_with fail
  refine (HOf.out _ HI0.out.bel).mono ?_
  rintro e w1 ⟨a1, c1, b1, d1, rfl, k1, k2, hb⟩
  have H1 := Lib.hid (HH1.out a1 c1 b1 d1 _ k1 k2)
  have HI1 := Lib.hid (HI0.out.keep hb)
  clear hb q0 q1 k1 k2
  obtain ⟨q0, q1⟩ := HI1.out.cells
  go_wp2_with fail
  refine (H1.out).mono ?_
  rintro e w2 ⟨rfl, hb⟩
  have HI2 := Lib.hid (HI1.out.keep hb)
  clear hb q0 q1
  obtain ⟨q0, q1⟩ := HI2.out.cells
  go_wp2_with fail
  refine (HOf.out _ HI2.out.bel).mono ?_
  rintro e w3 ⟨a2, c2, b2, d2, rfl, k1, k2, hb⟩
  have H2 := Lib.hid (HH2.out a2 c2 b2 d2 _ k1 k2)
  have HI3 := Lib.hid (HI2.out.keep hb)
  clear hb q0 q1 k1 k2
  obtain ⟨q0, q1⟩ := HI3.out.cells
  go_wp2_with fail
  refine (HTx.out _).mono ?_
  rintro e wq ⟨rfl, rfl⟩
  go_wp2_with fail
  refine (H2.out).mono ?_
  rintro e w4 ⟨rfl, hb⟩
  have HI4 := Lib.hid (HI3.out.keep hb)
  clear hb q0 q1
  obtain ⟨q0, q1⟩ := HI4.out.cells
  go_wp2_with fail
  refine (HV.out _ HI4.out.bel).mono ?_
  rintro e w5 ⟨rfl, hb⟩
  have HI5 := Lib.hid (HI4.out.keep hb)
  clear hb q0 q1
  obtain ⟨q0, q1⟩ := HI5.out.cells
  go_wp2_with fail
  refine (awake_any _).mono ?_
  rintro e w6 ⟨rfl, hb⟩
  have HI6 := Lib.hid (HI5.out.keep hb)
  clear hb q0 q1
  obtain ⟨q0, q1⟩ := HI6.out.cells
  go_wp2
  go_ret
  exact ⟨rfl, HI6.out.bel⟩

set_option maxHeartbeats 4000000 in
set_option maxRecDepth 100000 in
theorem equal_form (W : World) (aN : Option Addr) (n cN : Nat) (aM : Option Addr) (cM : Nat) (T L : Nat → Int) (hn : n ≤ cN) (hm : n ≤ cM) (hT : Ints W aN n T) (hL : Ints W aM n L) (l : List UInt8) (hl : l.length ≤ 9223372036854775807)
    (hv : isWk n n T L = true) (hB : ¬ isB l) :
    Calls Try.prog 5 #[wkV aN n cN aM n cM, .string (st l)] W fun e W' => SomeB true W e W' := by
  have h6 := (isWk_iff.1 hv).2.1
  have HOf : Hid (∀ W', Below W.heap.size W W' → Calls Try.prog 11 #[wkV aN n cN aM n cM] W' fun e w' => ∃ a1 c1 a2 c2, e = .returned (wkV a1 n c1 a2 n c2) ∧ Ints w' a1 n T ∧ Ints w' a2 n L ∧ Below W'.heap.size W' w') := by
    intro W' hb
    have := of_any aN n cN aM n cM T L W' hn (by omega) hm (by omega) (hT.keep (Nat.le_refl _) hb) (hL.keep (Nat.le_refl _) hb)
    unfold OfOut at this
    rw [show min n 9 = n by omega] at this
    exact this
  have HTx := Lib.hid (fun W' => text_any l W' hl)
  have HV := Lib.hid (fun W' (hb : Below W.heap.size W W') => rvalid_r true aN n cN aM n cM T L W' hv (by omega) (by omega) (hT.keep (Nat.le_refl _) hb) (hL.keep (Nat.le_refl _) hb))
  have HH2 := Lib.hid (fun a1 c1 a2 c2 W' (h1 : Ints W' a1 n T) (h2 : Ints W' a2 n L) => fHolds_form a1 n c1 a2 n c2 T L (l.take 50) W' (by rw [List.length_take]; omega) hv (fun h => hB ((isB_cut l).1 h)) h1 h2)
  have HRIs := Lib.hid (fun W' => ris_any false l W' (by omega) (by simp [hB]))
  have h1n := (isWk_iff.1 hv).1
  obtain ⟨r, hr1, hr400, hst, hno⟩ := stays_first (nx := nat T) (mk := nat L) h1n h6
  have hC := hst.cls
  have HH1 := Lib.hid (fun a1 c1 a2 c2 W' (h1 : Ints W' a1 n T) (h2 : Ints W' a2 n L) => fClasses_good a1 n c1 a2 n c2 T L r W' hv h1 h2 hr1 hr400 hst hno)
  have hw := wrap_full (n := n) (by omega)
  have HPos := Lib.hid (fun j hj => cls_pos hC (j := j) hj)
  have HLt := Lib.hid (fun j hj => cls_lt hC (j := j) hj)
  have HOl := Lib.hid (fun k hk => orL_lt hC (k := k) hk)
  have HNew := Lib.hid (fun k hk => cls_new hC (k := k) hk)
  have HAll := Lib.hid (orL_all hC)
  have HDl : Hid ((dst (rnd n (nat T) (nat L) r) n).length ≤ 6) := Nat.le_trans (dst_len _ n) h6
  skip
  have HW := Lib.hid hw
  generalize dst (rnd n (nat T) (nat L) r) n = D at *
  clear hC hst hno hw h1n
  generalize st (l.take 50) = S5 at *
  generalize st l = S at *
  clear hn hm hT hL hl hv hB
  have HI0 := Lib.hid (RInv.start aN n cN aM n cM W)
  obtain ⟨q0, q1⟩ := HI0.out.cells
  go_enter Try.func5, Try.ntmps5
  go_wp2_with fail
  refine (HOf.out _ HI0.out.bel).mono ?_
  rintro e w1 ⟨a1, c1, b1, d1, rfl, k1, k2, hb⟩
  have H1 := Lib.hid (HH1.out a1 c1 b1 d1 _ k1 k2)
  have HI1 := Lib.hid (HI0.out.keep hb)
  clear hb q0 q1 k1 k2
  obtain ⟨q0, q1⟩ := HI1.out.cells
  go_wp2_with fail
  refine (H1.out).mono ?_
  rintro e w2 ⟨aD, cD, rfl, hDI, hb⟩
  have HN := Lib.hid hDI
  have HI2 := Lib.hid (HI1.out.keep hb)
  clear hb q0 q1 hDI
  obtain ⟨q0, q1⟩ := HI2.out.cells
  go_wp2_with fail
  refine (HOf.out _ HI2.out.bel).mono ?_
  rintro e w3 ⟨a2, c2, b2, d2, rfl, k1, k2, hb⟩
  have H2 := Lib.hid (HH2.out a2 c2 b2 d2 _ k1 k2)
  have HN := Lib.hid (HN.out.keep (Nat.le_refl _) hb)
  have HI3 := Lib.hid (HI2.out.keep hb)
  clear hb q0 q1 k1 k2
  obtain ⟨q0, q1⟩ := HI3.out.cells
  go_wp2_with fail
  refine (HTx.out _).mono ?_
  rintro e wq ⟨rfl, rfl⟩
  go_wp2_with fail
  refine (H2.out).mono ?_
  rintro e w4 ⟨rfl, hb⟩
  have HN := Lib.hid (HN.out.keep (Nat.le_refl _) hb)
  have HI4 := Lib.hid (HI3.out.keep hb)
  clear hb q0 q1
  obtain ⟨q0, q1⟩ := HI4.out.cells
  go_wp2_with fail
  refine (HV.out _ HI4.out.bel).mono ?_
  rintro e w5 ⟨rfl, hb⟩
  have HN := Lib.hid (HN.out.keep (Nat.le_refl _) hb)
  have HI5 := Lib.hid (HI4.out.keep hb)
  clear hb q0 q1
  obtain ⟨q0, q1⟩ := HI5.out.cells
  go_wp2_with fail
  refine (HRIs.out _).mono ?_
  rintro e w6 ⟨rfl, hb⟩
  have HN := Lib.hid (HN.out.keep (Nat.le_refl _) hb)
  have HI6 := Lib.hid (HI5.out.keep hb)
  clear hb q0 q1
  obtain ⟨q0, q1⟩ := HI6.out.cells
  go_wp2
  have hdl := HDl.out
  go_loop [9, 49] (fun sm si => ∃ k : Nat, k ≤ D.length ∧ si = .int .i64 k ∧ sm = .int .i64 ((orL D k : Nat) : Int)) (fun _ si => D.length - (intOf si).toNat)
  case atStart => exact ⟨0, Nat.zero_le _, rfl, rfl⟩
  case round =>
    obtain ⟨k, hk, rfl, rfl⟩ := hrel
    by_cases hlt : k < D.length
    · obtain ⟨bD, oD, rfl, hck⟩ := HN.out k hlt
      have hpos := HPos.out k hlt
      have hA := band_nat (D.getD k 0) (orL D k) (Nat.lt_of_lt_of_le (lt64 (HLt.out k hlt) h6) (by decide)) (Nat.lt_of_lt_of_le (lt64 (HOl.out k hk) h6) (by decide))
      rw [HNew.out k hlt] at hA
      have hOr := bor_nat (orL D k) (D.getD k 0) (Nat.lt_of_lt_of_le (lt64 (HOl.out k hk) h6) (by decide)) (Nat.lt_of_lt_of_le (lt64 (HLt.out k hlt) h6) (by decide))
      have HOr : Hid (bits .or .i64 ((orL D k : Nat) : Int) ((D.getD k 0 : Nat) : Int) = ((orL D (k + 1) : Nat) : Int)) := hOr
      have hcell : nv D k = ((D.getD k 0 : Nat) : Int) := rfl
      rw [hcell] at hck
      clear hcell hOr
      obtain ⟨y, hy⟩ : ∃ y : Int, ((D.getD k 0 : Nat) : Int) = y := ⟨_, rfl⟩
      obtain ⟨z, hz⟩ : ∃ z : Int, ((orL D k : Nat) : Int) = z := ⟨_, rfl⟩
      have hy1 : 1 ≤ y := by omega
      have hy2 : y ≠ 0 := by omega
      rw [hy] at hA hck HOr
      rw [hz] at hA HOr ⊢
      have hOr := HOr.out
      clear hy hz hpos
      go_wp2
      go_round
      case rel => exact ⟨k + 1, by omega, by go_num, by first | rfl | exact hOr | simp [hOr]⟩
      case measure => simp [intOf]; omega
    · obtain rfl : k = D.length := by omega
      have hall := HAll.out
      have hw := HW.out
      rw [hall]
      obtain ⟨z, hz⟩ : ∃ z : Int, ((2 ^ n - 1 : Nat) : Int) = z := ⟨_, rfl⟩
      rw [hz] at hw ⊢
      clear hz hall
      go_wp2_with fail
      refine (awake_any _).mono ?_
      rintro e w9 ⟨rfl, hb⟩
      have HI9 := Lib.hid (HI6.out.keep hb)
      clear hb q0 q1
      go_wp2
      go_ret
      exact ⟨rfl, HI9.out.bel⟩

set_option maxHeartbeats 4000000 in
set_option maxRecDepth 100000 in
theorem equal_good (W : World) (aN : Option Addr) (n cN : Nat) (aM : Option Addr) (cM : Nat) (T L : Nat → Int) (hn : n ≤ cN) (hm : n ≤ cM) (hT : Ints W aN n T) (hL : Ints W aM n L) (l : List UInt8) (hl : l.length ≤ 9223372036854775807)
    (hv : isWk n n T L = true) (h40 : l.length ≤ 40) (F : Fm) (hF : isF (fun _ => false) l F) :
    Calls Try.prog 5 #[wkV aN n cN aM n cM, .string (st l)] W fun e W' => SomeB true W e W' := by
  have h6 := (isWk_iff.1 hv).2.1
  have HOf : Hid (∀ W', Below W.heap.size W W' → Calls Try.prog 11 #[wkV aN n cN aM n cM] W' fun e w' => ∃ a1 c1 a2 c2, e = .returned (wkV a1 n c1 a2 n c2) ∧ Ints w' a1 n T ∧ Ints w' a2 n L ∧ Below W'.heap.size W' w') := by
    intro W' hb
    have := of_any aN n cN aM n cM T L W' hn (by omega) hm (by omega) (hT.keep (Nat.le_refl _) hb) (hL.keep (Nat.le_refl _) hb)
    unfold OfOut at this
    rw [show min n 9 = n by omega] at this
    exact this
  have HTx := Lib.hid (fun W' => text_any l W' hl)
  have HV := Lib.hid (fun W' (hb : Below W.heap.size W W') => rvalid_r true aN n cN aM n cM T L W' hv (by omega) (by omega) (hT.keep (Nat.le_refl _) hb) (hL.keep (Nat.le_refl _) hb))
  rw [show l.take 50 = l from List.take_of_length_le (by omega)] at HTx
  have HH2 := Lib.hid (fun a1 c1 a2 c2 W' (h1 : Ints W' a1 n T) (h2 : Ints W' a2 n L) => fHolds_good a1 n c1 a2 n c2 T L l F W' hv h40 hF h1 h2)
  have HRIs := Lib.hid (fun W' => ris_any true l W' (by omega) ⟨fun _ => rfl, fun _ => ⟨h40, F, hF⟩⟩)
  have hXlt : holds n (nat T) (nat L) F < 2 ^ n := holds_lt F
  have h1n := (isWk_iff.1 hv).1
  obtain ⟨r, hr1, hr400, hst, hno⟩ := stays_first (nx := nat T) (mk := nat L) h1n h6
  have hC := hst.cls
  have HH1 := Lib.hid (fun a1 c1 a2 c2 W' (h1 : Ints W' a1 n T) (h2 : Ints W' a2 n L) => fClasses_good a1 n c1 a2 n c2 T L r W' hv h1 h2 hr1 hr400 hst hno)
  have hw := wrap_full (n := n) (by omega)
  have HPos := Lib.hid (fun j hj => cls_pos hC (j := j) hj)
  have HLt := Lib.hid (fun j hj => cls_lt hC (j := j) hj)
  have HOl := Lib.hid (fun k hk => orL_lt hC (k := k) hk)
  have HNew := Lib.hid (fun k hk => cls_new hC (k := k) hk)
  have HAll := Lib.hid (orL_all hC)
  have HDl : Hid ((dst (rnd n (nat T) (nat L) r) n).length ≤ 6) := Nat.le_trans (dst_len _ n) h6
  have HX := Lib.hid (fun j hj => cls_holds hC F (j := j) hj)
  have HW := Lib.hid hw
  generalize dst (rnd n (nat T) (nat L) r) n = D at *
  clear hC hst hno hw h1n
  generalize holds n (nat T) (nat L) F = X at *
  generalize st l = S at *
  clear hn hm hT hL hl hv hF h40
  have HI0 := Lib.hid (RInv.start aN n cN aM n cM W)
  obtain ⟨q0, q1⟩ := HI0.out.cells
  go_enter Try.func5, Try.ntmps5
  go_wp2_with fail
  refine (HOf.out _ HI0.out.bel).mono ?_
  rintro e w1 ⟨a1, c1, b1, d1, rfl, k1, k2, hb⟩
  have H1 := Lib.hid (HH1.out a1 c1 b1 d1 _ k1 k2)
  have HI1 := Lib.hid (HI0.out.keep hb)
  clear hb q0 q1 k1 k2
  obtain ⟨q0, q1⟩ := HI1.out.cells
  go_wp2_with fail
  refine (H1.out).mono ?_
  rintro e w2 ⟨aD, cD, rfl, hDI, hb⟩
  have HN := Lib.hid hDI
  have HI2 := Lib.hid (HI1.out.keep hb)
  clear hb q0 q1 hDI
  obtain ⟨q0, q1⟩ := HI2.out.cells
  go_wp2_with fail
  refine (HOf.out _ HI2.out.bel).mono ?_
  rintro e w3 ⟨a2, c2, b2, d2, rfl, k1, k2, hb⟩
  have H2 := Lib.hid (HH2.out a2 c2 b2 d2 _ k1 k2)
  have HN := Lib.hid (HN.out.keep (Nat.le_refl _) hb)
  have HI3 := Lib.hid (HI2.out.keep hb)
  clear hb q0 q1 k1 k2
  obtain ⟨q0, q1⟩ := HI3.out.cells
  go_wp2_with fail
  refine (HTx.out _).mono ?_
  rintro e wq ⟨rfl, rfl⟩
  go_wp2_with fail
  refine (H2.out).mono ?_
  rintro e w4 ⟨rfl, hb⟩
  have HN := Lib.hid (HN.out.keep (Nat.le_refl _) hb)
  have HI4 := Lib.hid (HI3.out.keep hb)
  clear hb q0 q1
  obtain ⟨q0, q1⟩ := HI4.out.cells
  go_wp2_with fail
  refine (HV.out _ HI4.out.bel).mono ?_
  rintro e w5 ⟨rfl, hb⟩
  have HN := Lib.hid (HN.out.keep (Nat.le_refl _) hb)
  have HI5 := Lib.hid (HI4.out.keep hb)
  clear hb q0 q1
  obtain ⟨q0, q1⟩ := HI5.out.cells
  go_wp2_with fail
  refine (HRIs.out _).mono ?_
  rintro e w6 ⟨rfl, hb⟩
  have HN := Lib.hid (HN.out.keep (Nat.le_refl _) hb)
  have HI6 := Lib.hid (HI5.out.keep hb)
  clear hb q0 q1
  obtain ⟨q0, q1⟩ := HI6.out.cells
  go_wp2
  have hdl := HDl.out
  go_loop [9, 49] (fun sm si => ∃ k : Nat, k ≤ D.length ∧ si = .int .i64 k ∧ sm = .int .i64 ((orL D k : Nat) : Int)) (fun _ si => D.length - (intOf si).toNat)
  case atStart => exact ⟨0, Nat.zero_le _, rfl, rfl⟩
  case round =>
    obtain ⟨k, hk, rfl, rfl⟩ := hrel
    by_cases hlt : k < D.length
    · obtain ⟨bD, oD, rfl, hck⟩ := HN.out k hlt
      have hpos := HPos.out k hlt
      have hA := band_nat (D.getD k 0) (orL D k) (Nat.lt_of_lt_of_le (lt64 (HLt.out k hlt) h6) (by decide)) (Nat.lt_of_lt_of_le (lt64 (HOl.out k hk) h6) (by decide))
      rw [HNew.out k hlt] at hA
      have hOr := bor_nat (orL D k) (D.getD k 0) (Nat.lt_of_lt_of_le (lt64 (HOl.out k hk) h6) (by decide)) (Nat.lt_of_lt_of_le (lt64 (HLt.out k hlt) h6) (by decide))
      have HOr : Hid (bits .or .i64 ((orL D k : Nat) : Int) ((D.getD k 0 : Nat) : Int) = ((orL D (k + 1) : Nat) : Int)) := hOr
      have hcell : nv D k = ((D.getD k 0 : Nat) : Int) := rfl
      rw [hcell] at hck
      clear hcell hOr
      have hX := band_nat X (D.getD k 0) (Nat.lt_of_lt_of_le (lt64 hXlt h6) (by decide)) (Nat.lt_of_lt_of_le (lt64 (HLt.out k hlt) h6) (by decide))
      rcases HX.out k hlt with h | h
      · rw [h] at hX
        obtain ⟨y, hy⟩ : ∃ y : Int, ((D.getD k 0 : Nat) : Int) = y := ⟨_, rfl⟩
        obtain ⟨z, hz⟩ : ∃ z : Int, ((orL D k : Nat) : Int) = z := ⟨_, rfl⟩
        have hy1 : 1 ≤ y := by omega
        have hy2 : y ≠ 0 := by omega
        rw [hy] at hX
        rw [hy] at hA hck HOr
        rw [hz] at hA HOr ⊢
        have hOr := HOr.out
        clear hy hz hpos
        go_wp2
        go_round
        case rel => exact ⟨k + 1, by omega, by go_num, by first | rfl | exact hOr | simp [hOr]⟩
        case measure => simp [intOf]; omega
      · rw [h] at hX
        obtain ⟨y, hy⟩ : ∃ y : Int, ((D.getD k 0 : Nat) : Int) = y := ⟨_, rfl⟩
        obtain ⟨z, hz⟩ : ∃ z : Int, ((orL D k : Nat) : Int) = z := ⟨_, rfl⟩
        have hy1 : 1 ≤ y := by omega
        have hy2 : y ≠ 0 := by omega
        rw [hy] at hX
        rw [hy] at hA hck HOr
        rw [hz] at hA HOr ⊢
        have hOr := HOr.out
        clear hy hz hpos
        go_wp2
        go_round
        case rel => exact ⟨k + 1, by omega, by go_num, by first | rfl | exact hOr | simp [hOr]⟩
        case measure => simp [intOf]; omega
    · obtain rfl : k = D.length := by omega
      have hall := HAll.out
      have hw := HW.out
      rw [hall]
      obtain ⟨z, hz⟩ : ∃ z : Int, ((2 ^ n - 1 : Nat) : Int) = z := ⟨_, rfl⟩
      rw [hz] at hw ⊢
      clear hz hall
      go_wp2_with fail
      refine (awake_any _).mono ?_
      rintro e w9 ⟨rfl, hb⟩
      have HI9 := Lib.hid (HI6.out.keep hb)
      clear hb q0 q1
      go_wp2
      go_ret
      exact ⟨rfl, HI9.out.bel⟩

theorem equal_core (W : World) (aN : Option Addr) (n cN : Nat) (aM : Option Addr) (m cM : Nat) (T L : Nat → Int) (hn : n ≤ cN) (hn8 : n * 8 ≤ 140737488355328) (hm : m ≤ cM) (hm8 : m * 8 ≤ 140737488355328) (hT : Ints W aN n T) (hL : Ints W aM m L) (s : ByteArray) (hs : s.size ≤ 9223372036854775807) :
    Calls Try.prog 5 #[wkV aN n cN aM m cM, .string s] W fun e W' => SomeB true W e W' := by
  have hl : s.data.toList.length ≤ 9223372036854775807 := hs
  rw [st_of s]
  generalize s.data.toList = l at *
  cases hv : isWk n m T L
  · exact equal_arg W aN n cN aM m cM T L hn hn8 hm hm8 hT hL l hl hv
  · obtain rfl := (isWk_iff.1 hv).2.2.1
    by_cases hB : isB l
    · obtain ⟨h40, F, hF⟩ := hB
      exact equal_good W aN m cN aM cM T L hn hm hT hL l hl hv h40 F hF
    · exact equal_form W aN m cN aM cM T L hn hm hT hL l hl hv hB
end Go.Proofs.Ytkbbijhknbcflab
