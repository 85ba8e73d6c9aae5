import Derived.Test.YtkbbijhknbcflabL0
import Derived.Test.YtkbbijhknbcflabR9
import Derived.Test.YtkbbijhknbcflabX4
/-
  The law FixesOthers.
-/
namespace Go.Proofs.Ytkbbijhknbcflab
open Go.RowKit Go.Shelf

set_option maxHeartbeats 4000000 in
set_option maxRecDepth 100000 in
theorem others_form (W : World) (aN : Option Addr) (n cN : Nat) (aM : Option Addr) (m cM : Nat) (l : List UInt8) (hl : l.length ≤ 9223372036854775807)
    (hB : ¬ isB l) :
    Calls Try.prog 3 #[wkV aN n cN aM m cM, .string (st l)] W fun e W' => SomeB true W e W' := by
  have HTx := Lib.hid (fun W' => text_any l W' hl)
  have HN := Lib.hid (fun W' => not_form (l.take 50) W' (by rw [List.length_take]; omega) (fun h => hB ((isB_cut l).1 h)))
  generalize st (l.take 50) = S5 at *
  generalize st l = S at *
  clear hB hl
  have HI0 := Lib.hid (RInv.start aN n cN aM m cM W)
  obtain ⟨q0, q1⟩ := HI0.out.cells
  go_enter Try.func3, Try.ntmps3
  go_wp2_with fail
  refine (HTx.out _).mono ?_
  rintro e wq ⟨rfl, rfl⟩
  go_wp2_with fail
  refine (HN.out _).mono ?_
  rintro e w1 ⟨rfl, hb⟩
  have HI1 := Lib.hid (HI0.out.keep hb)
  clear hb q0 q1
  obtain ⟨q0, q1⟩ := HI1.out.cells
  go_wp2_with fail
  refine (awake_any _).mono ?_
  rintro e w2 ⟨rfl, hb⟩
  have HI2 := Lib.hid (HI1.out.keep hb)
  clear hb q0 q1
  obtain ⟨q0, q1⟩ := HI2.out.cells
  go_wp2
  go_ret
  exact ⟨rfl, HI2.out.bel⟩

set_option maxHeartbeats 4000000 in
set_option maxRecDepth 100000 in
theorem others_long (W : World) (aN : Option Addr) (n cN : Nat) (aM : Option Addr) (m cM : Nat) (l : List UInt8) (hl : l.length ≤ 9223372036854775807)
    (h40 : l.length ≤ 40) (F : Fm) (hF : isF (fun _ => false) l F) (hle : ¬ (str (neg F)).length ≤ 40) :
    Calls Try.prog 3 #[wkV aN n cN aM m cM, .string (st l)] W fun e W' => SomeB true W e W' := by
  have HTx := Lib.hid (fun W' => text_any l W' hl)
  rw [show l.take 50 = l from List.take_of_length_le (by omega)] at HTx
  have HN := Lib.hid (fun W' => not_good F W' (by rw [← hF.1]; exact h40) hF.2)
  rw [if_neg hle, if_neg hle, ← hF.1] at HN
  generalize st l = S at *
  clear hF hl hle h40
  have HI0 := Lib.hid (RInv.start aN n cN aM m cM W)
  obtain ⟨q0, q1⟩ := HI0.out.cells
  go_enter Try.func3, Try.ntmps3
  go_wp2_with fail
  refine (HTx.out _).mono ?_
  rintro e wq ⟨rfl, rfl⟩
  go_wp2_with fail
  refine (HN.out _).mono ?_
  rintro e w1 ⟨rfl, hb⟩
  have HI1 := Lib.hid (HI0.out.keep hb)
  clear hb q0 q1
  obtain ⟨q0, q1⟩ := HI1.out.cells
  go_wp2_with fail
  refine (awake_any _).mono ?_
  rintro e w2 ⟨rfl, hb⟩
  have HI2 := Lib.hid (HI1.out.keep hb)
  clear hb q0 q1
  obtain ⟨q0, q1⟩ := HI2.out.cells
  go_wp2
  go_ret
  exact ⟨rfl, HI2.out.bel⟩

set_option maxHeartbeats 4000000 in
set_option maxRecDepth 100000 in
theorem others_arg (W : World) (aN : Option Addr) (n cN : Nat) (aM : Option Addr) (m cM : Nat) (T L : Nat → Int) (hn : n ≤ cN) (hn8 : n * 8 ≤ 140737488355328) (hm : m ≤ cM) (hm8 : m * 8 ≤ 140737488355328) (hT : Ints W aN n T) (hL : Ints W aM m L) (l : List UInt8) (hl : l.length ≤ 9223372036854775807)
    (h40 : l.length ≤ 40) (F : Fm) (hF : isF (fun _ => false) l F) (hle : (str (neg F)).length ≤ 40) (hv : isWk n m T L = false) :
    Calls Try.prog 3 #[wkV aN n cN aM m cM, .string (st l)] W fun e W' => SomeB true W e W' := by
  have HOf : Hid (∀ W', Below W.heap.size W W' → Calls Try.prog 11 #[wkV aN n cN aM m cM] W' fun e w' => ∃ a1 c1 a2 c2, e = .returned (wkV a1 (min n 9) c1 a2 (min m 9) c2) ∧ Ints w' a1 (min n 9) T ∧ Ints w' a2 (min m 9) L ∧ Below W'.heap.size W' w') :=
    fun W' hb => of_any aN n cN aM m cM T L W' hn hn8 hm hm8 (hT.keep (Nat.le_refl _) hb) (hL.keep (Nat.le_refl _) hb)
  have hv9 : isWk (min n 9) (min m 9) T L = isWk n m T L := isWk_cut n m T L
  rw [hv] at hv9
  have HTx := Lib.hid (fun W' => text_any l W' hl)
  rw [show l.take 50 = l from List.take_of_length_le (by omega)] at HTx
  have HN := Lib.hid (fun W' => not_good F W' (by rw [← hF.1]; exact h40) hF.2)
  rw [if_pos hle, if_pos hle, ← hF.1] at HN
  have HNN := Lib.hid (fun W' => not_good (neg F) W' hle (neg_wf hF.2))
  rw [neg_neg, ← hF.1, if_pos h40, if_pos h40] at HNN
  have HRIs := Lib.hid (fun W' => ris_any true l W' (by omega) ⟨fun _ => rfl, fun _ => ⟨h40, F, hF⟩⟩)
  have HV := Lib.hid (fun W' (hb : Below W.heap.size W W') => rvalid_r false aN n cN aM m cM T L W' hv hn8 hm8 (hT.keep (Nat.le_refl _) hb) (hL.keep (Nat.le_refl _) hb))
  have HHo := Lib.hid (fun s a1 c1 a2 c2 W' (h1 : Ints W' a1 (min n 9) T) (h2 : Ints W' a2 (min m 9) L) => fHolds_arg a1 (min n 9) c1 a2 (min m 9) c2 T L s W' (by omega) (by omega) hv9 h1 h2)
  have HH1 := Lib.hid (HHo.out (st l))
  have HH2 := Lib.hid (HHo.out (st (str (neg F))))
  clear HHo
  generalize min n 9 = n9 at *
  generalize min m 9 = m9 at *
  generalize st l = S at *
  generalize st (str (neg F)) = O at *
  clear hn hm hT hL hF hl hn8 hm8 hle h40 hv hv9
  have HI0 := Lib.hid (RInv.start aN n cN aM m cM W)
  obtain ⟨q0, q1⟩ := HI0.out.cells
  go_enter Try.func3, Try.ntmps3
  go_wp2_with fail
  refine (HTx.out _).mono ?_
  rintro e wq ⟨rfl, rfl⟩
  go_wp2_with fail
  refine (HN.out _).mono ?_
  rintro e w1 ⟨rfl, hb⟩
  have HI1 := Lib.hid (HI0.out.keep hb)
  clear hb q0 q1
  obtain ⟨q0, q1⟩ := HI1.out.cells
  go_wp2_with fail
  refine (HRIs.out _).mono ?_
  rintro e w2 ⟨rfl, hb⟩
  have HI2 := Lib.hid (HI1.out.keep hb)
  clear hb q0 q1
  obtain ⟨q0, q1⟩ := HI2.out.cells
  go_wp2_with fail
  refine (HNN.out _).mono ?_
  rintro e w3 ⟨rfl, hb⟩
  have HI3 := Lib.hid (HI2.out.keep hb)
  clear hb q0 q1
  obtain ⟨q0, q1⟩ := HI3.out.cells
  go_wp2_with fail
  refine (HOf.out _ HI3.out.bel).mono ?_
  rintro e w4 ⟨a1, c1, b1, d1, rfl, k1, k2, hb⟩
  have H1 := Lib.hid (HH1.out a1 c1 b1 d1 _ k1 k2)
  have HI4 := Lib.hid (HI3.out.keep hb)
  clear hb q0 q1 k1 k2
  obtain ⟨q0, q1⟩ := HI4.out.cells
  go_wp2_with fail
  refine (H1.out).mono ?_
  rintro e w5 ⟨rfl, hb⟩
  have HI5 := Lib.hid (HI4.out.keep hb)
  clear hb q0 q1
  obtain ⟨q0, q1⟩ := HI5.out.cells
  go_wp2_with fail
  refine (HOf.out _ HI5.out.bel).mono ?_
  rintro e w6 ⟨a2, c2, b2, d2, rfl, k1, k2, hb⟩
  have H2 := Lib.hid (HH2.out a2 c2 b2 d2 _ k1 k2)
  have HI6 := Lib.hid (HI5.out.keep hb)
  clear hb q0 q1 k1 k2
  obtain ⟨q0, q1⟩ := HI6.out.cells
  go_wp2_with fail
  refine (H2.out).mono ?_
  rintro e w7 ⟨rfl, hb⟩
  have HI7 := Lib.hid (HI6.out.keep hb)
  clear hb q0 q1
  obtain ⟨q0, q1⟩ := HI7.out.cells
  go_wp2_with fail
  refine (HV.out _ HI7.out.bel).mono ?_
  rintro e w8 ⟨rfl, hb⟩
  have HI8 := Lib.hid (HI7.out.keep hb)
  clear hb q0 q1
  obtain ⟨q0, q1⟩ := HI8.out.cells
  go_wp2_with fail
  refine (awake_any _).mono ?_
  rintro e w9 ⟨rfl, hb⟩
  have HI9 := Lib.hid (HI8.out.keep hb)
  clear hb q0 q1
  obtain ⟨q0, q1⟩ := HI9.out.cells
  go_wp2
  go_ret
  exact ⟨rfl, HI9.out.bel⟩

set_option maxHeartbeats 4000000 in
set_option maxRecDepth 100000 in
theorem others_good (W : World) (aN : Option Addr) (n cN : Nat) (aM : Option Addr) (cM : Nat) (T L : Nat → Int) (hn : n ≤ cN) (hm : n ≤ cM) (hT : Ints W aN n T) (hL : Ints W aM n L) (l : List UInt8) (hl : l.length ≤ 9223372036854775807)
    (h40 : l.length ≤ 40) (F : Fm) (hF : isF (fun _ => false) l F) (hle : (str (neg F)).length ≤ 40) (hv : isWk n n T L = true) :
    Calls Try.prog 3 #[wkV aN n cN aM n cM, .string (st l)] W fun e W' => SomeB true W e W' := by
  have h6 := (isWk_iff.1 hv).2.1
  have HOf : Hid (∀ W', Below W.heap.size W W' → Calls Try.prog 11 #[wkV aN n cN aM n cM] W' fun e w' => ∃ a1 c1 a2 c2, e = .returned (wkV a1 n c1 a2 n c2) ∧ Ints w' a1 n T ∧ Ints w' a2 n L ∧ Below W'.heap.size W' w') := by
    intro W' hb
    have := of_any aN n cN aM n cM T L W' hn (by omega) hm (by omega) (hT.keep (Nat.le_refl _) hb) (hL.keep (Nat.le_refl _) hb)
    unfold OfOut at this
    rw [show min n 9 = n by omega] at this
    exact this
  have HV := Lib.hid (fun W' (hb : Below W.heap.size W W') => rvalid_r true aN n cN aM n cM T L W' hv (by omega) (by omega) (hT.keep (Nat.le_refl _) hb) (hL.keep (Nat.le_refl _) hb))
  have HTx := Lib.hid (fun W' => text_any l W' hl)
  rw [show l.take 50 = l from List.take_of_length_le (by omega)] at HTx
  have HN := Lib.hid (fun W' => not_good F W' (by rw [← hF.1]; exact h40) hF.2)
  rw [if_pos hle, if_pos hle, ← hF.1] at HN
  have HNN := Lib.hid (fun W' => not_good (neg F) W' hle (neg_wf hF.2))
  rw [neg_neg, ← hF.1, if_pos h40, if_pos h40] at HNN
  have HRIs := Lib.hid (fun W' => ris_any true l W' (by omega) ⟨fun _ => rfl, fun _ => ⟨h40, F, hF⟩⟩)
  have HH1 := Lib.hid (fun a1 c1 a2 c2 W' (h1 : Ints W' a1 n T) (h2 : Ints W' a2 n L) => fHolds_good a1 n c1 a2 n c2 T L l F W' hv h40 hF h1 h2)
  have HH2 := Lib.hid (fun a1 c1 a2 c2 W' (h1 : Ints W' a1 n T) (h2 : Ints W' a2 n L) => fHolds_good a1 n c1 a2 n c2 T L (str (neg F)) (neg F) W' hv hle ⟨rfl, neg_wf hF.2⟩ h1 h2)
  rw [holds_neg hF.2] at HH2
  have hlt : holds n (nat T) (nat L) F < 2 ^ n := holds_lt F
  have hAnd := band_nat (holds n (nat T) (nat L) F) (com n (holds n (nat T) (nat L) F)) (Nat.lt_of_lt_of_le (lt64 hlt h6) (by decide)) (Nat.lt_of_lt_of_le (lt64 (com_lt _ _) h6) (by decide))
  rw [Nat.and_comm, com_and_self] at hAnd
  have hOr := bor_nat (holds n (nat T) (nat L) F) (com n (holds n (nat T) (nat L) F)) (Nat.lt_of_lt_of_le (lt64 hlt h6) (by decide)) (Nat.lt_of_lt_of_le (lt64 (com_lt _ _) h6) (by decide))
  rw [Nat.or_comm, com_or_self hlt] at hOr
  have hw := wrap_full (n := n) (by omega)
  have HAnd := Lib.hid hAnd
  have HOr := Lib.hid hOr
  have HW := Lib.hid hw
  clear hAnd hOr hw hlt
  generalize com n (holds n (nat T) (nat L) F) = Y at *
  generalize holds n (nat T) (nat L) F = X at *
  generalize ((2 ^ n - 1 : Nat) : Int) = Z at *
  generalize st l = S at *
  generalize st (str (neg F)) = O at *
  clear hn hm hT hL hF hl hle h40 hv
  have HI0 := Lib.hid (RInv.start aN n cN aM n cM W)
  obtain ⟨q0, q1⟩ := HI0.out.cells
  go_enter Try.func3, Try.ntmps3
  go_wp2_with fail
  refine (HTx.out _).mono ?_
  rintro e wq ⟨rfl, rfl⟩
  go_wp2_with fail
  refine (HN.out _).mono ?_
  rintro e w1 ⟨rfl, hb⟩
  have HI1 := Lib.hid (HI0.out.keep hb)
  clear hb q0 q1
  obtain ⟨q0, q1⟩ := HI1.out.cells
  go_wp2_with fail
  refine (HRIs.out _).mono ?_
  rintro e w2 ⟨rfl, hb⟩
  have HI2 := Lib.hid (HI1.out.keep hb)
  clear hb q0 q1
  obtain ⟨q0, q1⟩ := HI2.out.cells
  go_wp2_with fail
  refine (HNN.out _).mono ?_
  rintro e w3 ⟨rfl, hb⟩
  have HI3 := Lib.hid (HI2.out.keep hb)
  clear hb q0 q1
  obtain ⟨q0, q1⟩ := HI3.out.cells
  go_wp2_with fail
  refine (HOf.out _ HI3.out.bel).mono ?_
  rintro e w4 ⟨a1, c1, b1, d1, rfl, k1, k2, hb⟩
  have H1 := Lib.hid (HH1.out a1 c1 b1 d1 _ k1 k2)
  have HI4 := Lib.hid (HI3.out.keep hb)
  clear hb q0 q1 k1 k2
  obtain ⟨q0, q1⟩ := HI4.out.cells
  go_wp2_with fail
  refine (H1.out).mono ?_
  rintro e w5 ⟨rfl, hb⟩
  have HI5 := Lib.hid (HI4.out.keep hb)
  clear hb q0 q1
  obtain ⟨q0, q1⟩ := HI5.out.cells
  go_wp2_with fail
  refine (HOf.out _ HI5.out.bel).mono ?_
  rintro e w6 ⟨a2, c2, b2, d2, rfl, k1, k2, hb⟩
  have H2 := Lib.hid (HH2.out a2 c2 b2 d2 _ k1 k2)
  have HI6 := Lib.hid (HI5.out.keep hb)
  clear hb q0 q1 k1 k2
  obtain ⟨q0, q1⟩ := HI6.out.cells
  go_wp2_with fail
  refine (H2.out).mono ?_
  rintro e w7 ⟨rfl, hb⟩
  have HI7 := Lib.hid (HI6.out.keep hb)
  clear hb q0 q1
  obtain ⟨q0, q1⟩ := HI7.out.cells
  go_wp2_with fail
  refine (HV.out _ HI7.out.bel).mono ?_
  rintro e w8 ⟨rfl, hb⟩
  have HI8 := Lib.hid (HI7.out.keep hb)
  clear hb q0 q1
  obtain ⟨q0, q1⟩ := HI8.out.cells
  have hAnd := HAnd.out
  have hOr := HOr.out
  have hw := HW.out
  go_wp2_with fail
  refine (awake_any _).mono ?_
  rintro e w9 ⟨rfl, hb⟩
  have HI9 := Lib.hid (HI8.out.keep hb)
  clear hb q0 q1
  obtain ⟨q0, q1⟩ := HI9.out.cells
  go_wp2
  go_ret
  exact ⟨rfl, HI9.out.bel⟩

theorem others_core (W : World) (aN : Option Addr) (n cN : Nat) (aM : Option Addr) (m cM : Nat) (T L : Nat → Int) (hn : n ≤ cN) (hn8 : n * 8 ≤ 140737488355328) (hm : m ≤ cM) (hm8 : m * 8 ≤ 140737488355328) (hT : Ints W aN n T) (hL : Ints W aM m L) (s : ByteArray) (hs : s.size ≤ 9223372036854775807) :
    Calls Try.prog 3 #[wkV aN n cN aM m cM, .string s] W fun e W' => SomeB true W e W' := by
  have hl : s.data.toList.length ≤ 9223372036854775807 := hs
  rw [st_of s]
  generalize s.data.toList = l at *
  by_cases hB : isB l
  · obtain ⟨h40, F, hF⟩ := hB
    by_cases hle : (str (neg F)).length ≤ 40
    · cases hv : isWk n m T L
      · exact others_arg W aN n cN aM m cM T L hn hn8 hm hm8 hT hL l hl h40 F hF hle hv
      · obtain rfl := (isWk_iff.1 hv).2.2.1
        exact others_good W aN m cN aM cM T L hn hm hT hL l hl h40 F hF hle hv
    · exact others_long W aN n cN aM m cM l hl h40 F hF hle
  · exact others_form W aN n cN aM m cM l hl hB
end Go.Proofs.Ytkbbijhknbcflab
