import Derived.Test.YtkbbijhknbcflaaL1
import Derived.Test.YtkbbijhknbcflaaR8
/-
  The law FixesHolds.
-/
namespace Go.Proofs.Ytkbbijhknbcflaa
open Go.RowKit Go.Shelf

theorem isB_cut (l : List UInt8) : isB (l.take 50) ↔ isB l := by
  by_cases h : l.length ≤ 50
  · rw [List.take_of_length_le h]
  · constructor
    · intro h2
      have := h2.1
      rw [List.length_take] at this; omega
    · intro h2
      have := h2.1; omega
theorem st_take (l : List UInt8) (k : Nat) (_h : k ≤ l.length) : (st l).extract 0 k = st (l.take k) := by
  rw [st_of ((st l).extract 0 k), extract_data, st_data]
  simp

set_option maxHeartbeats 4000000 in
set_option maxRecDepth 100000 in
theorem text_any (l : List UInt8) (w : World) (hl : l.length ≤ 9223372036854775807) : Calls Try.prog 17 #[.string (st l)] w fun e w' => e = .returned (.string (st (l.take 50))) ∧ w' = w := by
  have hs : (st l).size = l.length := st_size l
  have hsz : (st l).size ≤ 9223372036854775807 := by omega
  by_cases h : l.length ≤ 50
  · have HT : Hid (st l = st (l.take 50)) := by rw [Hid, List.take_of_length_le h]
    have h1 : (st l).size ≤ 50 := by omega
    generalize st l = L at *
    have h2 : min (L.size : Int) 50 = (L.size : Int) := by omega
    clear hs hl h
    go_enter Try.func17, Try.ntmps17
    go_wp2
    go_ret
    exact ⟨by rw [← HT.out]; rfl, rfl⟩
  · have HT : Hid ((st l).extract 0 50 = st (l.take 50)) := st_take l 50 (by omega)
    have h1 : 50 < (st l).size := by omega
    generalize st l = L at *
    have h2 : min (L.size : Int) 50 = 50 := by omega
    clear hs hl h
    go_enter Try.func17, Try.ntmps17
    go_wp2
    go_ret
    exact ⟨by rw [← HT.out]; rfl, rfl⟩

set_option maxHeartbeats 4000000 in
set_option maxRecDepth 100000 in
theorem holds_arg (W : World) (aN : Option Addr) (n cN : Nat) (aM : Option Addr) (m cM : Nat) (T L : Nat → Int) (hn : n ≤ cN) (hn8 : n * 8 ≤ 140737488355328) (hm : m ≤ cM) (hm8 : m * 8 ≤ 140737488355328) (hT : Ints W aN n T) (hL : Ints W aM m L) (l : List UInt8) (hl : l.length ≤ 9223372036854775807)
    (hv : isWk n m T L = false) :
    Calls Try.prog 6 #[wkV aN n cN aM m cM, .string (st l)] W fun e W' => SomeB true W e W' := by
  have HOf : Hid (∀ W', Below W.heap.size W W' → Calls Try.prog 9 #[wkV aN n cN aM m cM] W' fun e w' => ∃ a1 c1 a2 c2, e = .returned (wkV a1 (min n 9) c1 a2 (min m 9) c2) ∧ Ints w' a1 (min n 9) T ∧ Ints w' a2 (min m 9) L ∧ Below W'.heap.size W' w') :=
    fun W' hb => of_any aN n cN aM m cM T L W' hn hn8 hm hm8 (hT.keep (Nat.le_refl _) hb) (hL.keep (Nat.le_refl _) hb)
  have hv9 : isWk (min n 9) (min m 9) T L = isWk n m T L := isWk_cut n m T L
  rw [hv] at hv9
  have HHo := Lib.hid (fun a1 c1 a2 c2 W' (h1 : Ints W' a1 (min n 9) T) (h2 : Ints W' a2 (min m 9) L) => fHolds_arg a1 (min n 9) c1 a2 (min m 9) c2 T L (st (l.take 50)) W' (by omega) (by omega) hv9 h1 h2)
  have HTx := Lib.hid (fun W' => text_any l W' hl)
  have HV := Lib.hid (fun W' (hb : Below W.heap.size W W') => rvalid_r false aN n cN aM m cM T L W' hv hn8 hm8 (hT.keep (Nat.le_refl _) hb) (hL.keep (Nat.le_refl _) hb))
  generalize min n 9 = n9 at *
  generalize min m 9 = m9 at *
  obtain ⟨r, hr⟩ : ∃ r : Bool, isB l ↔ r = true := by
    by_cases h : isB l
    · exact ⟨true, by simp [h]⟩
    · exact ⟨false, by simp [h]⟩
  have HIs := Lib.hid (fun W' => is_r r (l.take 50) W' (by rw [List.length_take]; omega) ((isB_cut l).trans hr))
  have HRIs := Lib.hid (fun W' => ris_any r l W' (by omega) hr)
  generalize st (l.take 50) = S5 at *
  generalize st l = S at *
  clear hn hm hT hL hv hv9 hr hl
  cases r
  · skip
    have HI0 := Lib.hid (RInv.start aN n cN aM m cM W)
    obtain ⟨q0, q1⟩ := HI0.out.cells
    go_enter Try.func6, Try.ntmps6
    go_wp2_with fail
    refine (HOf.out _ HI0.out.bel).mono ?_
    rintro e w1 ⟨a1, c1, a2, c2, rfl, k1, k2, hb⟩
    have H1 := Lib.hid (HHo.out a1 c1 a2 c2 _ k1 k2)
    have HI1 := Lib.hid (HI0.out.keep hb)
    clear hb q0 q1 k1 k2
    obtain ⟨q0, q1⟩ := HI1.out.cells
    go_wp2_with fail
    refine (HTx.out _).mono ?_
    rintro e wq ⟨rfl, rfl⟩
    go_wp2_with fail
    refine (H1.out).mono ?_
    rintro e w2 ⟨rfl, hb⟩
    have HI2 := Lib.hid (HI1.out.keep hb)
    clear hb q0 q1
    obtain ⟨q0, q1⟩ := HI2.out.cells
    go_wp2_with fail
    refine (HTx.out _).mono ?_
    rintro e wq ⟨rfl, rfl⟩
    go_wp2_with fail
    refine (HIs.out _).mono ?_
    rintro e w3 ⟨rfl, hb⟩
    have HI3 := Lib.hid (HI2.out.keep hb)
    clear hb q0 q1
    obtain ⟨q0, q1⟩ := HI3.out.cells
    go_wp2_with fail
    refine (HRIs.out _).mono ?_
    rintro e w4 ⟨rfl, hb⟩
    have HI4 := Lib.hid (HI3.out.keep hb)
    clear hb q0 q1
    obtain ⟨q0, q1⟩ := HI4.out.cells
    go_wp2_with fail
    refine (HV.out _ HI4.out.bel).mono ?_
    rintro e w5 ⟨rfl, hb⟩
    have HI5 := Lib.hid (HI4.out.keep hb)
    clear hb q0 q1
    obtain ⟨q0, q1⟩ := HI5.out.cells
    go_wp2_with fail
    refine (awake_any _).mono ?_
    rintro e w6 ⟨rfl, hb⟩
    have HI6 := Lib.hid (HI5.out.keep hb)
    clear hb q0 q1
    obtain ⟨q0, q1⟩ := HI6.out.cells
    go_wp2
    go_ret
    exact ⟨rfl, HI6.out.bel⟩
  · skip
    have HI0 := Lib.hid (RInv.start aN n cN aM m cM W)
    obtain ⟨q0, q1⟩ := HI0.out.cells
    go_enter Try.func6, Try.ntmps6
    go_wp2_with fail
    refine (HOf.out _ HI0.out.bel).mono ?_
    rintro e w1 ⟨a1, c1, a2, c2, rfl, k1, k2, hb⟩
    have H1 := Lib.hid (HHo.out a1 c1 a2 c2 _ k1 k2)
    have HI1 := Lib.hid (HI0.out.keep hb)
    clear hb q0 q1 k1 k2
    obtain ⟨q0, q1⟩ := HI1.out.cells
    go_wp2_with fail
    refine (HTx.out _).mono ?_
    rintro e wq ⟨rfl, rfl⟩
    go_wp2_with fail
    refine (H1.out).mono ?_
    rintro e w2 ⟨rfl, hb⟩
    have HI2 := Lib.hid (HI1.out.keep hb)
    clear hb q0 q1
    obtain ⟨q0, q1⟩ := HI2.out.cells
    go_wp2_with fail
    refine (HTx.out _).mono ?_
    rintro e wq ⟨rfl, rfl⟩
    go_wp2_with fail
    refine (HIs.out _).mono ?_
    rintro e w3 ⟨rfl, hb⟩
    have HI3 := Lib.hid (HI2.out.keep hb)
    clear hb q0 q1
    obtain ⟨q0, q1⟩ := HI3.out.cells
    go_wp2_with fail
    refine (HRIs.out _).mono ?_
    rintro e w4 ⟨rfl, hb⟩
    have HI4 := Lib.hid (HI3.out.keep hb)
    clear hb q0 q1
    obtain ⟨q0, q1⟩ := HI4.out.cells
    go_wp2_with fail
    refine (HV.out _ HI4.out.bel).mono ?_
    rintro e w5 ⟨rfl, hb⟩
    have HI5 := Lib.hid (HI4.out.keep hb)
    clear hb q0 q1
    obtain ⟨q0, q1⟩ := HI5.out.cells
    go_wp2_with fail
    refine (awake_any _).mono ?_
    rintro e w6 ⟨rfl, hb⟩
    have HI6 := Lib.hid (HI5.out.keep hb)
    clear hb q0 q1
    obtain ⟨q0, q1⟩ := HI6.out.cells
    go_wp2
    go_ret
    exact ⟨rfl, HI6.out.bel⟩

set_option maxHeartbeats 4000000 in
set_option maxRecDepth 100000 in
theorem holds_form (W : World) (aN : Option Addr) (n cN : Nat) (aM : Option Addr) (cM : Nat) (T L : Nat → Int) (hn : n ≤ cN) (hm : n ≤ cM) (hT : Ints W aN n T) (hL : Ints W aM n L) (l : List UInt8) (hl : l.length ≤ 9223372036854775807)
    (hv : isWk n n T L = true) (hB : ¬ isB l) :
    Calls Try.prog 6 #[wkV aN n cN aM n cM, .string (st l)] W fun e W' => SomeB true W e W' := by
  have h6 := (isWk_iff.1 hv).2.1
  have HOf : Hid (∀ W', Below W.heap.size W W' → Calls Try.prog 9 #[wkV aN n cN aM n cM] W' fun e w' => ∃ a1 c1 a2 c2, e = .returned (wkV a1 n c1 a2 n c2) ∧ Ints w' a1 n T ∧ Ints w' a2 n L ∧ Below W'.heap.size W' w') := by
    intro W' hb
    have := of_any aN n cN aM n cM T L W' hn (by omega) hm (by omega) (hT.keep (Nat.le_refl _) hb) (hL.keep (Nat.le_refl _) hb)
    unfold OfOut at this
    rw [show min n 9 = n by omega] at this
    exact this
  have HTx := Lib.hid (fun W' => text_any l W' hl)
  have HV := Lib.hid (fun W' (hb : Below W.heap.size W W') => rvalid_r true aN n cN aM n cM T L W' hv (by omega) (by omega) (hT.keep (Nat.le_refl _) hb) (hL.keep (Nat.le_refl _) hb))
  have HHo := Lib.hid (fun a1 c1 a2 c2 W' (h1 : Ints W' a1 n T) (h2 : Ints W' a2 n L) => fHolds_form a1 n c1 a2 n c2 T L (l.take 50) W' (by rw [List.length_take]; omega) hv (fun h => hB ((isB_cut l).1 h)) h1 h2)
  have HIs := Lib.hid (fun W' => is_r false (l.take 50) W' (by rw [List.length_take]; omega) (by rw [isB_cut]; simp [hB]))
  have HRIs := Lib.hid (fun W' => ris_any false l W' (by omega) (by simp [hB]))
  generalize st (l.take 50) = S5 at *
  generalize st l = S at *
  clear hn hm hT hL hv hB hl
  have HI0 := Lib.hid (RInv.start aN n cN aM n cM W)
  obtain ⟨q0, q1⟩ := HI0.out.cells
  go_enter Try.func6, Try.ntmps6
  go_wp2_with fail
  refine (HOf.out _ HI0.out.bel).mono ?_
  rintro e w1 ⟨a1, c1, a2, c2, rfl, k1, k2, hb⟩
  have H1 := Lib.hid (HHo.out a1 c1 a2 c2 _ k1 k2)
  have HI1 := Lib.hid (HI0.out.keep hb)
  clear hb q0 q1 k1 k2
  obtain ⟨q0, q1⟩ := HI1.out.cells
  go_wp2_with fail
  refine (HTx.out _).mono ?_
  rintro e wq ⟨rfl, rfl⟩
  go_wp2_with fail
  refine (H1.out).mono ?_
  rintro e w2 ⟨rfl, hb⟩
  have HI2 := Lib.hid (HI1.out.keep hb)
  clear hb q0 q1
  obtain ⟨q0, q1⟩ := HI2.out.cells
  go_wp2_with fail
  refine (HTx.out _).mono ?_
  rintro e wq ⟨rfl, rfl⟩
  go_wp2_with fail
  refine (HIs.out _).mono ?_
  rintro e w3 ⟨rfl, hb⟩
  have HI3 := Lib.hid (HI2.out.keep hb)
  clear hb q0 q1
  obtain ⟨q0, q1⟩ := HI3.out.cells
  go_wp2_with fail
  refine (HRIs.out _).mono ?_
  rintro e w4 ⟨rfl, hb⟩
  have HI4 := Lib.hid (HI3.out.keep hb)
  clear hb q0 q1
  obtain ⟨q0, q1⟩ := HI4.out.cells
  go_wp2_with fail
  refine (HV.out _ HI4.out.bel).mono ?_
  rintro e w5 ⟨rfl, hb⟩
  have HI5 := Lib.hid (HI4.out.keep hb)
  clear hb q0 q1
  obtain ⟨q0, q1⟩ := HI5.out.cells
  go_wp2_with fail
  refine (HRIs.out _).mono ?_
  rintro e w6 ⟨rfl, hb⟩
  have HI6 := Lib.hid (HI5.out.keep hb)
  clear hb q0 q1
  obtain ⟨q0, q1⟩ := HI6.out.cells
  go_wp2_with fail
  refine (awake_any _).mono ?_
  rintro e w7 ⟨rfl, hb⟩
  have HI7 := Lib.hid (HI6.out.keep hb)
  clear hb q0 q1
  obtain ⟨q0, q1⟩ := HI7.out.cells
  go_wp2
  go_ret
  exact ⟨rfl, HI7.out.bel⟩

set_option maxHeartbeats 4000000 in
set_option maxRecDepth 100000 in
theorem holds_good (W : World) (aN : Option Addr) (n cN : Nat) (aM : Option Addr) (cM : Nat) (T L : Nat → Int) (hn : n ≤ cN) (hm : n ≤ cM) (hT : Ints W aN n T) (hL : Ints W aM n L) (l : List UInt8) (hl : l.length ≤ 9223372036854775807)
    (hv : isWk n n T L = true) (h40 : l.length ≤ 40) (F : Fm) (hF : isF (fun _ => false) l F) :
    Calls Try.prog 6 #[wkV aN n cN aM n cM, .string (st l)] W fun e W' => SomeB true W e W' := by
  have h6 := (isWk_iff.1 hv).2.1
  have HOf : Hid (∀ W', Below W.heap.size W W' → Calls Try.prog 9 #[wkV aN n cN aM n cM] W' fun e w' => ∃ a1 c1 a2 c2, e = .returned (wkV a1 n c1 a2 n c2) ∧ Ints w' a1 n T ∧ Ints w' a2 n L ∧ Below W'.heap.size W' w') := by
    intro W' hb
    have := of_any aN n cN aM n cM T L W' hn (by omega) hm (by omega) (hT.keep (Nat.le_refl _) hb) (hL.keep (Nat.le_refl _) hb)
    unfold OfOut at this
    rw [show min n 9 = n by omega] at this
    exact this
  have HTx := Lib.hid (fun W' => text_any l W' hl)
  have HV := Lib.hid (fun W' (hb : Below W.heap.size W W') => rvalid_r true aN n cN aM n cM T L W' hv (by omega) (by omega) (hT.keep (Nat.le_refl _) hb) (hL.keep (Nat.le_refl _) hb))
  have h50 : l.take 50 = l := List.take_of_length_le (by omega)
  have HHo := Lib.hid (fun a1 c1 a2 c2 W' (h1 : Ints W' a1 n T) (h2 : Ints W' a2 n L) => fHolds_good a1 n c1 a2 n c2 T L l F W' hv h40 hF h1 h2)
  have HIs := Lib.hid (fun W' => is_yes l W' ⟨h40, F, hF⟩)
  have HRIs := Lib.hid (fun W' => ris_any true l W' (by omega) ⟨fun _ => rfl, fun _ => ⟨h40, F, hF⟩⟩)
  have HRH := Lib.hid (fun W' (hb : Below W.heap.size W W') => rholds_any l F hF (by omega) aN n cN aM cM (nat T) (nat L) W' ((wk_of hv hT hL).keep (Nat.le_refl _) hb))
  rw [h50] at HTx
  generalize holds n (nat T) (nat L) F = X at *
  generalize st l = S at *
  clear hn hm hT hL hv hF hl h50 h40
  have HI0 := Lib.hid (RInv.start aN n cN aM n cM W)
  obtain ⟨q0, q1⟩ := HI0.out.cells
  go_enter Try.func6, Try.ntmps6
  go_wp2_with fail
  refine (HOf.out _ HI0.out.bel).mono ?_
  rintro e w1 ⟨a1, c1, a2, c2, rfl, k1, k2, hb⟩
  have H1 := Lib.hid (HHo.out a1 c1 a2 c2 _ k1 k2)
  have HI1 := Lib.hid (HI0.out.keep hb)
  clear hb q0 q1 k1 k2
  obtain ⟨q0, q1⟩ := HI1.out.cells
  go_wp2_with fail
  refine (HTx.out _).mono ?_
  rintro e wq ⟨rfl, rfl⟩
  go_wp2_with fail
  refine (H1.out).mono ?_
  rintro e w2 ⟨rfl, hb⟩
  have HI2 := Lib.hid (HI1.out.keep hb)
  clear hb q0 q1
  obtain ⟨q0, q1⟩ := HI2.out.cells
  go_wp2_with fail
  refine (HTx.out _).mono ?_
  rintro e wq ⟨rfl, rfl⟩
  go_wp2_with fail
  refine (HIs.out _).mono ?_
  rintro e w3 ⟨rfl, hb⟩
  have HI3 := Lib.hid (HI2.out.keep hb)
  clear hb q0 q1
  obtain ⟨q0, q1⟩ := HI3.out.cells
  go_wp2_with fail
  refine (HRIs.out _).mono ?_
  rintro e w4 ⟨rfl, hb⟩
  have HI4 := Lib.hid (HI3.out.keep hb)
  clear hb q0 q1
  obtain ⟨q0, q1⟩ := HI4.out.cells
  go_wp2_with fail
  refine (HV.out _ HI4.out.bel).mono ?_
  rintro e w5 ⟨rfl, hb⟩
  have HI5 := Lib.hid (HI4.out.keep hb)
  clear hb q0 q1
  obtain ⟨q0, q1⟩ := HI5.out.cells
  go_wp2_with fail
  refine (HRIs.out _).mono ?_
  rintro e w6 ⟨rfl, hb⟩
  have HI6 := Lib.hid (HI5.out.keep hb)
  clear hb q0 q1
  obtain ⟨q0, q1⟩ := HI6.out.cells
  go_wp2_with fail
  refine (HRH.out _ HI6.out.bel).mono ?_
  rintro e w7 ⟨rfl, hb⟩
  have HI7 := Lib.hid (HI6.out.keep hb)
  clear hb q0 q1
  obtain ⟨q0, q1⟩ := HI7.out.cells
  go_wp2_with fail
  refine (awake_any _).mono ?_
  rintro e w8 ⟨rfl, hb⟩
  have HI8 := Lib.hid (HI7.out.keep hb)
  clear hb q0 q1
  obtain ⟨q0, q1⟩ := HI8.out.cells
  go_wp2
  go_ret
  exact ⟨rfl, HI8.out.bel⟩

theorem holds_core (W : World) (aN : Option Addr) (n cN : Nat) (aM : Option Addr) (m cM : Nat) (T L : Nat → Int) (hn : n ≤ cN) (hn8 : n * 8 ≤ 140737488355328) (hm : m ≤ cM) (hm8 : m * 8 ≤ 140737488355328) (hT : Ints W aN n T) (hL : Ints W aM m L) (s : ByteArray) (hs : s.size ≤ 9223372036854775807) :
    Calls Try.prog 6 #[wkV aN n cN aM m cM, .string s] W fun e W' => SomeB true W e W' := by
  have hl : s.data.toList.length ≤ 9223372036854775807 := hs
  rw [st_of s]
  generalize s.data.toList = l at *
  cases hv : isWk n m T L
  · exact holds_arg W aN n cN aM m cM T L hn hn8 hm hm8 hT hL l hl hv
  · obtain rfl := (isWk_iff.1 hv).2.2.1
    by_cases hB : isB l
    · obtain ⟨h40, F, hF⟩ := hB
      exact holds_good W aN m cN aM cM T L hn hm hT hL l hl hv h40 F hF
    · exact holds_form W aN m cN aM cM T L hn hm hT hL l hl hv hB
end Go.Proofs.Ytkbbijhknbcflaa
