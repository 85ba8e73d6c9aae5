import Derived.Test.YtkbbijhknbcflabL0
import Derived.Test.YtkbbijhknbcflabH2
import Derived.Test.YtkbbijhknbcflabR9
import Derived.Laws.Concat
/-
  The law FixesBound.
-/
namespace Go.Proofs.Ytkbbijhknbcflab
open Go.RowKit Go.Shelf

theorem isFx_cut (l : List UInt8) : isFx (l.take 50) ↔ isFx l := by
  by_cases h : l.length ≤ 50
  · rw [List.take_of_length_le h]
  · constructor
    · intro h2
      have := h2.1
      rw [List.length_take] at this; omega
    · intro h2
      have := h2.1; omega
theorem sdf_zero {X Y : Nat} (h : Sub X Y) : sdf X Y = 0 := by
  refine Nat.eq_of_testBit_eq fun i => ?_
  rw [bit_sdf, Nat.zero_testBit]
  cases hx : X.testBit i
  · rfl
  · rw [h i hx]; rfl
theorem least_most {n : Nat} {F : Nat → Nat} (h : Mono n F) : Sub (fixp false n F) (fixp true n F) :=
  h.least (h.fix_lt true) (by rw [h.fix true]; exact Sub.refl _)
theorem st_tl (x : UInt8) (t : List UInt8) : (st (x :: t)).extract 1 (st (x :: t)).size = st t := st_tail x t

set_option maxHeartbeats 4000000 in
set_option maxRecDepth 100000 in
theorem bound_arg (W : World) (aN : Option Addr) (n cN : Nat) (aM : Option Addr) (m cM : Nat) (T L : Nat → Int) (hn : n ≤ cN) (hn8 : n * 8 ≤ 140737488355328) (hm : m ≤ cM) (hm8 : m * 8 ≤ 140737488355328) (hT : Ints W aN n T) (hL : Ints W aM m L) (l : List UInt8) (hl : l.length ≤ 9223372036854775807)
    (hv : isWk n m T L = false) :
    Calls Try.prog 4 #[wkV aN n cN aM m cM, .string (st l)] W fun e W' => SomeB true W e W' := by
  have HOf : Hid (∀ W', Below W.heap.size W W' → Calls Try.prog 11 #[wkV aN n cN aM m cM] W' fun e w' => ∃ a1 c1 a2 c2, e = .returned (wkV a1 (min n 9) c1 a2 (min m 9) c2) ∧ Ints w' a1 (min n 9) T ∧ Ints w' a2 (min m 9) L ∧ Below W'.heap.size W' w') :=
    fun W' hb => of_any aN n cN aM m cM T L W' hn hn8 hm hm8 (hT.keep (Nat.le_refl _) hb) (hL.keep (Nat.le_refl _) hb)
  have hv9 : isWk (min n 9) (min m 9) T L = isWk n m T L := isWk_cut n m T L
  rw [hv] at hv9
  have HHo := Lib.hid (fun a1 c1 a2 c2 W' (h1 : Ints W' a1 (min n 9) T) (h2 : Ints W' a2 (min m 9) L) => fSteps_arg a1 (min n 9) c1 a2 (min m 9) c2 T L (st (l.take 50)) W' (by omega) (by omega) hv9 h1 h2)
  have HTx := Lib.hid (fun W' => text_any l W' hl)
  generalize min n 9 = n9 at *
  generalize min m 9 = m9 at *
  generalize st (l.take 50) = S5 at *
  generalize st l = S at *
  clear hn hm hT hL hv hv9 hl
  have HI0 := Lib.hid (RInv.start aN n cN aM m cM W)
  obtain ⟨q0, q1⟩ := HI0.out.cells
  go_enter Try.func4, Try.ntmps4
  go_wp2_with fail
  refine (HOf.out _ HI0.out.bel).mono ?_
  rintro e w1 ⟨a1, c1, a2, c2, rfl, k1, k2, hb⟩
  have H1 := Lib.hid (HHo.out a1 c1 a2 c2 _ k1 k2)
  have HI1 := Lib.hid (HI0.out.keep hb)
  clear hb q0 q1 k1 k2
  obtain ⟨q0, q1⟩ := HI1.out.cells
  go_wp2_with fail
  refine (HTx.out _).mono ?_
  rintro e wq ⟨rfl, rfl⟩
  go_wp2_with fail
  refine (H1.out).mono ?_
  rintro e w2 ⟨rfl, hb⟩
  have HI2 := Lib.hid (HI1.out.keep hb)
  clear hb q0 q1
  obtain ⟨q0, q1⟩ := HI2.out.cells
  go_wp2_with fail
  refine (awake_any _).mono ?_
  rintro e w3 ⟨rfl, hb⟩
  have HI3 := Lib.hid (HI2.out.keep hb)
  clear hb q0 q1
  obtain ⟨q0, q1⟩ := HI3.out.cells
  go_wp2
  go_ret
  exact ⟨rfl, HI3.out.bel⟩

set_option maxHeartbeats 4000000 in
set_option maxRecDepth 100000 in
theorem bound_form (W : World) (aN : Option Addr) (n cN : Nat) (aM : Option Addr) (cM : Nat) (T L : Nat → Int) (hn : n ≤ cN) (hm : n ≤ cM) (hT : Ints W aN n T) (hL : Ints W aM n L) (l : List UInt8) (hl : l.length ≤ 9223372036854775807)
    (hv : isWk n n T L = true) (hB : ¬ isFx l) :
    Calls Try.prog 4 #[wkV aN n cN aM n cM, .string (st l)] W fun e W' => SomeB true W e W' := by
  have h6 := (isWk_iff.1 hv).2.1
  have HOf : Hid (∀ W', Below W.heap.size W W' → Calls Try.prog 11 #[wkV aN n cN aM n cM] W' fun e w' => ∃ a1 c1 a2 c2, e = .returned (wkV a1 n c1 a2 n c2) ∧ Ints w' a1 n T ∧ Ints w' a2 n L ∧ Below W'.heap.size W' w') := by
    intro W' hb
    have := of_any aN n cN aM n cM T L W' hn (by omega) hm (by omega) (hT.keep (Nat.le_refl _) hb) (hL.keep (Nat.le_refl _) hb)
    unfold OfOut at this
    rw [show min n 9 = n by omega] at this
    exact this
  have HTx := Lib.hid (fun W' => text_any l W' hl)
  have HHo := Lib.hid (fun a1 c1 a2 c2 W' (h1 : Ints W' a1 n T) (h2 : Ints W' a2 n L) => fSteps_form a1 n c1 a2 n c2 T L (l.take 50) W' (by rw [List.length_take]; omega) hv (fun h => hB ((isFx_cut l).1 h)) h1 h2)
  generalize st (l.take 50) = S5 at *
  generalize st l = S at *
  clear hn hm hT hL hv hB hl
  have HI0 := Lib.hid (RInv.start aN n cN aM n cM W)
  obtain ⟨q0, q1⟩ := HI0.out.cells
  go_enter Try.func4, Try.ntmps4
  go_wp2_with fail
  refine (HOf.out _ HI0.out.bel).mono ?_
  rintro e w1 ⟨a1, c1, a2, c2, rfl, k1, k2, hb⟩
  have H1 := Lib.hid (HHo.out a1 c1 a2 c2 _ k1 k2)
  have HI1 := Lib.hid (HI0.out.keep hb)
  clear hb q0 q1 k1 k2
  obtain ⟨q0, q1⟩ := HI1.out.cells
  go_wp2_with fail
  refine (HTx.out _).mono ?_
  rintro e wq ⟨rfl, rfl⟩
  go_wp2_with fail
  refine (H1.out).mono ?_
  rintro e w2 ⟨rfl, hb⟩
  have HI2 := Lib.hid (HI1.out.keep hb)
  clear hb q0 q1
  obtain ⟨q0, q1⟩ := HI2.out.cells
  go_wp2_with fail
  refine (awake_any _).mono ?_
  rintro e w3 ⟨rfl, hb⟩
  have HI3 := Lib.hid (HI2.out.keep hb)
  clear hb q0 q1
  obtain ⟨q0, q1⟩ := HI3.out.cells
  go_wp2
  go_ret
  exact ⟨rfl, HI3.out.bel⟩

set_option maxHeartbeats 4000000 in
set_option maxRecDepth 100000 in
theorem bound_good (W : World) (aN : Option Addr) (n cN : Nat) (aM : Option Addr) (cM : Nat) (T L : Nat → Int) (hn : n ≤ cN) (hm : n ≤ cM) (hT : Ints W aN n T) (hL : Ints W aM n L) (l : List UInt8) (hl : l.length ≤ 9223372036854775807)
    (hv : isWk n n T L = true) (h40 : l.length ≤ 40) (g : Bool) (c : Nat) (F : Fm) (hF : isF (fun _ => false) l (.fix g c F)) :
    Calls Try.prog 4 #[wkV aN n cN aM n cM, .string (st l)] W fun e W' => SomeB true W e W' := by
  have h6 := (isWk_iff.1 hv).2.1
  have HOf : Hid (∀ W', Below W.heap.size W W' → Calls Try.prog 11 #[wkV aN n cN aM n cM] W' fun e w' => ∃ a1 c1 a2 c2, e = .returned (wkV a1 n c1 a2 n c2) ∧ Ints w' a1 n T ∧ Ints w' a2 n L ∧ Below W'.heap.size W' w') := by
    intro W' hb
    have := of_any aN n cN aM n cM T L W' hn (by omega) hm (by omega) (hT.keep (Nat.le_refl _) hb) (hL.keep (Nat.le_refl _) hb)
    unfold OfOut at this
    rw [show min n 9 = n by omega] at this
    exact this
  have HTx := Lib.hid (fun W' => text_any l W' hl)
  have HV := Lib.hid (fun W' (hb : Below W.heap.size W W') => rvalid_r true aN n cN aM n cM T L W' hv (by omega) (by omega) (hT.keep (Nat.le_refl _) hb) (hL.keep (Nat.le_refl _) hb))
  have h50 : l.take 50 = l := List.take_of_length_le (by omega)
  obtain ⟨k, hkn, hFk⟩ := (den_step (nx := nat T) (mk := nat L) F c (EnvOk.zero n)).first g
  have hlF := hF.1
  have h40' : (str (.fix g c F)).length ≤ 40 := by rw [← hlF]; exact h40
  have HHo := Lib.hid (fun a1 c1 a2 c2 W' (h1 : Ints W' a1 n T) (h2 : Ints W' a2 n L) => fSteps_good g c F a1 n c1 a2 n c2 T L k W' hv h40' hF.2 h1 h2 hkn hFk)
  have hw1 : wf (fun _ => false) (.fix false c F) := hF.2
  have hw2 : wf (fun _ => false) (.fix true c F) := hF.2
  have HH1 := Lib.hid (fun a1 c1 a2 c2 W' (h1 : Ints W' a1 n T) (h2 : Ints W' a2 n L) => fHolds_good a1 n c1 a2 n c2 T L (str (.fix false c F)) (.fix false c F) W' hv (by simpa [str] using h40') ⟨rfl, hw1⟩ h1 h2)
  have HH2 := Lib.hid (fun a1 c1 a2 c2 W' (h1 : Ints W' a1 n T) (h2 : Ints W' a2 n L) => fHolds_good a1 n c1 a2 n c2 T L (str (.fix true c F)) (.fix true c F) W' hv (by simpa [str] using h40') ⟨rfl, hw2⟩ h1 h2)
  have hmono := den_step (nx := nat T) (mk := nat L) F c (EnvOk.zero n)
  have hA := sdf_zero (least_most hmono)
  have hAN := andNot_nat (lt64 (hmono.fix_lt false) h6) (lt64 (hmono.fix_lt true) h6)
  rw [hA] at hAN
  have HAN : Hid (bits .andNot .i64 (holds n (nat T) (nat L) (.fix false c F) : Nat) (holds n (nat T) (nat L) (.fix true c F) : Nat) = 0) := hAN
  generalize holds n (nat T) (nat L) (.fix false c F) = X at *
  generalize holds n (nat T) (nat L) (.fix true c F) = Y at *
  rw [← hlF] at HHo
  have HRIs := Lib.hid (fun W' => ris_any true l W' (by omega) ⟨fun _ => rfl, fun _ => ⟨h40, _, hF⟩⟩)
  rw [h50] at HTx
  have hsz : 1 ≤ (st l).size := by rw [st_size, hlF]; simp [str]
  have hsz2 : (st l).size ≤ 40 := by rw [st_size]; exact h40
  have hex : (st l).extract 1 (st l).size = st (lett c :: str F) := by rw [hlF]; exact st_tl _ _
  have hEs : (st (lett c :: str F)).size ≤ 40 := by rw [st_size]; rw [hlF] at h40; simp only [str, List.length_cons] at h40 ⊢; omega
  have hS1 : (⟨#[109]⟩ : ByteArray) ++ st (lett c :: str F) = st (str (.fix false c F)) := st_append [109] (lett c :: str F)
  have hS2 : (⟨#[103]⟩ : ByteArray) ++ st (lett c :: str F) = st (str (.fix true c F)) := st_append [103] (lett c :: str F)
  generalize st (lett c :: str F) = E at *
  have hcat1 : ∀ W : World, (Op.stringOp .add (⟨#[109]⟩ : ByteArray) E).run Try.prog W = .ok (.string (st (str (.fix false c F)))) W := fun W => by
    rw [run_string_add_sum W _ E (by show 1 + E.size ≤ _; omega), hS1]
  have hcat2 : ∀ W : World, (Op.stringOp .add (⟨#[103]⟩ : ByteArray) E).run Try.prog W = .ok (.string (st (str (.fix true c F)))) W := fun W => by
    rw [run_string_add_sum W _ E (by show 1 + E.size ≤ _; omega), hS2]
  have hk6 : k ≤ 6 := by omega
  generalize st l = S at *
  clear hn hm hT hL hv hF hl h50 h40 h40' hFk hlF hw1 hw2 hmono hA hAN hS1 hS2
  have HI0 := Lib.hid (RInv.start aN n cN aM n cM W)
  obtain ⟨q0, q1⟩ := HI0.out.cells
  go_enter Try.func4, Try.ntmps4
  go_wp2_with fail
  refine (HOf.out _ HI0.out.bel).mono ?_
  rintro e w1 ⟨a1, c1, b1, d1, rfl, k1, k2, hb⟩
  have H1 := Lib.hid (HHo.out a1 c1 b1 d1 _ k1 k2)
  have HI1 := Lib.hid (HI0.out.keep hb)
  clear hb q0 q1 k1 k2
  obtain ⟨q0, q1⟩ := HI1.out.cells
  go_wp2_with fail
  refine (HTx.out _).mono ?_
  rintro e wq ⟨rfl, rfl⟩
  go_wp2_with fail
  refine (H1.out).mono ?_
  rintro e w2 ⟨rfl, hb⟩
  have HI2 := Lib.hid (HI1.out.keep hb)
  clear hb q0 q1
  obtain ⟨q0, q1⟩ := HI2.out.cells
  go_wp2_with fail
  refine (HV.out _ HI2.out.bel).mono ?_
  rintro e w3 ⟨rfl, hb⟩
  have HI3 := Lib.hid (HI2.out.keep hb)
  clear hb q0 q1
  obtain ⟨q0, q1⟩ := HI3.out.cells
  go_wp2_with fail
  refine (HRIs.out _).mono ?_
  rintro e w4 ⟨rfl, hb⟩
  have HI4 := Lib.hid (HI3.out.keep hb)
  clear hb q0 q1
  have hszI : (1 : Int) ≤ (S.size : Int) := by omega
  obtain ⟨q0, q1⟩ := HI4.out.cells
  go_wp2
  go_region_held3 (fun w' => w'.cell? ⟨W.heap.size, 0, none⟩ = some (.slice aN n cN) ∧ w'.cell? ⟨W.heap.size, 1, none⟩ = some (.slice aM n cM))
    (first
      | (go_split_ands; exact HI6.out.cells)
      | (go_split_ands; exact HI5.out.cells)
      | go_keep)
    ((first
      | ((with_reducible refine (HOf.out _ HI4.out.bel.drew).mono ?_); rintro e w5 ⟨a2, c2, b2, d2, rfl, k1, k2, hb⟩; have H2 := Lib.hid (HH1.out a2 c2 b2 d2 _ k1 k2); have HI5 := Lib.hid (HI4.out.keep (below_drew1 hb)); clear hb k1 k2)
      | ((with_reducible refine (H2.out).mono ?_); rintro e w6 ⟨rfl, hb⟩; have HI6 := Lib.hid (HI5.out.keep hb); clear hb H2)))
  clear q0 q1
  obtain ⟨q0, q1⟩ := HI6.out.cells
  go_wp2
  go_region_held3 (fun w' => w'.cell? ⟨W.heap.size, 0, none⟩ = some (.slice aN n cN) ∧ w'.cell? ⟨W.heap.size, 1, none⟩ = some (.slice aM n cM))
    (first
      | (go_split_ands; exact HI8.out.cells)
      | (go_split_ands; exact HI7.out.cells)
      | go_keep)
    ((first
      | ((with_reducible refine (HOf.out _ HI6.out.bel.drew).mono ?_); rintro e w7 ⟨a2, c2, b2, d2, rfl, k1, k2, hb⟩; have H2 := Lib.hid (HH2.out a2 c2 b2 d2 _ k1 k2); have HI7 := Lib.hid (HI6.out.keep (below_drew1 hb)); clear hb k1 k2)
      | ((with_reducible refine (H2.out).mono ?_); rintro e w8 ⟨rfl, hb⟩; have HI8 := Lib.hid (HI7.out.keep hb); clear hb H2)))
  clear q0 q1
  obtain ⟨q0, q1⟩ := HI8.out.cells
  have hAN := HAN.out
  go_wp2_with fail
  refine (awake_any _).mono ?_
  rintro e w9 ⟨rfl, hb⟩
  have HI9 := Lib.hid (HI8.out.keep hb)
  clear hb q0 q1
  obtain ⟨q0, q1⟩ := HI9.out.cells
  go_wp2
  go_ret
  exact ⟨rfl, HI9.out.bel⟩

theorem bound_core (W : World) (aN : Option Addr) (n cN : Nat) (aM : Option Addr) (m cM : Nat) (T L : Nat → Int) (hn : n ≤ cN) (hn8 : n * 8 ≤ 140737488355328) (hm : m ≤ cM) (hm8 : m * 8 ≤ 140737488355328) (hT : Ints W aN n T) (hL : Ints W aM m L) (s : ByteArray) (hs : s.size ≤ 9223372036854775807) :
    Calls Try.prog 4 #[wkV aN n cN aM m cM, .string s] W fun e W' => SomeB true W e W' := by
  have hl : s.data.toList.length ≤ 9223372036854775807 := hs
  rw [st_of s]
  generalize s.data.toList = l at *
  cases hv : isWk n m T L
  · exact bound_arg W aN n cN aM m cM T L hn hn8 hm hm8 hT hL l hl hv
  · obtain rfl := (isWk_iff.1 hv).2.2.1
    by_cases hB : isFx l
    · obtain ⟨h40, g, c, F, hF⟩ := hB
      exact bound_good W aN m cN aM cM T L hn hm hT hL l hl hv h40 g c F hF
    · exact bound_form W aN m cN aM cM T L hn hm hT hL l hl hv hB
end Go.Proofs.Ytkbbijhknbcflab
