import Derived.Test.YtkbbijhknbcflaaL2
import Derived.Test.YtkbbijhknbcflaaH2
/-
  The law FixesSteps.
-/
namespace Go.Proofs.Ytkbbijhknbcflaa
open Go.RowKit Go.Shelf

theorem isFx_cut (l : List UInt8) : isFx (l.take 50) ↔ isFx l := by
  by_cases h : l.length ≤ 50
  · rw [List.take_of_length_le h]
  · constructor
    · intro h2
      have := h2.1
      rw [List.length_take] at this; omega
    · intro h2
      have := h2.1; omega

set_option maxHeartbeats 4000000 in
set_option maxRecDepth 100000 in
theorem rsteps_any (g : Bool) (c : Nat) (F : Fm) (k : Nat) (l : List UInt8) (hF : isF (fun _ => false) l (.fix g c F)) (hl : l.length ≤ 5000) (aN : Option Addr) (n cN : Nat) (aM : Option Addr) (cM : Nat) (nx mk : Nat → Nat) (w : World) (hk : Wk w aN n aM nx mk)
    (hkn : k ≤ n) (hFk : First (fun X => den n nx mk F (upd (fun _ => 0) c X)) (beg g n) k) :
    Calls Try.prog 24 #[wkV aN n cN aM n cM, .string (st l)] w fun e w' => e = .returned (.int .i64 ((k : Int) + 1)) ∧ Below w.heap.size w w' := by
  have hA := isF_iff.1 hF
  have H0 : ∀ w', Below w.heap.size w w' → Calls Try.prog 42 #[wkV aN n cN aM n cM, .string (st l), .int .i64 ((0 : Nat) : Int), S3 fun _ => 0] w' fun r w'' => r = .returned (.tuple #[.int .i64 (iter (fun X => den n nx mk F (upd (fun _ => 0) c X)) (beg g n) k : Nat), .int .i64 (l.length : Nat), .int .i64 ((k : Int) + 1)]) ∧ Below w'.heap.size w' w'' := by
    intro w' hb
    have hk' := hk.keep (Nat.le_refl _) hb
    have ih := hr_all F ⟨_, hF.2.2⟩
    cases g
    · rcases cases3 hF.2.1.1 with rfl | rfl | rfl
      · exact rf_m0 F ih _ l 0 l.length _ aN n cN aM cM nx mk k w' hl hA hk' (EnvOk.zero n) hkn hFk
      · exact rf_m1 F ih _ l 0 l.length _ aN n cN aM cM nx mk k w' hl hA hk' (EnvOk.zero n) hkn hFk
      · exact rf_m2 F ih _ l 0 l.length _ aN n cN aM cM nx mk k w' hl hA hk' (EnvOk.zero n) hkn hFk
    · rcases cases3 hF.2.1.1 with rfl | rfl | rfl
      · exact rf_g0 F ih _ l 0 l.length _ aN n cN aM cM nx mk k w' hl hA hk' (EnvOk.zero n) hkn hFk
      · exact rf_g1 F ih _ l 0 l.length _ aN n cN aM cM nx mk k w' hl hA hk' (EnvOk.zero n) hkn hFk
      · exact rf_g2 F ih _ l 0 l.length _ aN n cN aM cM nx mk k w' hl hA hk' (EnvOk.zero n) hkn hFk
  generalize iter (fun X => den n nx mk F (upd (fun _ => 0) c X)) (beg g n) k = Z at H0
  have H1 : Hid (∀ w', Below w.heap.size w w' → Calls Try.prog 42 #[wkV aN n cN aM n cM, .string (st l), .int .i64 0, .agg #[.int .i64 0, .int .i64 0, .int .i64 0]] w' fun r w'' => r = .returned (.tuple #[.int .i64 (Z : Nat), .int .i64 (l.length : Nat), .int .i64 ((k : Int) + 1)]) ∧ Below w'.heap.size w' w'') := H0
  generalize st l = S at *
  clear hF hA H0 hFk hk hl
  go_enter Try.func24, Try.ntmps24
  go_wp2_with fail
  refine (H1.out _ (below_one _ _)).mono ?_
  rintro r w1 ⟨rfl, hb⟩
  have HB1 := Lib.hid (band (below_one _ _) hb)
  clear hb
  go_wp2
  go_ret
  exact ⟨rfl, HB1.out⟩

set_option maxHeartbeats 4000000 in
set_option maxRecDepth 100000 in
theorem steps_arg (W : World) (aN : Option Addr) (n cN : Nat) (aM : Option Addr) (m cM : Nat) (T L : Nat → Int) (hn : n ≤ cN) (hn8 : n * 8 ≤ 140737488355328) (hm : m ≤ cM) (hm8 : m * 8 ≤ 140737488355328) (hT : Ints W aN n T) (hL : Ints W aM m L) (l : List UInt8) (hl : l.length ≤ 9223372036854775807)
    (hv : isWk n m T L = false) :
    Calls Try.prog 7 #[wkV aN n cN aM m cM, .string (st l)] W fun e W' => SomeB true W e W' := by
  have HOf : Hid (∀ W', Below W.heap.size W W' → Calls Try.prog 9 #[wkV aN n cN aM m cM] W' fun e w' => ∃ a1 c1 a2 c2, e = .returned (wkV a1 (min n 9) c1 a2 (min m 9) c2) ∧ Ints w' a1 (min n 9) T ∧ Ints w' a2 (min m 9) L ∧ Below W'.heap.size W' w') :=
    fun W' hb => of_any aN n cN aM m cM T L W' hn hn8 hm hm8 (hT.keep (Nat.le_refl _) hb) (hL.keep (Nat.le_refl _) hb)
  have hv9 : isWk (min n 9) (min m 9) T L = isWk n m T L := isWk_cut n m T L
  rw [hv] at hv9
  have HHo := Lib.hid (fun a1 c1 a2 c2 W' (h1 : Ints W' a1 (min n 9) T) (h2 : Ints W' a2 (min m 9) L) => fSteps_arg a1 (min n 9) c1 a2 (min m 9) c2 T L (st (l.take 50)) W' (by omega) (by omega) hv9 h1 h2)
  have HTx := Lib.hid (fun W' => text_any l W' hl)
  have HV := Lib.hid (fun W' (hb : Below W.heap.size W W') => rvalid_r false aN n cN aM m cM T L W' hv hn8 hm8 (hT.keep (Nat.le_refl _) hb) (hL.keep (Nat.le_refl _) hb))
  generalize min n 9 = n9 at *
  generalize min m 9 = m9 at *
  generalize st (l.take 50) = S5 at *
  generalize st l = S at *
  clear hn hm hT hL hv hv9 hl
  have HI0 := Lib.hid (RInv.start aN n cN aM m cM W)
  obtain ⟨q0, q1⟩ := HI0.out.cells
  go_enter Try.func7, Try.ntmps7
  go_wp2_with fail
  refine (HOf.out _ HI0.out.bel).mono ?_
  rintro e w1 ⟨a1, c1, a2, c2, rfl, k1, k2, hb⟩
  have H1 := Lib.hid (HHo.out a1 c1 a2 c2 _ k1 k2)
  have HI1 := Lib.hid (HI0.out.keep hb)
  clear hb q0 q1 k1 k2
  obtain ⟨q0, q1⟩ := HI1.out.cells
  go_wp2_with fail
  refine (HTx.out _).mono ?_
  rintro e wq ⟨rfl, rfl⟩
  go_wp2_with fail
  refine (H1.out).mono ?_
  rintro e w2 ⟨rfl, hb⟩
  have HI2 := Lib.hid (HI1.out.keep hb)
  clear hb q0 q1
  obtain ⟨q0, q1⟩ := HI2.out.cells
  go_wp2_with fail
  refine (HV.out _ HI2.out.bel).mono ?_
  rintro e w3 ⟨rfl, hb⟩
  have HI3 := Lib.hid (HI2.out.keep hb)
  clear hb q0 q1
  obtain ⟨q0, q1⟩ := HI3.out.cells
  go_wp2_with fail
  refine (awake_any _).mono ?_
  rintro e w4 ⟨rfl, hb⟩
  have HI4 := Lib.hid (HI3.out.keep hb)
  clear hb q0 q1
  obtain ⟨q0, q1⟩ := HI4.out.cells
  go_wp2
  go_ret
  exact ⟨rfl, HI4.out.bel⟩

set_option maxHeartbeats 4000000 in
set_option maxRecDepth 100000 in
theorem steps_form (W : World) (aN : Option Addr) (n cN : Nat) (aM : Option Addr) (cM : Nat) (T L : Nat → Int) (hn : n ≤ cN) (hm : n ≤ cM) (hT : Ints W aN n T) (hL : Ints W aM n L) (l : List UInt8) (hl : l.length ≤ 9223372036854775807)
    (hv : isWk n n T L = true) (hB : ¬ isFx l) :
    Calls Try.prog 7 #[wkV aN n cN aM n cM, .string (st l)] W fun e W' => SomeB true W e W' := by
  have h6 := (isWk_iff.1 hv).2.1
  have HOf : Hid (∀ W', Below W.heap.size W W' → Calls Try.prog 9 #[wkV aN n cN aM n cM] W' fun e w' => ∃ a1 c1 a2 c2, e = .returned (wkV a1 n c1 a2 n c2) ∧ Ints w' a1 n T ∧ Ints w' a2 n L ∧ Below W'.heap.size W' w') := by
    intro W' hb
    have := of_any aN n cN aM n cM T L W' hn (by omega) hm (by omega) (hT.keep (Nat.le_refl _) hb) (hL.keep (Nat.le_refl _) hb)
    unfold OfOut at this
    rw [show min n 9 = n by omega] at this
    exact this
  have HTx := Lib.hid (fun W' => text_any l W' hl)
  have HV := Lib.hid (fun W' (hb : Below W.heap.size W W') => rvalid_r true aN n cN aM n cM T L W' hv (by omega) (by omega) (hT.keep (Nat.le_refl _) hb) (hL.keep (Nat.le_refl _) hb))
  have HHo := Lib.hid (fun a1 c1 a2 c2 W' (h1 : Ints W' a1 n T) (h2 : Ints W' a2 n L) => fSteps_form a1 n c1 a2 n c2 T L (l.take 50) W' (by rw [List.length_take]; omega) hv (fun h => hB ((isFx_cut l).1 h)) h1 h2)
  generalize st (l.take 50) = S5 at *
  by_cases hb : isB l
  · have HRIs := Lib.hid (fun W' => ris_any true l W' (by omega) ⟨fun _ => rfl, fun _ => hb⟩)
    obtain ⟨h40, F, hF⟩ := hb
    obtain ⟨x, t, e, hx1, hx2⟩ := isFx_head hF (by rintro ⟨g, c, G, rfl⟩; exact hB ⟨h40, g, c, G, hF⟩)
    subst e
    have hsz : 0 < (st (x :: t)).size := by rw [st_size]; simp
    have hsz2 : (st (x :: t)).size ≤ 40 := by rw [st_size]; exact h40
    have hg : ∀ h : 0 < (st (x :: t)).size, ((st (x :: t))[0].toNat : Int) = (x.toNat : Int) := fun _ => rfl
    have g1 : ((x.toNat : Int) == 109) = false := by rw [beq_eq_false_iff_ne]; intro e; exact hx1 (UInt8.toNat_inj.1 (by have e2 : (109 : UInt8).toNat = 109 := rfl; omega))
    have g2 : ((x.toNat : Int) == 103) = false := by rw [beq_eq_false_iff_ne]; intro e; exact hx2 (UInt8.toNat_inj.1 (by have e2 : (103 : UInt8).toNat = 103 := rfl; omega))
    have g3 : ((x.toNat : Int) != 109) = true := by simp only [bne, g1]; rfl
    have g4 : ((x.toNat : Int) != 103) = true := by simp only [bne, g2]; rfl
    generalize st (x :: t) = S at *
    have hg' := hg hsz
    generalize (x.toNat : Int) = Y at *
    clear hn hm hT hL hv hB hl hF h40 hx1 hx2 g1 g2
    have HI0 := Lib.hid (RInv.start aN n cN aM n cM W)
    obtain ⟨q0, q1⟩ := HI0.out.cells
    go_enter Try.func7, Try.ntmps7
    go_wp2_with fail
    refine (HOf.out _ HI0.out.bel).mono ?_
    rintro e w1 ⟨a1, c1, a2, c2, rfl, k1, k2, hb⟩
    have H1 := Lib.hid (HHo.out a1 c1 a2 c2 _ k1 k2)
    have HI1 := Lib.hid (HI0.out.keep hb)
    clear hb q0 q1 k1 k2
    obtain ⟨q0, q1⟩ := HI1.out.cells
    go_wp2_with fail
    refine (HTx.out _).mono ?_
    rintro e wq ⟨rfl, rfl⟩
    go_wp2_with fail
    refine (H1.out).mono ?_
    rintro e w2 ⟨rfl, hb⟩
    have HI2 := Lib.hid (HI1.out.keep hb)
    clear hb q0 q1
    obtain ⟨q0, q1⟩ := HI2.out.cells
    go_wp2_with fail
    refine (HV.out _ HI2.out.bel).mono ?_
    rintro e w3 ⟨rfl, hb⟩
    have HI3 := Lib.hid (HI2.out.keep hb)
    clear hb q0 q1
    obtain ⟨q0, q1⟩ := HI3.out.cells
    go_wp2_with fail
    refine (HRIs.out _).mono ?_
    rintro e w4 ⟨rfl, hb⟩
    have HI4 := Lib.hid (HI3.out.keep hb)
    clear hb q0 q1
    obtain ⟨q0, q1⟩ := HI4.out.cells
    go_wp2_with fail
    refine (awake_any _).mono ?_
    rintro e w5 ⟨rfl, hb⟩
    have HI5 := Lib.hid (HI4.out.keep hb)
    clear hb q0 q1
    obtain ⟨q0, q1⟩ := HI5.out.cells
    go_wp2
    go_ret
    exact ⟨rfl, HI5.out.bel⟩
  · have HRIs := Lib.hid (fun W' => ris_any false l W' (by omega) (by simp [hb]))
    generalize st l = S at *
    clear hn hm hT hL hv hB hl hb
    have HI0 := Lib.hid (RInv.start aN n cN aM n cM W)
    obtain ⟨q0, q1⟩ := HI0.out.cells
    go_enter Try.func7, Try.ntmps7
    go_wp2_with fail
    refine (HOf.out _ HI0.out.bel).mono ?_
    rintro e w1 ⟨a1, c1, a2, c2, rfl, k1, k2, hb⟩
    have H1 := Lib.hid (HHo.out a1 c1 a2 c2 _ k1 k2)
    have HI1 := Lib.hid (HI0.out.keep hb)
    clear hb q0 q1 k1 k2
    obtain ⟨q0, q1⟩ := HI1.out.cells
    go_wp2_with fail
    refine (HTx.out _).mono ?_
    rintro e wq ⟨rfl, rfl⟩
    go_wp2_with fail
    refine (H1.out).mono ?_
    rintro e w2 ⟨rfl, hb⟩
    have HI2 := Lib.hid (HI1.out.keep hb)
    clear hb q0 q1
    obtain ⟨q0, q1⟩ := HI2.out.cells
    go_wp2_with fail
    refine (HV.out _ HI2.out.bel).mono ?_
    rintro e w3 ⟨rfl, hb⟩
    have HI3 := Lib.hid (HI2.out.keep hb)
    clear hb q0 q1
    obtain ⟨q0, q1⟩ := HI3.out.cells
    go_wp2_with fail
    refine (HRIs.out _).mono ?_
    rintro e w4 ⟨rfl, hb⟩
    have HI4 := Lib.hid (HI3.out.keep hb)
    clear hb q0 q1
    obtain ⟨q0, q1⟩ := HI4.out.cells
    go_wp2_with fail
    refine (awake_any _).mono ?_
    rintro e w5 ⟨rfl, hb⟩
    have HI5 := Lib.hid (HI4.out.keep hb)
    clear hb q0 q1
    obtain ⟨q0, q1⟩ := HI5.out.cells
    go_wp2
    go_ret
    exact ⟨rfl, HI5.out.bel⟩

set_option maxHeartbeats 4000000 in
set_option maxRecDepth 100000 in
theorem steps_good (W : World) (aN : Option Addr) (n cN : Nat) (aM : Option Addr) (cM : Nat) (T L : Nat → Int) (hn : n ≤ cN) (hm : n ≤ cM) (hT : Ints W aN n T) (hL : Ints W aM n L) (l : List UInt8) (hl : l.length ≤ 9223372036854775807)
    (hv : isWk n n T L = true) (h40 : l.length ≤ 40) (g : Bool) (c : Nat) (F : Fm) (hF : isF (fun _ => false) l (.fix g c F)) :
    Calls Try.prog 7 #[wkV aN n cN aM n cM, .string (st l)] W fun e W' => SomeB true W e W' := by
  have h6 := (isWk_iff.1 hv).2.1
  have HOf : Hid (∀ W', Below W.heap.size W W' → Calls Try.prog 9 #[wkV aN n cN aM n cM] W' fun e w' => ∃ a1 c1 a2 c2, e = .returned (wkV a1 n c1 a2 n c2) ∧ Ints w' a1 n T ∧ Ints w' a2 n L ∧ Below W'.heap.size W' w') := by
    intro W' hb
    have := of_any aN n cN aM n cM T L W' hn (by omega) hm (by omega) (hT.keep (Nat.le_refl _) hb) (hL.keep (Nat.le_refl _) hb)
    unfold OfOut at this
    rw [show min n 9 = n by omega] at this
    exact this
  have HTx := Lib.hid (fun W' => text_any l W' hl)
  have HV := Lib.hid (fun W' (hb : Below W.heap.size W W') => rvalid_r true aN n cN aM n cM T L W' hv (by omega) (by omega) (hT.keep (Nat.le_refl _) hb) (hL.keep (Nat.le_refl _) hb))
  have h50 : l.take 50 = l := List.take_of_length_le (by omega)
  obtain ⟨k, hkn, hFk⟩ := (den_step (nx := nat T) (mk := nat L) F c (EnvOk.zero n)).first g
  have hlF := hF.1
  have HHo := Lib.hid (fun a1 c1 a2 c2 W' (h1 : Ints W' a1 n T) (h2 : Ints W' a2 n L) => fSteps_good g c F a1 n c1 a2 n c2 T L k W' hv (by rw [← hlF]; exact h40) hF.2 h1 h2 hkn hFk)
  rw [← hlF] at HHo
  have HRIs := Lib.hid (fun W' => ris_any true l W' (by omega) ⟨fun _ => rfl, fun _ => ⟨h40, _, hF⟩⟩)
  have HRS := Lib.hid (fun W' (hb : Below W.heap.size W W') => rsteps_any g c F k l hF (by omega) aN n cN aM cM (nat T) (nat L) W' ((wk_of hv hT hL).keep (Nat.le_refl _) hb) hkn hFk)
  rw [h50] at HTx
  have hsz : 0 < (st l).size := by rw [st_size, hlF]; simp [str]
  have hsz2 : (st l).size ≤ 40 := by rw [st_size]; exact h40
  have hg : ∀ h : 0 < (st l).size, ((st l)[0].toNat : Int) = if g then 103 else 109 := by
    rw [hlF]; intro h; cases g <;> rfl
  generalize st l = S at *
  have hg' := hg hsz
  clear hn hm hT hL hv hF hl h50 h40 hFk hlF
  cases g
  all_goals
    simp only [Bool.false_eq_true, if_false, if_true] at hg'
    clear hg
    have HI0 := Lib.hid (RInv.start aN n cN aM n cM W)
    obtain ⟨q0, q1⟩ := HI0.out.cells
    go_enter Try.func7, Try.ntmps7
    go_wp2_with fail
    refine (HOf.out _ HI0.out.bel).mono ?_
    rintro e w1 ⟨a1, c1, a2, c2, rfl, k1, k2, hb⟩
    have H1 := Lib.hid (HHo.out a1 c1 a2 c2 _ k1 k2)
    have HI1 := Lib.hid (HI0.out.keep hb)
    clear hb q0 q1 k1 k2
    obtain ⟨q0, q1⟩ := HI1.out.cells
    go_wp2_with fail
    refine (HTx.out _).mono ?_
    rintro e wq ⟨rfl, rfl⟩
    go_wp2_with fail
    refine (H1.out).mono ?_
    rintro e w2 ⟨rfl, hb⟩
    have HI2 := Lib.hid (HI1.out.keep hb)
    clear hb q0 q1
    obtain ⟨q0, q1⟩ := HI2.out.cells
    go_wp2_with fail
    refine (HV.out _ HI2.out.bel).mono ?_
    rintro e w3 ⟨rfl, hb⟩
    have HI3 := Lib.hid (HI2.out.keep hb)
    clear hb q0 q1
    obtain ⟨q0, q1⟩ := HI3.out.cells
    go_wp2_with fail
    refine (HRIs.out _).mono ?_
    rintro e w4 ⟨rfl, hb⟩
    have HI4 := Lib.hid (HI3.out.keep hb)
    clear hb q0 q1
    obtain ⟨q0, q1⟩ := HI4.out.cells
    go_wp2_with fail
    refine (HRS.out _ HI4.out.bel).mono ?_
    rintro e w5 ⟨rfl, hb⟩
    have HI5 := Lib.hid (HI4.out.keep hb)
    clear hb q0 q1
    obtain ⟨q0, q1⟩ := HI5.out.cells
    go_wp2_with fail
    refine (awake_any _).mono ?_
    rintro e w6 ⟨rfl, hb⟩
    have HI6 := Lib.hid (HI5.out.keep hb)
    clear hb q0 q1
    obtain ⟨q0, q1⟩ := HI6.out.cells
    go_wp2
    go_ret
    exact ⟨rfl, HI6.out.bel⟩

theorem steps_core (W : World) (aN : Option Addr) (n cN : Nat) (aM : Option Addr) (m cM : Nat) (T L : Nat → Int) (hn : n ≤ cN) (hn8 : n * 8 ≤ 140737488355328) (hm : m ≤ cM) (hm8 : m * 8 ≤ 140737488355328) (hT : Ints W aN n T) (hL : Ints W aM m L) (s : ByteArray) (hs : s.size ≤ 9223372036854775807) :
    Calls Try.prog 7 #[wkV aN n cN aM m cM, .string s] W fun e W' => SomeB true W e W' := by
  have hl : s.data.toList.length ≤ 9223372036854775807 := hs
  rw [st_of s]
  generalize s.data.toList = l at *
  cases hv : isWk n m T L
  · exact steps_arg W aN n cN aM m cM T L hn hn8 hm hm8 hT hL l hl hv
  · obtain rfl := (isWk_iff.1 hv).2.2.1
    by_cases hB : isFx l
    · obtain ⟨h40, g, c, F, hF⟩ := hB
      exact steps_good W aN m cN aM cM T L hn hm hT hL l hl hv h40 g c F hF
    · exact steps_form W aN m cN aM cM T L hn hm hT hL l hl hv hB
end Go.Proofs.Ytkbbijhknbcflaa
