import Derived.Test.YtiegingpmcloeaaE1
namespace Go.Proofs.Ytiegingpmcloeaa
open Go.RowKit

set_option maxHeartbeats 8000000 in
set_option maxRecDepth 100000 in
theorem ends_law (W : World) (a : Option Addr) (n cap : Nat) (N : Nat → QN) (hn8 : n ≤ 140737488351232) (hM : Ords W a n (fun k => (N k).z)) (x y : Nat) (i j : Int) (hN : okN n N) (hx : x ≤ 100) (hy : y ≤ 100) (ci cj ce nK nE : Int) (ok : Bool)
    (hF : FindC N ⟨0, x, y⟩ (dn N ⟨0, x, y⟩ 200 + 1) ci cj ce) (hk : (endsK N ⟨0, x, y⟩ : Int) = nK) (he : endsE N ⟨0, x, y⟩ = nE) (hok : ckB N ⟨0, x, y⟩ (dn N ⟨0, x, y⟩ 1000 + 1) i j = ok) :
    Calls Try.prog 4 #[.slice a n cap, .agg #[.int .i64 x, .int .i64 y], .agg #[.int .i64 i, .int .i64 j]] W fun e W' => SomeB true W e W' := by
  have H1 : Hid (∀ l w, Inv W l w → Calls Try.prog 11 #[.slice a n cap] w fun e w' => (∃ a' cap', e = .returned (.slice a' n cap') ∧ Ords w' a' n (fun k => (N k).z)) ∧ Inv W l w') := by
    intro l w hI
    have h := i_of (cap := cap) hn8 hM w hI
    rwa [Nat.min_eq_left (by have := hN.few; omega)] at h
  have H2 : Hid (∀ l w a' cap', Ords w a' (n) (fun k => (N k).z) → Inv W l w → Calls Try.prog 16 #[.slice a' (n) cap', .agg #[.int .i64 x, .int .i64 y]] w fun r w' => r = .returned (.tuple #[.int .i64 nK, .int .i64 nE]) ∧ Inv W l w') := by
    intro l w a' cap' hO hI
    have h := i_ends (cap := cap') hN x y hx hy w hO hI
    rwa [hk, he] at h
  have H6 : Hid (∀ l w a' cap', Ords w a' (n) (fun k => (N k).z) → Inv W l w → Calls Try.prog 17 #[.slice a' (n) cap', .agg #[.int .i64 x, .int .i64 y]] w fun r w' => r = .returned (.tuple #[.agg #[.int .i64 ci, .int .i64 cj], .int .i64 ce]) ∧ Inv W l w') := fun l w a' cap' hO hI => i_circle hN x y hx hy _ _ _ hF w hO hI
  have H7 : Hid (∀ l w a' cap', Ords w a' (n) (fun k => (N k).z) → Inv W l w → Calls Try.prog 18 #[.slice a' (n) cap', .agg #[.int .i64 x, .int .i64 y], .agg #[.int .i64 i, .int .i64 j]] w fun r w' => r = .returned (.tuple #[.bool ok, .int .i64 0]) ∧ Inv W l w') := fun l w a' cap' hO hI => i_check hN x y hx hy i j ok hok w hO hI
  have H8 : Hid (∀ l w, Inv W l w → Calls Try.prog 19 #[.slice a n cap, .agg #[.int .i64 x, .int .i64 y]] w fun r w' => r = .returned (.tuple #[.int .i64 nK, .int .i64 nE]) ∧ Inv W l w') := by
    intro l w hI
    have h := i_rends (cap := cap) hN x y hx hy w hM hI
    rwa [hk, he] at h
  have H9 : Hid (∀ l w, Inv W l w → Calls Try.prog 20 #[.slice a n cap, .agg #[.int .i64 x, .int .i64 y]] w fun r w' => r = .returned (.tuple #[.agg #[.int .i64 ci, .int .i64 cj], .int .i64 ce]) ∧ Inv W l w') := fun l w hI => i_rcircle hN x y hx hy _ _ _ hF w hM hI
  have H10 : Hid (∀ l w, Inv W l w → Calls Try.prog 21 #[.slice a n cap, .agg #[.int .i64 x, .int .i64 y], .agg #[.int .i64 i, .int .i64 j]] w fun r w' => r = .returned (.bool ok) ∧ Inv W l w') := fun l w hI => i_rcheck hN x y hx hy i j ok hok w hM hI
  have H3 : Hid (∀ l w, Inv W l w → Calls Try.prog 12 #[.slice a n cap] w fun e w' => e = .returned (.bool true) ∧ Inv W l w') := fun l w hI => i_machine hn8 hM true (okN_isM hN) w hI
  have H4 : Hid (∀ l w, Inv W l w → Calls Try.prog 13 #[.agg #[.int .i64 x, .int .i64 y]] w fun e w' => e = .returned (.bool true) ∧ Inv W l w') := fun l w hI => i_jars x y true (by simp [jB]; omega) w hI
  have H5 : Hid (∀ l w, Inv W l w → Calls Try.prog 14 #[] w fun e w' => e = .returned (.bool true) ∧ Inv W l w') := fun l w hI => i_awake w hI
  obtain ⟨W1, hW1⟩ : ∃ W1, W1 = (W.alloc (.cells #[.int .i64 x, .int .i64 y] 23)).alloc (.cells #[.int .i64 i, .int .i64 j] 23) := ⟨_, rfl⟩
  have I0 : Hid (Inv W [(W.heap.size + 1, .int .i64 i, .int .i64 j), (W.heap.size, .int .i64 x, .int .i64 y)] W1) := by rw [hW1]; have h := ((Inv.refl W).new (.int .i64 x) (.int .i64 y) 23).new (.int .i64 i) (.int .i64 j) 23; rw [World.size_alloc] at h; exact h
  have HW1 := Lib.hid hW1
  clear hW1
  have l0 := ((I0.out).at).lt
  obtain ⟨c0_0, c0_1, f0_0, f0_1⟩ := (I0.out).at
  have l1 := (((I0.out).drop).at).lt
  obtain ⟨c1_0, c1_1, f1_0, f1_1⟩ := ((I0.out).drop).at
  clear hM hN hF hk he hok
  go_enter Try.func4, Try.ntmps4
  go_wp2_with fail
  rw [← HW1.out]
  have J0 := Lib.hid (Inv.drew I0.out)
  go_region_held3 (fun w' => w'.cell? ⟨W.heap.size + 1, 0, none⟩ = some (.int .i64 i) ∧ w'.cell? ⟨W.heap.size + 1, 1, none⟩ = some (.int .i64 j) ∧ w'.cell? ⟨W.heap.size, 0, none⟩ = some (.int .i64 x) ∧ w'.cell? ⟨W.heap.size, 1, none⟩ = some (.int .i64 y))
    (first
        | (go_split_ands; exact HC2.out)
        | (go_split_ands; exact HC1.out)
        | go_keep)
    ((first
        | ((with_reducible refine (H1.out _ _ J0.out).mono ?_); rintro r w1 ⟨⟨a5, cap5, rfl, hO⟩, hI⟩; have HO := Lib.hid hO; clear hO; have I1 := Lib.hid hI; have HC1 := Lib.hid (And.intro ((I1.out).at.c0) (And.intro ((I1.out).at.c1) (And.intro (((I1.out).drop).at.c0) (((I1.out).drop).at.c1)))); clear hI)
        | ((with_reducible refine (H2.out _ _ _ _ HO.out I1.out).mono ?_); rintro r w2 ⟨rfl, hI⟩; have I2 := Lib.hid hI; have HC2 := Lib.hid (And.intro ((I2.out).at.c0) (And.intro ((I2.out).at.c1) (And.intro (((I2.out).drop).at.c0) (((I2.out).drop).at.c1)))); clear hI)))
  clear c0_0 c0_1 f0_0 f0_1 l0 c1_0 c1_1 f1_0 f1_1 l1
  have l0 := ((I2.out).at).lt
  obtain ⟨c0_0, c0_1, f0_0, f0_1⟩ := (I2.out).at
  have l1 := (((I2.out).drop).at).lt
  obtain ⟨c1_0, c1_1, f1_0, f1_1⟩ := ((I2.out).drop).at
  try go_wp2_with fail
  have JA2 : Hid (Inv W [(W.heap.size + 1, .int .i64 i, .int .i64 j), (W.heap.size, .int .i64 x, .int .i64 y)] w2.drew) := Inv.drew I2.out
  have JB2 : Hid (Inv W ((w2.heap.size, .int .i64 0, .int .i64 0) :: [(W.heap.size + 1, .int .i64 i, .int .i64 j), (W.heap.size, .int .i64 x, .int .i64 y)]) (w2.drew.alloc (.cells #[.int .i64 0, .int .i64 0] 23))) := (Inv.drew I2.out).new _ _ _
  have JC2 : Hid (Inv W ((w2.heap.size, .int .i64 0, .int .i64 0) :: [(W.heap.size + 1, .int .i64 i, .int .i64 j), (W.heap.size, .int .i64 x, .int .i64 y)]) (w2.alloc (.cells #[.int .i64 0, .int .i64 0] 23)).drew) := Inv.drew (I2.out.new _ _ _)
  have HCB2 := Lib.hid (And.intro ((JB2.out.2 (W.heap.size + 1, .int .i64 i, .int .i64 j) (by simp)).c0) (And.intro ((JB2.out.2 (W.heap.size + 1, .int .i64 i, .int .i64 j) (by simp)).c1) (And.intro ((JB2.out.2 (W.heap.size, .int .i64 x, .int .i64 y) (by simp)).c0) ((JB2.out.2 (W.heap.size, .int .i64 x, .int .i64 y) (by simp)).c1))))
  have HCC2 := Lib.hid (And.intro ((JC2.out.2 (W.heap.size + 1, .int .i64 i, .int .i64 j) (by simp)).c0) (And.intro ((JC2.out.2 (W.heap.size + 1, .int .i64 i, .int .i64 j) (by simp)).c1) (And.intro ((JC2.out.2 (W.heap.size, .int .i64 x, .int .i64 y) (by simp)).c0) ((JC2.out.2 (W.heap.size, .int .i64 x, .int .i64 y) (by simp)).c1))))
  go_cut [9, 10] (fun s9 s10 wc => (∃ b, s9 = .pointer (some ⟨b, 0, none⟩) ∧ NewBox W [(W.heap.size + 1, .int .i64 i, .int .i64 j), (W.heap.size, .int .i64 x, .int .i64 y)] (.int .i64 ci) (.int .i64 cj) wc b) ∧ s10 = .int .i64 ce)
  case first =>
    go_region_held3 (fun w' => w'.cell? ⟨W.heap.size + 1, 0, none⟩ = some (.int .i64 i) ∧ w'.cell? ⟨W.heap.size + 1, 1, none⟩ = some (.int .i64 j) ∧ w'.cell? ⟨W.heap.size, 0, none⟩ = some (.int .i64 x) ∧ w'.cell? ⟨W.heap.size, 1, none⟩ = some (.int .i64 y))
      (first
        | (go_split_ands; exact HCb.out)
        | (go_split_ands; exact HCa.out)
        | (go_split_ands; exact HCB2.out)
        | (go_split_ands; exact HCC2.out)
        | (have q2 := (NewBox.put IB.out I2.out.fresh.1 I2.out.fresh.2 (.int .i64 ci) (.int .i64 cj)).1; go_split_ands; exact And.intro ((q2.2 (W.heap.size + 1, .int .i64 i, .int .i64 j) (by simp)).c0) (And.intro ((q2.2 (W.heap.size + 1, .int .i64 i, .int .i64 j) (by simp)).c1) (And.intro ((q2.2 (W.heap.size, .int .i64 x, .int .i64 y) (by simp)).c0) ((q2.2 (W.heap.size, .int .i64 x, .int .i64 y) (by simp)).c1))))
        | (have q2 := (NewBox.put IB.out IA.out.fresh.1 IA.out.fresh.2 (.int .i64 ci) (.int .i64 cj)).1; go_split_ands; exact And.intro ((q2.2 (W.heap.size + 1, .int .i64 i, .int .i64 j) (by simp)).c0) (And.intro ((q2.2 (W.heap.size + 1, .int .i64 i, .int .i64 j) (by simp)).c1) (And.intro ((q2.2 (W.heap.size, .int .i64 x, .int .i64 y) (by simp)).c0) ((q2.2 (W.heap.size, .int .i64 x, .int .i64 y) (by simp)).c1))))
        | (have q2 := (NewBox.last IB.out (.int .i64 ci) (.int .i64 cj) 23).1; go_split_ands; exact And.intro ((q2.2 (W.heap.size + 1, .int .i64 i, .int .i64 j) (by simp)).c0) (And.intro ((q2.2 (W.heap.size + 1, .int .i64 i, .int .i64 j) (by simp)).c1) (And.intro ((q2.2 (W.heap.size, .int .i64 x, .int .i64 y) (by simp)).c0) ((q2.2 (W.heap.size, .int .i64 x, .int .i64 y) (by simp)).c1))))
        | (have q2 := IB.out.new (.int .i64 0) (.int .i64 0) 23; go_split_ands; exact And.intro ((q2.2 (W.heap.size + 1, .int .i64 i, .int .i64 j) (by simp)).c0) (And.intro ((q2.2 (W.heap.size + 1, .int .i64 i, .int .i64 j) (by simp)).c1) (And.intro ((q2.2 (W.heap.size, .int .i64 x, .int .i64 y) (by simp)).c0) ((q2.2 (W.heap.size, .int .i64 x, .int .i64 y) (by simp)).c1))))
        | (have q2 := IA.out.new (.int .i64 0) (.int .i64 0) 23; go_split_ands; exact And.intro ((q2.2 (W.heap.size + 1, .int .i64 i, .int .i64 j) (by simp)).c0) (And.intro ((q2.2 (W.heap.size + 1, .int .i64 i, .int .i64 j) (by simp)).c1) (And.intro ((q2.2 (W.heap.size, .int .i64 x, .int .i64 y) (by simp)).c0) ((q2.2 (W.heap.size, .int .i64 x, .int .i64 y) (by simp)).c1))))
        | go_keep)
      ((first
        | ((first | with_reducible refine (H1.out _ _ JA2.out).mono ?_ | with_reducible refine (H1.out _ _ JB2.out).mono ?_ | with_reducible refine (H1.out _ _ JC2.out).mono ?_); rintro r vA ⟨⟨a1, cap1, rfl, hO⟩, hI⟩; have HO := Lib.hid hO; have IA := Lib.hid hI; have HCa := Lib.hid (And.intro ((hI.2 (W.heap.size + 1, .int .i64 i, .int .i64 j) (by simp)).c0) (And.intro ((hI.2 (W.heap.size + 1, .int .i64 i, .int .i64 j) (by simp)).c1) (And.intro ((hI.2 (W.heap.size, .int .i64 x, .int .i64 y) (by simp)).c0) ((hI.2 (W.heap.size, .int .i64 x, .int .i64 y) (by simp)).c1)))); clear hO hI)
        | ((first | with_reducible refine (H6.out _ _ _ _ HO.out IA.out).mono ?_ | with_reducible refine (H6.out _ _ _ _ (HO.out.keep (Nat.le_refl _) (one_le _ _)) (IA.out.new (.int .i64 0) (.int .i64 0) 23)).mono ?_); rintro r vB ⟨rfl, hI⟩; have IB := Lib.hid hI; have HCb := Lib.hid (And.intro ((hI.2 (W.heap.size + 1, .int .i64 i, .int .i64 j) (by simp)).c0) (And.intro ((hI.2 (W.heap.size + 1, .int .i64 i, .int .i64 j) (by simp)).c1) (And.intro ((hI.2 (W.heap.size, .int .i64 x, .int .i64 y) (by simp)).c0) ((hI.2 (W.heap.size, .int .i64 x, .int .i64 y) (by simp)).c1)))); obtain ⟨g0, g1, g2, g3⟩ := hI.at; have gl := hI.at.lt; clear hI)))
    all_goals
      go_wp2
      go_meet
    all_goals first
      | exact ⟨⟨_, rfl, NewBox.last IB.out (.int .i64 ci) (.int .i64 cj) 23⟩, rfl⟩
      | exact ⟨⟨_, rfl, NewBox.put IB.out I2.out.fresh.1 I2.out.fresh.2 (.int .i64 ci) (.int .i64 cj)⟩, rfl⟩
      | exact ⟨⟨_, rfl, NewBox.put IB.out IA.out.fresh.1 IA.out.fresh.2 (.int .i64 ci) (.int .i64 cj)⟩, rfl⟩
  case rest =>
    obtain ⟨wc2, rfl⟩ : ∃ v, v = wc := ⟨_, rfl⟩
    obtain ⟨⟨b2, rfl, hNew⟩, rfl⟩ := hcut
    have NB2 := Lib.hid hNew
    have IN2 := Lib.hid hNew.1
    clear hNew
    clear c0_0 c0_1 f0_0 f0_1 l0 c1_0 c1_1 f1_0 f1_1 l1
    have l0 := ((IN2.out).at).lt
    obtain ⟨c0_0, c0_1, f0_0, f0_1⟩ := (IN2.out).at
    have l1 := (((IN2.out).drop).at).lt
    obtain ⟨c1_0, c1_1, f1_0, f1_1⟩ := ((IN2.out).drop).at
    have l2 := ((((IN2.out).drop).drop).at).lt
    obtain ⟨c2_0, c2_1, f2_0, f2_1⟩ := (((IN2.out).drop).drop).at
    go_wp2_with fail
    have J3 := Lib.hid (Inv.drew IN2.out)
    go_region_held3 (fun w' => w'.cell? ⟨b2, 0, none⟩ = some (.int .i64 ci) ∧ w'.cell? ⟨b2, 1, none⟩ = some (.int .i64 cj) ∧ w'.cell? ⟨W.heap.size + 1, 0, none⟩ = some (.int .i64 i) ∧ w'.cell? ⟨W.heap.size + 1, 1, none⟩ = some (.int .i64 j) ∧ w'.cell? ⟨W.heap.size, 0, none⟩ = some (.int .i64 x) ∧ w'.cell? ⟨W.heap.size, 1, none⟩ = some (.int .i64 y))
      (first
          | (go_split_ands; exact HC5.out)
          | (go_split_ands; exact HC4.out)
          | go_keep)
      ((first
          | ((with_reducible refine (H1.out _ _ J3.out).mono ?_); rintro r w4 ⟨⟨a6, cap6, rfl, hO⟩, hI⟩; have HO := Lib.hid hO; clear hO; have I4 := Lib.hid hI; have HC4 := Lib.hid (And.intro ((I4.out).at.c0) (And.intro ((I4.out).at.c1) (And.intro (((I4.out).drop).at.c0) (And.intro (((I4.out).drop).at.c1) (And.intro ((((I4.out).drop).drop).at.c0) ((((I4.out).drop).drop).at.c1)))))); clear hI)
          | ((with_reducible refine (H7.out _ _ _ _ HO.out I4.out).mono ?_); rintro r w5 ⟨rfl, hI⟩; have I5 := Lib.hid hI; have HC5 := Lib.hid (And.intro ((I5.out).at.c0) (And.intro ((I5.out).at.c1) (And.intro (((I5.out).drop).at.c0) (And.intro (((I5.out).drop).at.c1) (And.intro ((((I5.out).drop).drop).at.c0) ((((I5.out).drop).drop).at.c1)))))); clear hI)))
    clear c0_0 c0_1 f0_0 f0_1 l0 c1_0 c1_1 f1_0 f1_1 l1 c2_0 c2_1 f2_0 f2_1 l2
    have l0 := ((I5.out).at).lt
    obtain ⟨c0_0, c0_1, f0_0, f0_1⟩ := (I5.out).at
    have l1 := (((I5.out).drop).at).lt
    obtain ⟨c1_0, c1_1, f1_0, f1_1⟩ := ((I5.out).drop).at
    have l2 := ((((I5.out).drop).drop).at).lt
    obtain ⟨c2_0, c2_1, f2_0, f2_1⟩ := (((I5.out).drop).drop).at
    have he := fun w => eql_arr ci cj ci cj w
    simp only [beq_self_eq_true, Bool.and_self] at he
    have hbb : (ok == ok) = true := by simp
    go_wp2_with fail
    refine (H3.out [(b2, .int .i64 ci, .int .i64 cj), (W.heap.size + 1, .int .i64 i, .int .i64 j), (W.heap.size, .int .i64 x, .int .i64 y)] _ ?_).mono ?_
    · repeat' (first | exact I5.out | with_reducible refine Inv.alloc ?_ _)
    rintro r w6 ⟨rfl, hI⟩
    have I6 := Lib.hid hI
    clear hI
    clear c0_0 c0_1 f0_0 f0_1 l0 c1_0 c1_1 f1_0 f1_1 l1 c2_0 c2_1 f2_0 f2_1 l2
    have l0 := ((I6.out).at).lt
    obtain ⟨c0_0, c0_1, f0_0, f0_1⟩ := (I6.out).at
    have l1 := (((I6.out).drop).at).lt
    obtain ⟨c1_0, c1_1, f1_0, f1_1⟩ := ((I6.out).drop).at
    have l2 := ((((I6.out).drop).drop).at).lt
    obtain ⟨c2_0, c2_1, f2_0, f2_1⟩ := (((I6.out).drop).drop).at
    go_wp2_with fail
    refine (H4.out [(b2, .int .i64 ci, .int .i64 cj), (W.heap.size + 1, .int .i64 i, .int .i64 j), (W.heap.size, .int .i64 x, .int .i64 y)] _ ?_).mono ?_
    · repeat' (first | exact I6.out | with_reducible refine Inv.alloc ?_ _)
    rintro r w7 ⟨rfl, hI⟩
    have I7 := Lib.hid hI
    clear hI
    clear c0_0 c0_1 f0_0 f0_1 l0 c1_0 c1_1 f1_0 f1_1 l1 c2_0 c2_1 f2_0 f2_1 l2
    have l0 := ((I7.out).at).lt
    obtain ⟨c0_0, c0_1, f0_0, f0_1⟩ := (I7.out).at
    have l1 := (((I7.out).drop).at).lt
    obtain ⟨c1_0, c1_1, f1_0, f1_1⟩ := ((I7.out).drop).at
    have l2 := ((((I7.out).drop).drop).at).lt
    obtain ⟨c2_0, c2_1, f2_0, f2_1⟩ := (((I7.out).drop).drop).at
    go_wp2_with fail
    refine (H8.out [(b2, .int .i64 ci, .int .i64 cj), (W.heap.size + 1, .int .i64 i, .int .i64 j), (W.heap.size, .int .i64 x, .int .i64 y)] _ ?_).mono ?_
    · repeat' (first | exact I7.out | with_reducible refine Inv.alloc ?_ _)
    rintro r w8 ⟨rfl, hI⟩
    have I8 := Lib.hid hI
    clear hI
    clear c0_0 c0_1 f0_0 f0_1 l0 c1_0 c1_1 f1_0 f1_1 l1 c2_0 c2_1 f2_0 f2_1 l2
    have l0 := ((I8.out).at).lt
    obtain ⟨c0_0, c0_1, f0_0, f0_1⟩ := (I8.out).at
    have l1 := (((I8.out).drop).at).lt
    obtain ⟨c1_0, c1_1, f1_0, f1_1⟩ := ((I8.out).drop).at
    have l2 := ((((I8.out).drop).drop).at).lt
    obtain ⟨c2_0, c2_1, f2_0, f2_1⟩ := (((I8.out).drop).drop).at
    go_wp2_with fail
    refine (H9.out [(b2, .int .i64 ci, .int .i64 cj), (W.heap.size + 1, .int .i64 i, .int .i64 j), (W.heap.size, .int .i64 x, .int .i64 y)] _ ?_).mono ?_
    · repeat' (first | exact I8.out | with_reducible refine Inv.alloc ?_ _)
    rintro r w9 ⟨rfl, hI⟩
    have I9 := Lib.hid hI
    clear hI
    clear c0_0 c0_1 f0_0 f0_1 l0 c1_0 c1_1 f1_0 f1_1 l1 c2_0 c2_1 f2_0 f2_1 l2
    have l0 := ((I9.out).at).lt
    obtain ⟨c0_0, c0_1, f0_0, f0_1⟩ := (I9.out).at
    have l1 := (((I9.out).drop).at).lt
    obtain ⟨c1_0, c1_1, f1_0, f1_1⟩ := ((I9.out).drop).at
    have l2 := ((((I9.out).drop).drop).at).lt
    obtain ⟨c2_0, c2_1, f2_0, f2_1⟩ := (((I9.out).drop).drop).at
    go_wp2_with fail
    refine (H10.out [(b2, .int .i64 ci, .int .i64 cj), (W.heap.size + 1, .int .i64 i, .int .i64 j), (W.heap.size, .int .i64 x, .int .i64 y)] _ ?_).mono ?_
    · repeat' (first | exact I9.out | with_reducible refine Inv.alloc ?_ _)
    rintro r w10 ⟨rfl, hI⟩
    have I10 := Lib.hid hI
    clear hI
    clear c0_0 c0_1 f0_0 f0_1 l0 c1_0 c1_1 f1_0 f1_1 l1 c2_0 c2_1 f2_0 f2_1 l2
    have l0 := ((I10.out).at).lt
    obtain ⟨c0_0, c0_1, f0_0, f0_1⟩ := (I10.out).at
    have l1 := (((I10.out).drop).at).lt
    obtain ⟨c1_0, c1_1, f1_0, f1_1⟩ := ((I10.out).drop).at
    have l2 := ((((I10.out).drop).drop).at).lt
    obtain ⟨c2_0, c2_1, f2_0, f2_1⟩ := (((I10.out).drop).drop).at
    go_wp2_with fail
    refine (H5.out [(b2, .int .i64 ci, .int .i64 cj), (W.heap.size + 1, .int .i64 i, .int .i64 j), (W.heap.size, .int .i64 x, .int .i64 y)] _ ?_).mono ?_
    · repeat' (first | exact I10.out | with_reducible refine Inv.alloc ?_ _)
    rintro r w11 ⟨rfl, hI⟩
    have I11 := Lib.hid hI
    clear hI
    clear c0_0 c0_1 f0_0 f0_1 l0 c1_0 c1_1 f1_0 f1_1 l1 c2_0 c2_1 f2_0 f2_1 l2
    have l0 := ((I11.out).at).lt
    obtain ⟨c0_0, c0_1, f0_0, f0_1⟩ := (I11.out).at
    have l1 := (((I11.out).drop).at).lt
    obtain ⟨c1_0, c1_1, f1_0, f1_1⟩ := ((I11.out).drop).at
    have l2 := ((((I11.out).drop).drop).at).lt
    obtain ⟨c2_0, c2_1, f2_0, f2_1⟩ := (((I11.out).drop).drop).at
    go_wp2
    go_ret
    exact ⟨rfl, I11.out.1⟩

theorem ends_core (W : World) (a : Option Addr) (n cap : Nat) (M : Nat → Q) (_hn : n ≤ cap) (hn8 : n ≤ 140737488351232) (hM : Ords W a n M) (x y : Int) (_hx : -9223372036854775808 ≤ x ∧ x ≤ 9223372036854775807) (_hy : -9223372036854775808 ≤ y ∧ y ≤ 9223372036854775807)
    (i j : Int) (_hi : -9223372036854775808 ≤ i ∧ i ≤ 9223372036854775807) (_hj : -9223372036854775808 ≤ j ∧ j ≤ 9223372036854775807) :
    Calls Try.prog 4 #[.slice a n cap, .agg #[.int .i64 x, .int .i64 y], .agg #[.int .i64 i, .int .i64 j]] W fun e W' => SomeB true W e W' := by
  cases h : isM n M
  · exact ends_bad1 W a n cap M hn8 hM x y i j h
  · cases h2 : jB x y
    · exact ends_bad2 W a n cap M hn8 hM x y i j h h2
    · obtain ⟨N, hN, hq⟩ := isM_nat h
      have hb := of_decide_eq_true h2
      obtain ⟨X, rfl⟩ : ∃ X : Nat, x = X := ⟨x.toNat, by omega⟩
      obtain ⟨Y, rfl⟩ : ∃ Y : Nat, y = Y := ⟨y.toNat, by omega⟩
      obtain ⟨ci, cj, e, hF⟩ := findC_exists N ⟨0, X, Y⟩ (dn N ⟨0, X, Y⟩ 200 + 1)
      exact ends_law W a n cap N hn8 (hM.congr hq) X Y i j hN (by omega) (by omega) ci cj e _ _ _ hF rfl rfl rfl

end Go.Proofs.Ytiegingpmcloeaa
