import Derived.Test.YtiegingpmcloeaaH1
namespace Go.Proofs.Ytiegingpmcloeaa
open Go.RowKit

set_option maxHeartbeats 16000000 in
set_option maxRecDepth 100000 in
theorem circ_good0 (W : World) (a : Option Addr) (n cap : Nat) (N : Nat → QN) (hn8 : n ≤ 140737488351232) (hM : Ords W a n (fun k => (N k).z)) (x y : Nat) (hN : okN n N) (hx : x ≤ 100) (hy : y ≤ 100) (i j : Int) (I J nE cI cJ : Nat)
    (E1 : Hid (wrap64 ((IntKind.u64.wrap i).tmod 201) = I)) (E2 : Hid (wrap64 ((IntKind.u64.wrap j).tmod 201) = J)) (hI : I < 201) (hJ : J < 201) (hnE : nE ≤ 1000)
    (hF : FindC N ⟨0, x, y⟩ (dn N ⟨0, x, y⟩ 200 + 1) (cI : Int) (cJ : Int) 0) (hEnd : endsK N ⟨0, x, y⟩ = nE ∧ endsE N ⟨0, x, y⟩ = 4) (hc : cI < cJ ∧ cJ ≤ 200) (hck : ckB N ⟨0, x, y⟩ (dn N ⟨0, x, y⟩ 1000 + 1) cI cJ = true)
    (p1 p2 : Pl) (d1 d2 : Nat) (ok : Bool) (hp1 : pl N ⟨0, x, y⟩ I = p1) (hp2 : pl N ⟨0, x, y⟩ J = p2) (hd1 : dn N ⟨0, x, y⟩ I = d1) (hd2 : dn N ⟨0, x, y⟩ J = d2) (hok : I < J → ckB N ⟨0, x, y⟩ (dn N ⟨0, x, y⟩ 1000 + 1) I J = ok)
    (hyes : I < J → ok = true → p1.o = p2.o ∧ p1.x ≤ p2.x ∧ p1.y ≤ p2.y ∧ J ≤ d2) (hsame : I < J → d1 = I → d2 = J → p1.o = p2.o → p1.x = p2.x → p1.y = p2.y → ok = true ∧ cJ ≤ J) :
    Calls Try.prog 6 #[.slice a n cap, .agg #[.int .i64 x, .int .i64 y], .int .i64 i, .int .i64 j] W fun e W' => SomeB true W e W' := by
  have H1 : Hid (∀ l w, Inv W l w → Calls Try.prog 11 #[.slice a n cap] w fun e w' => (∃ a' cap', e = .returned (.slice a' n cap') ∧ Ords w' a' n (fun k => (N k).z)) ∧ Inv W l w') := by
    intro l w hI
    have h := i_of (cap := cap) hn8 hM w hI
    rwa [Nat.min_eq_left (by have := hN.few; omega)] at h
  have H2 : Hid (∀ l w a' cap', Ords w a' n (fun k => (N k).z) → Inv W l w → Calls Try.prog 17 #[.slice a' n cap', .agg #[.int .i64 x, .int .i64 y]] w fun r w' => r = .returned (.tuple #[.agg #[.int .i64 (cI : Int), .int .i64 (cJ : Int)], .int .i64 0]) ∧ Inv W l w') :=
    fun l w a' cap' hO hI => i_circle hN x y hx hy _ _ _ hF w hO hI
  have H6 : Hid (∀ l w a' cap', Ords w a' n (fun k => (N k).z) → Inv W l w → Calls Try.prog 16 #[.slice a' n cap', .agg #[.int .i64 x, .int .i64 y]] w fun r w' => r = .returned (.tuple #[.int .i64 nE, .int .i64 4]) ∧ Inv W l w') := by
    intro l w a' cap' hO hI
    have h := i_ends (cap := cap') hN x y hx hy w hO hI
    rwa [hEnd.1, hEnd.2] at h
  have H7 : Hid (∀ l w a' cap', Ords w a' n (fun k => (N k).z) → Inv W l w → Calls Try.prog 18 #[.slice a' n cap', .agg #[.int .i64 x, .int .i64 y], .agg #[.int .i64 (cI : Int), .int .i64 (cJ : Int)]] w fun r w' => r = .returned (.tuple #[.bool true, .int .i64 0]) ∧ Inv W l w') :=
    fun l w a' cap' hO hI => i_check hN x y hx hy _ _ true hck w hO hI
  have H8 : Hid (∀ l w a' cap', Ords w a' n (fun k => (N k).z) → Inv W l w → Calls Try.prog 10 #[.slice a' n cap', .agg #[.int .i64 x, .int .i64 y], .int .i64 (I : Int)] w fun r w' => r = .returned (.tuple #[.int .i64 p1.o, .agg #[.int .i64 p1.x, .int .i64 p1.y], .int .i64 d1, .int .i64 0]) ∧ Inv W l w') := by
    intro l w a' cap' hO hI
    have h := i_go (cap := cap') hN x y I hx hy (by omega) w hO hI
    rwa [hp1, hd1] at h
  have H9 : Hid (∀ l w a' cap', Ords w a' n (fun k => (N k).z) → Inv W l w → Calls Try.prog 10 #[.slice a' n cap', .agg #[.int .i64 x, .int .i64 y], .int .i64 (J : Int)] w fun r w' => r = .returned (.tuple #[.int .i64 p2.o, .agg #[.int .i64 p2.x, .int .i64 p2.y], .int .i64 d2, .int .i64 0]) ∧ Inv W l w') := by
    intro l w a' cap' hO hI
    have h := i_go (cap := cap') hN x y J hx hy (by omega) w hO hI
    rwa [hp2, hd2] at h
  have H10 : Hid (I < J → ∀ l w a' cap', Ords w a' n (fun k => (N k).z) → Inv W l w → Calls Try.prog 18 #[.slice a' n cap', .agg #[.int .i64 x, .int .i64 y], .agg #[.int .i64 (I : Int), .int .i64 (J : Int)]] w fun r w' => r = .returned (.tuple #[.bool ok, .int .i64 0]) ∧ Inv W l w') :=
    fun h l w a' cap' hO hI => i_check hN x y hx hy _ _ ok (hok h) w hO hI
  have H3 : Hid (∀ l w, Inv W l w → Calls Try.prog 12 #[.slice a n cap] w fun e w' => e = .returned (.bool true) ∧ Inv W l w') := fun l w hI => i_machine hn8 hM true (okN_isM hN) w hI
  have H4 : Hid (∀ l w, Inv W l w → Calls Try.prog 13 #[.agg #[.int .i64 x, .int .i64 y]] w fun e w' => e = .returned (.bool true) ∧ Inv W l w') := fun l w hI => i_jars x y true (by simp [jB]; omega) w hI
  have H5 : Hid (∀ l w, Inv W l w → Calls Try.prog 14 #[] w fun e w' => e = .returned (.bool true) ∧ Inv W l w') := fun l w hI => i_awake w hI
  obtain ⟨W1, hW1⟩ : ∃ W1, W1 = W.alloc (.cells #[.int .i64 x, .int .i64 y] 23) := ⟨_, rfl⟩
  have I0 : Hid (Inv W [(W.heap.size, .int .i64 x, .int .i64 y)] W1) := by rw [hW1]; exact (Inv.refl W).new _ _ _
  have HW1 := Lib.hid hW1
  clear hW1
  have l0 := ((I0.out).at).lt
  obtain ⟨c0_0, c0_1, f0_0, f0_1⟩ := (I0.out).at
  have HS := Lib.hid hsame
  have HY := Lib.hid hyes
  clear hM hN hF hEnd hp1 hp2 hd1 hd2 hok hsame hyes hck
  obtain ⟨hc1, hc2⟩ := hc
  have Q1 : decide ((cI : Int) < 0) = false := by simp
  have Q2 : decide (cJ ≤ cI) = false := by simp; omega
  have Q3 : decide ((200 : Int) < (cJ : Int)) = false := by simp; omega
  clear hc1 hc2
  have Q4 : decide ((1000 : Int) < (nE : Int)) = false := by simp; omega
  go_enter Try.func6, Try.ntmps6
  try go_wp2_with fail
  rw [← HW1.out]
  have JA0 : Hid (Inv W [(W.heap.size, .int .i64 x, .int .i64 y)] W1.drew) := Inv.drew I0.out
  have JB0 : Hid (Inv W ((W1.heap.size, .int .i64 0, .int .i64 0) :: [(W.heap.size, .int .i64 x, .int .i64 y)]) (W1.drew.alloc (.cells #[.int .i64 0, .int .i64 0] 23))) := (Inv.drew I0.out).new _ _ _
  have JC0 : Hid (Inv W ((W1.heap.size, .int .i64 0, .int .i64 0) :: [(W.heap.size, .int .i64 x, .int .i64 y)]) (W1.alloc (.cells #[.int .i64 0, .int .i64 0] 23)).drew) := Inv.drew (I0.out.new _ _ _)
  have HCB0 := Lib.hid (And.intro ((JB0.out.2 (W.heap.size, .int .i64 x, .int .i64 y) (by simp)).c0) ((JB0.out.2 (W.heap.size, .int .i64 x, .int .i64 y) (by simp)).c1))
  have HCC0 := Lib.hid (And.intro ((JC0.out.2 (W.heap.size, .int .i64 x, .int .i64 y) (by simp)).c0) ((JC0.out.2 (W.heap.size, .int .i64 x, .int .i64 y) (by simp)).c1))
  go_cut [9, 10] (fun s9 s10 wc => (∃ b, s9 = .pointer (some ⟨b, 0, none⟩) ∧ NewBox W [(W.heap.size, .int .i64 x, .int .i64 y)] (.int .i64 (cI : Int)) (.int .i64 (cJ : Int)) wc b) ∧ s10 = .int .i64 0)
  case first =>
    as_aux_lemma =>
      go_region_held3 (fun w' => w'.cell? ⟨W.heap.size, 0, none⟩ = some (.int .i64 x) ∧ w'.cell? ⟨W.heap.size, 1, none⟩ = some (.int .i64 y))
        (first
          | (go_split_ands; exact HCb.out)
          | (go_split_ands; exact HCa.out)
          | (go_split_ands; exact HCB0.out)
          | (go_split_ands; exact HCC0.out)
          | (have q2 := (NewBox.put IB.out I0.out.fresh.1 I0.out.fresh.2 (.int .i64 (cI : Int)) (.int .i64 (cJ : Int))).1; go_split_ands; exact And.intro ((q2.2 (W.heap.size, .int .i64 x, .int .i64 y) (by simp)).c0) ((q2.2 (W.heap.size, .int .i64 x, .int .i64 y) (by simp)).c1))
          | (have q2 := (NewBox.put IB.out IA.out.fresh.1 IA.out.fresh.2 (.int .i64 (cI : Int)) (.int .i64 (cJ : Int))).1; go_split_ands; exact And.intro ((q2.2 (W.heap.size, .int .i64 x, .int .i64 y) (by simp)).c0) ((q2.2 (W.heap.size, .int .i64 x, .int .i64 y) (by simp)).c1))
          | (have q2 := (NewBox.last IB.out (.int .i64 (cI : Int)) (.int .i64 (cJ : Int)) 23).1; go_split_ands; exact And.intro ((q2.2 (W.heap.size, .int .i64 x, .int .i64 y) (by simp)).c0) ((q2.2 (W.heap.size, .int .i64 x, .int .i64 y) (by simp)).c1))
          | (have q2 := IB.out.new (.int .i64 0) (.int .i64 0) 23; go_split_ands; exact And.intro ((q2.2 (W.heap.size, .int .i64 x, .int .i64 y) (by simp)).c0) ((q2.2 (W.heap.size, .int .i64 x, .int .i64 y) (by simp)).c1))
          | (have q2 := IA.out.new (.int .i64 0) (.int .i64 0) 23; go_split_ands; exact And.intro ((q2.2 (W.heap.size, .int .i64 x, .int .i64 y) (by simp)).c0) ((q2.2 (W.heap.size, .int .i64 x, .int .i64 y) (by simp)).c1))
          | go_keep)
        ((first
          | ((first | with_reducible refine (H1.out _ _ JA0.out).mono ?_ | with_reducible refine (H1.out _ _ JB0.out).mono ?_ | with_reducible refine (H1.out _ _ JC0.out).mono ?_); rintro r vA ⟨⟨a1, cap1, rfl, hO⟩, hI⟩; have HO := Lib.hid hO; have IA := Lib.hid hI; have HCa := Lib.hid (And.intro ((hI.2 (W.heap.size, .int .i64 x, .int .i64 y) (by simp)).c0) ((hI.2 (W.heap.size, .int .i64 x, .int .i64 y) (by simp)).c1)); clear hO hI)
          | ((first | with_reducible refine (H2.out _ _ _ _ HO.out IA.out).mono ?_ | with_reducible refine (H2.out _ _ _ _ (HO.out.keep (Nat.le_refl _) (one_le _ _)) (IA.out.new (.int .i64 0) (.int .i64 0) 23)).mono ?_); rintro r vB ⟨rfl, hI⟩; have IB := Lib.hid hI; have HCb := Lib.hid (And.intro ((hI.2 (W.heap.size, .int .i64 x, .int .i64 y) (by simp)).c0) ((hI.2 (W.heap.size, .int .i64 x, .int .i64 y) (by simp)).c1)); obtain ⟨g0, g1, g2, g3⟩ := hI.at; have gl := hI.at.lt; clear hI)))
      all_goals
        go_wp2
        go_meet
      all_goals first
        | exact ⟨⟨_, rfl, NewBox.last IB.out (.int .i64 (cI : Int)) (.int .i64 (cJ : Int)) 23⟩, rfl⟩
        | exact ⟨⟨_, rfl, NewBox.put IB.out I0.out.fresh.1 I0.out.fresh.2 (.int .i64 (cI : Int)) (.int .i64 (cJ : Int))⟩, rfl⟩
        | exact ⟨⟨_, rfl, NewBox.put IB.out IA.out.fresh.1 IA.out.fresh.2 (.int .i64 (cI : Int)) (.int .i64 (cJ : Int))⟩, rfl⟩
  case rest =>
    as_aux_lemma =>
      obtain ⟨wc0, rfl⟩ : ∃ v, v = wc := ⟨_, rfl⟩
      obtain ⟨⟨b0, rfl, hNew⟩, rfl⟩ := hcut
      have NB0 := Lib.hid hNew
      have IN0 := Lib.hid hNew.1
      clear hNew
      clear c0_0 c0_1 f0_0 f0_1 l0
      have l0 := ((IN0.out).at).lt
      obtain ⟨c0_0, c0_1, f0_0, f0_1⟩ := (IN0.out).at
      have l1 := (((IN0.out).drop).at).lt
      obtain ⟨c1_0, c1_1, f1_0, f1_1⟩ := ((IN0.out).drop).at
      go_wp2_with fail
      have J1 := Lib.hid (Inv.drew IN0.out)
      go_region_held3 (fun w' => w'.cell? ⟨b0, 0, none⟩ = some (.int .i64 (cI : Int)) ∧ w'.cell? ⟨b0, 1, none⟩ = some (.int .i64 (cJ : Int)) ∧ w'.cell? ⟨W.heap.size, 0, none⟩ = some (.int .i64 x) ∧ w'.cell? ⟨W.heap.size, 1, none⟩ = some (.int .i64 y))
        (first
            | (go_split_ands; exact HC3.out)
            | (go_split_ands; exact HC2.out)
            | go_keep)
        ((first
            | ((with_reducible refine (H1.out _ _ J1.out).mono ?_); rintro r w2 ⟨⟨a5, cap5, rfl, hO⟩, hI⟩; have HO := Lib.hid hO; clear hO; have I2 := Lib.hid hI; have HC2 := Lib.hid (And.intro ((I2.out).at.c0) (And.intro ((I2.out).at.c1) (And.intro (((I2.out).drop).at.c0) (((I2.out).drop).at.c1)))); clear hI)
            | ((with_reducible refine (H6.out _ _ _ _ HO.out I2.out).mono ?_); rintro r w3 ⟨rfl, hI⟩; have I3 := Lib.hid hI; have HC3 := Lib.hid (And.intro ((I3.out).at.c0) (And.intro ((I3.out).at.c1) (And.intro (((I3.out).drop).at.c0) (((I3.out).drop).at.c1)))); clear hI)))
      clear c0_0 c0_1 f0_0 f0_1 l0 c1_0 c1_1 f1_0 f1_1 l1
      have l0 := ((I3.out).at).lt
      obtain ⟨c0_0, c0_1, f0_0, f0_1⟩ := (I3.out).at
      have l1 := (((I3.out).drop).at).lt
      obtain ⟨c1_0, c1_1, f1_0, f1_1⟩ := ((I3.out).drop).at
      go_wp2_with fail
      refine (H3.out [(b0, .int .i64 (cI : Int), .int .i64 (cJ : Int)), (W.heap.size, .int .i64 x, .int .i64 y)] _ ?_).mono ?_
      · repeat' (first | exact I3.out | with_reducible refine Inv.alloc ?_ _)
      rintro r w4 ⟨rfl, hI⟩
      have I4 := Lib.hid hI
      clear hI
      clear c0_0 c0_1 f0_0 f0_1 l0 c1_0 c1_1 f1_0 f1_1 l1
      have l0 := ((I4.out).at).lt
      obtain ⟨c0_0, c0_1, f0_0, f0_1⟩ := (I4.out).at
      have l1 := (((I4.out).drop).at).lt
      obtain ⟨c1_0, c1_1, f1_0, f1_1⟩ := ((I4.out).drop).at
      go_wp2_with fail
      refine (H4.out [(b0, .int .i64 (cI : Int), .int .i64 (cJ : Int)), (W.heap.size, .int .i64 x, .int .i64 y)] _ ?_).mono ?_
      · repeat' (first | exact I4.out | with_reducible refine Inv.alloc ?_ _)
      rintro r w5 ⟨rfl, hI⟩
      have I5 := Lib.hid hI
      clear hI
      clear c0_0 c0_1 f0_0 f0_1 l0 c1_0 c1_1 f1_0 f1_1 l1
      have l0 := ((I5.out).at).lt
      obtain ⟨c0_0, c0_1, f0_0, f0_1⟩ := (I5.out).at
      have l1 := (((I5.out).drop).at).lt
      obtain ⟨c1_0, c1_1, f1_0, f1_1⟩ := ((I5.out).drop).at
      go_wp2_with fail
      have J5 := Lib.hid (Inv.drew I5.out)
      go_region_held3 (fun w' => w'.cell? ⟨b0, 0, none⟩ = some (.int .i64 (cI : Int)) ∧ w'.cell? ⟨b0, 1, none⟩ = some (.int .i64 (cJ : Int)) ∧ w'.cell? ⟨W.heap.size, 0, none⟩ = some (.int .i64 x) ∧ w'.cell? ⟨W.heap.size, 1, none⟩ = some (.int .i64 y))
        (first
            | (go_split_ands; exact HC7.out)
            | (go_split_ands; exact HC6.out)
            | go_keep)
        ((first
            | ((with_reducible refine (H1.out _ _ J5.out).mono ?_); rintro r w6 ⟨⟨a6, cap6, rfl, hO⟩, hI⟩; have HO := Lib.hid hO; clear hO; have I6 := Lib.hid hI; have HC6 := Lib.hid (And.intro ((I6.out).at.c0) (And.intro ((I6.out).at.c1) (And.intro (((I6.out).drop).at.c0) (((I6.out).drop).at.c1)))); clear hI)
            | ((with_reducible refine (H7.out _ _ _ _ HO.out I6.out).mono ?_); rintro r w7 ⟨rfl, hI⟩; have I7 := Lib.hid hI; have HC7 := Lib.hid (And.intro ((I7.out).at.c0) (And.intro ((I7.out).at.c1) (And.intro (((I7.out).drop).at.c0) (((I7.out).drop).at.c1)))); clear hI)))
      clear c0_0 c0_1 f0_0 f0_1 l0 c1_0 c1_1 f1_0 f1_1 l1
      have l0 := ((I7.out).at).lt
      obtain ⟨c0_0, c0_1, f0_0, f0_1⟩ := (I7.out).at
      have l1 := (((I7.out).drop).at).lt
      obtain ⟨c1_0, c1_1, f1_0, f1_1⟩ := ((I7.out).drop).at
      have e1 := E1.out
      have e2 := E2.out
      by_cases hIJ : I < J
      · have KL : decide ((J : Int) ≤ (I : Int)) = false := by simp; omega
        have KL2 : decide (J ≤ I) = false := by simp; omega
        go_wp2_with fail
        simp only [e1, e2]
        clear e1 e2 E1 E2
        try go_wp2_with fail
        have JA7 : Hid (Inv W [(b0, .int .i64 (cI : Int), .int .i64 (cJ : Int)), (W.heap.size, .int .i64 x, .int .i64 y)] w7.drew) := Inv.drew I7.out
        have JB7 : Hid (Inv W ((w7.heap.size, .int .i64 0, .int .i64 0) :: [(b0, .int .i64 (cI : Int), .int .i64 (cJ : Int)), (W.heap.size, .int .i64 x, .int .i64 y)]) (w7.drew.alloc (.cells #[.int .i64 0, .int .i64 0] 23))) := (Inv.drew I7.out).new _ _ _
        have JC7 : Hid (Inv W ((w7.heap.size, .int .i64 0, .int .i64 0) :: [(b0, .int .i64 (cI : Int), .int .i64 (cJ : Int)), (W.heap.size, .int .i64 x, .int .i64 y)]) (w7.alloc (.cells #[.int .i64 0, .int .i64 0] 23)).drew) := Inv.drew (I7.out.new _ _ _)
        have HCB7 := Lib.hid (And.intro ((JB7.out.2 (b0, .int .i64 (cI : Int), .int .i64 (cJ : Int)) (by simp)).c0) (And.intro ((JB7.out.2 (b0, .int .i64 (cI : Int), .int .i64 (cJ : Int)) (by simp)).c1) (And.intro ((JB7.out.2 (W.heap.size, .int .i64 x, .int .i64 y) (by simp)).c0) ((JB7.out.2 (W.heap.size, .int .i64 x, .int .i64 y) (by simp)).c1))))
        have HCC7 := Lib.hid (And.intro ((JC7.out.2 (b0, .int .i64 (cI : Int), .int .i64 (cJ : Int)) (by simp)).c0) (And.intro ((JC7.out.2 (b0, .int .i64 (cI : Int), .int .i64 (cJ : Int)) (by simp)).c1) (And.intro ((JC7.out.2 (W.heap.size, .int .i64 x, .int .i64 y) (by simp)).c0) ((JC7.out.2 (W.heap.size, .int .i64 x, .int .i64 y) (by simp)).c1))))
        go_cut [15, 16, 17, 18] (fun s15 s16 s17 s18 wc => s15 = .int .i64 p1.o ∧ (∃ b, s16 = .pointer (some ⟨b, 0, none⟩) ∧ NewBox W [(b0, .int .i64 (cI : Int), .int .i64 (cJ : Int)), (W.heap.size, .int .i64 x, .int .i64 y)] (.int .i64 p1.x) (.int .i64 p1.y) wc b) ∧ s17 = .int .i64 d1 ∧ s18 = .int .i64 0)
        case first =>
          as_aux_lemma =>
            go_region_held3 (fun w' => w'.cell? ⟨b0, 0, none⟩ = some (.int .i64 (cI : Int)) ∧ w'.cell? ⟨b0, 1, none⟩ = some (.int .i64 (cJ : Int)) ∧ w'.cell? ⟨W.heap.size, 0, none⟩ = some (.int .i64 x) ∧ w'.cell? ⟨W.heap.size, 1, none⟩ = some (.int .i64 y))
              (first
                | (go_split_ands; exact HCb.out)
                | (go_split_ands; exact HCa.out)
                | (go_split_ands; exact HCB7.out)
                | (go_split_ands; exact HCC7.out)
                | (have q2 := (NewBox.put IB.out I7.out.fresh.1 I7.out.fresh.2 (.int .i64 p1.x) (.int .i64 p1.y)).1; go_split_ands; exact And.intro ((q2.2 (b0, .int .i64 (cI : Int), .int .i64 (cJ : Int)) (by simp)).c0) (And.intro ((q2.2 (b0, .int .i64 (cI : Int), .int .i64 (cJ : Int)) (by simp)).c1) (And.intro ((q2.2 (W.heap.size, .int .i64 x, .int .i64 y) (by simp)).c0) ((q2.2 (W.heap.size, .int .i64 x, .int .i64 y) (by simp)).c1))))
                | (have q2 := (NewBox.put IB.out IA.out.fresh.1 IA.out.fresh.2 (.int .i64 p1.x) (.int .i64 p1.y)).1; go_split_ands; exact And.intro ((q2.2 (b0, .int .i64 (cI : Int), .int .i64 (cJ : Int)) (by simp)).c0) (And.intro ((q2.2 (b0, .int .i64 (cI : Int), .int .i64 (cJ : Int)) (by simp)).c1) (And.intro ((q2.2 (W.heap.size, .int .i64 x, .int .i64 y) (by simp)).c0) ((q2.2 (W.heap.size, .int .i64 x, .int .i64 y) (by simp)).c1))))
                | (have q2 := (NewBox.last IB.out (.int .i64 p1.x) (.int .i64 p1.y) 23).1; go_split_ands; exact And.intro ((q2.2 (b0, .int .i64 (cI : Int), .int .i64 (cJ : Int)) (by simp)).c0) (And.intro ((q2.2 (b0, .int .i64 (cI : Int), .int .i64 (cJ : Int)) (by simp)).c1) (And.intro ((q2.2 (W.heap.size, .int .i64 x, .int .i64 y) (by simp)).c0) ((q2.2 (W.heap.size, .int .i64 x, .int .i64 y) (by simp)).c1))))
                | (have q2 := IB.out.new (.int .i64 0) (.int .i64 0) 23; go_split_ands; exact And.intro ((q2.2 (b0, .int .i64 (cI : Int), .int .i64 (cJ : Int)) (by simp)).c0) (And.intro ((q2.2 (b0, .int .i64 (cI : Int), .int .i64 (cJ : Int)) (by simp)).c1) (And.intro ((q2.2 (W.heap.size, .int .i64 x, .int .i64 y) (by simp)).c0) ((q2.2 (W.heap.size, .int .i64 x, .int .i64 y) (by simp)).c1))))
                | (have q2 := IA.out.new (.int .i64 0) (.int .i64 0) 23; go_split_ands; exact And.intro ((q2.2 (b0, .int .i64 (cI : Int), .int .i64 (cJ : Int)) (by simp)).c0) (And.intro ((q2.2 (b0, .int .i64 (cI : Int), .int .i64 (cJ : Int)) (by simp)).c1) (And.intro ((q2.2 (W.heap.size, .int .i64 x, .int .i64 y) (by simp)).c0) ((q2.2 (W.heap.size, .int .i64 x, .int .i64 y) (by simp)).c1))))
                | go_keep)
              ((first
                | ((first | with_reducible refine (H1.out _ _ JA7.out).mono ?_ | with_reducible refine (H1.out _ _ JB7.out).mono ?_ | with_reducible refine (H1.out _ _ JC7.out).mono ?_); rintro r vA ⟨⟨a1, cap1, rfl, hO⟩, hI⟩; have HO := Lib.hid hO; have IA := Lib.hid hI; have HCa := Lib.hid (And.intro ((hI.2 (b0, .int .i64 (cI : Int), .int .i64 (cJ : Int)) (by simp)).c0) (And.intro ((hI.2 (b0, .int .i64 (cI : Int), .int .i64 (cJ : Int)) (by simp)).c1) (And.intro ((hI.2 (W.heap.size, .int .i64 x, .int .i64 y) (by simp)).c0) ((hI.2 (W.heap.size, .int .i64 x, .int .i64 y) (by simp)).c1)))); clear hO hI)
                | ((first | with_reducible refine (H8.out _ _ _ _ HO.out IA.out).mono ?_ | with_reducible refine (H8.out _ _ _ _ (HO.out.keep (Nat.le_refl _) (one_le _ _)) (IA.out.new (.int .i64 0) (.int .i64 0) 23)).mono ?_); rintro r vB ⟨rfl, hI⟩; have IB := Lib.hid hI; have HCb := Lib.hid (And.intro ((hI.2 (b0, .int .i64 (cI : Int), .int .i64 (cJ : Int)) (by simp)).c0) (And.intro ((hI.2 (b0, .int .i64 (cI : Int), .int .i64 (cJ : Int)) (by simp)).c1) (And.intro ((hI.2 (W.heap.size, .int .i64 x, .int .i64 y) (by simp)).c0) ((hI.2 (W.heap.size, .int .i64 x, .int .i64 y) (by simp)).c1)))); obtain ⟨g0, g1, g2, g3⟩ := hI.at; have gl := hI.at.lt; clear hI)))
            all_goals
              go_wp2
              go_meet
            all_goals first
              | exact ⟨rfl, ⟨_, rfl, NewBox.last IB.out (.int .i64 p1.x) (.int .i64 p1.y) 23⟩, rfl, rfl⟩
              | exact ⟨rfl, ⟨_, rfl, NewBox.put IB.out I7.out.fresh.1 I7.out.fresh.2 (.int .i64 p1.x) (.int .i64 p1.y)⟩, rfl, rfl⟩
              | exact ⟨rfl, ⟨_, rfl, NewBox.put IB.out IA.out.fresh.1 IA.out.fresh.2 (.int .i64 p1.x) (.int .i64 p1.y)⟩, rfl, rfl⟩
        case rest =>
          as_aux_lemma =>
            obtain ⟨wc7, rfl⟩ : ∃ v, v = wc := ⟨_, rfl⟩
            obtain ⟨rfl, ⟨b7, rfl, hNew⟩, rfl, rfl⟩ := hcut
            have NB7 := Lib.hid hNew
            have IN7 := Lib.hid hNew.1
            clear hNew
            clear c0_0 c0_1 f0_0 f0_1 l0 c1_0 c1_1 f1_0 f1_1 l1
            have l0 := ((IN7.out).at).lt
            obtain ⟨c0_0, c0_1, f0_0, f0_1⟩ := (IN7.out).at
            have l1 := (((IN7.out).drop).at).lt
            obtain ⟨c1_0, c1_1, f1_0, f1_1⟩ := ((IN7.out).drop).at
            have l2 := ((((IN7.out).drop).drop).at).lt
            obtain ⟨c2_0, c2_1, f2_0, f2_1⟩ := (((IN7.out).drop).drop).at
            try go_wp2_with fail
            have JA8 : Hid (Inv W [(b7, .int .i64 p1.x, .int .i64 p1.y), (b0, .int .i64 (cI : Int), .int .i64 (cJ : Int)), (W.heap.size, .int .i64 x, .int .i64 y)] wc7.drew) := Inv.drew IN7.out
            have JB8 : Hid (Inv W ((wc7.heap.size, .int .i64 0, .int .i64 0) :: [(b7, .int .i64 p1.x, .int .i64 p1.y), (b0, .int .i64 (cI : Int), .int .i64 (cJ : Int)), (W.heap.size, .int .i64 x, .int .i64 y)]) (wc7.drew.alloc (.cells #[.int .i64 0, .int .i64 0] 23))) := (Inv.drew IN7.out).new _ _ _
            have JC8 : Hid (Inv W ((wc7.heap.size, .int .i64 0, .int .i64 0) :: [(b7, .int .i64 p1.x, .int .i64 p1.y), (b0, .int .i64 (cI : Int), .int .i64 (cJ : Int)), (W.heap.size, .int .i64 x, .int .i64 y)]) (wc7.alloc (.cells #[.int .i64 0, .int .i64 0] 23)).drew) := Inv.drew (IN7.out.new _ _ _)
            have HCB8 := Lib.hid (And.intro ((JB8.out.2 (b7, .int .i64 p1.x, .int .i64 p1.y) (by simp)).c0) (And.intro ((JB8.out.2 (b7, .int .i64 p1.x, .int .i64 p1.y) (by simp)).c1) (And.intro ((JB8.out.2 (b0, .int .i64 (cI : Int), .int .i64 (cJ : Int)) (by simp)).c0) (And.intro ((JB8.out.2 (b0, .int .i64 (cI : Int), .int .i64 (cJ : Int)) (by simp)).c1) (And.intro ((JB8.out.2 (W.heap.size, .int .i64 x, .int .i64 y) (by simp)).c0) ((JB8.out.2 (W.heap.size, .int .i64 x, .int .i64 y) (by simp)).c1))))))
            have HCC8 := Lib.hid (And.intro ((JC8.out.2 (b7, .int .i64 p1.x, .int .i64 p1.y) (by simp)).c0) (And.intro ((JC8.out.2 (b7, .int .i64 p1.x, .int .i64 p1.y) (by simp)).c1) (And.intro ((JC8.out.2 (b0, .int .i64 (cI : Int), .int .i64 (cJ : Int)) (by simp)).c0) (And.intro ((JC8.out.2 (b0, .int .i64 (cI : Int), .int .i64 (cJ : Int)) (by simp)).c1) (And.intro ((JC8.out.2 (W.heap.size, .int .i64 x, .int .i64 y) (by simp)).c0) ((JC8.out.2 (W.heap.size, .int .i64 x, .int .i64 y) (by simp)).c1))))))
            go_cut [19, 20, 21, 22] (fun s19 s20 s21 s22 wc => s19 = .int .i64 p2.o ∧ (∃ b, s20 = .pointer (some ⟨b, 0, none⟩) ∧ NewBox W [(b7, .int .i64 p1.x, .int .i64 p1.y), (b0, .int .i64 (cI : Int), .int .i64 (cJ : Int)), (W.heap.size, .int .i64 x, .int .i64 y)] (.int .i64 p2.x) (.int .i64 p2.y) wc b) ∧ s21 = .int .i64 d2 ∧ s22 = .int .i64 0)
            case first =>
              as_aux_lemma =>
                go_region_held3 (fun w' => w'.cell? ⟨b7, 0, none⟩ = some (.int .i64 p1.x) ∧ w'.cell? ⟨b7, 1, none⟩ = some (.int .i64 p1.y) ∧ w'.cell? ⟨b0, 0, none⟩ = some (.int .i64 (cI : Int)) ∧ w'.cell? ⟨b0, 1, none⟩ = some (.int .i64 (cJ : Int)) ∧ w'.cell? ⟨W.heap.size, 0, none⟩ = some (.int .i64 x) ∧ w'.cell? ⟨W.heap.size, 1, none⟩ = some (.int .i64 y))
                  (first
                    | (go_split_ands; exact HCb.out)
                    | (go_split_ands; exact HCa.out)
                    | (go_split_ands; exact HCB8.out)
                    | (go_split_ands; exact HCC8.out)
                    | (have q2 := (NewBox.put IB.out IN7.out.fresh.1 IN7.out.fresh.2 (.int .i64 p2.x) (.int .i64 p2.y)).1; go_split_ands; exact And.intro ((q2.2 (b7, .int .i64 p1.x, .int .i64 p1.y) (by simp)).c0) (And.intro ((q2.2 (b7, .int .i64 p1.x, .int .i64 p1.y) (by simp)).c1) (And.intro ((q2.2 (b0, .int .i64 (cI : Int), .int .i64 (cJ : Int)) (by simp)).c0) (And.intro ((q2.2 (b0, .int .i64 (cI : Int), .int .i64 (cJ : Int)) (by simp)).c1) (And.intro ((q2.2 (W.heap.size, .int .i64 x, .int .i64 y) (by simp)).c0) ((q2.2 (W.heap.size, .int .i64 x, .int .i64 y) (by simp)).c1))))))
                    | (have q2 := (NewBox.put IB.out IA.out.fresh.1 IA.out.fresh.2 (.int .i64 p2.x) (.int .i64 p2.y)).1; go_split_ands; exact And.intro ((q2.2 (b7, .int .i64 p1.x, .int .i64 p1.y) (by simp)).c0) (And.intro ((q2.2 (b7, .int .i64 p1.x, .int .i64 p1.y) (by simp)).c1) (And.intro ((q2.2 (b0, .int .i64 (cI : Int), .int .i64 (cJ : Int)) (by simp)).c0) (And.intro ((q2.2 (b0, .int .i64 (cI : Int), .int .i64 (cJ : Int)) (by simp)).c1) (And.intro ((q2.2 (W.heap.size, .int .i64 x, .int .i64 y) (by simp)).c0) ((q2.2 (W.heap.size, .int .i64 x, .int .i64 y) (by simp)).c1))))))
                    | (have q2 := (NewBox.last IB.out (.int .i64 p2.x) (.int .i64 p2.y) 23).1; go_split_ands; exact And.intro ((q2.2 (b7, .int .i64 p1.x, .int .i64 p1.y) (by simp)).c0) (And.intro ((q2.2 (b7, .int .i64 p1.x, .int .i64 p1.y) (by simp)).c1) (And.intro ((q2.2 (b0, .int .i64 (cI : Int), .int .i64 (cJ : Int)) (by simp)).c0) (And.intro ((q2.2 (b0, .int .i64 (cI : Int), .int .i64 (cJ : Int)) (by simp)).c1) (And.intro ((q2.2 (W.heap.size, .int .i64 x, .int .i64 y) (by simp)).c0) ((q2.2 (W.heap.size, .int .i64 x, .int .i64 y) (by simp)).c1))))))
                    | (have q2 := IB.out.new (.int .i64 0) (.int .i64 0) 23; go_split_ands; exact And.intro ((q2.2 (b7, .int .i64 p1.x, .int .i64 p1.y) (by simp)).c0) (And.intro ((q2.2 (b7, .int .i64 p1.x, .int .i64 p1.y) (by simp)).c1) (And.intro ((q2.2 (b0, .int .i64 (cI : Int), .int .i64 (cJ : Int)) (by simp)).c0) (And.intro ((q2.2 (b0, .int .i64 (cI : Int), .int .i64 (cJ : Int)) (by simp)).c1) (And.intro ((q2.2 (W.heap.size, .int .i64 x, .int .i64 y) (by simp)).c0) ((q2.2 (W.heap.size, .int .i64 x, .int .i64 y) (by simp)).c1))))))
                    | (have q2 := IA.out.new (.int .i64 0) (.int .i64 0) 23; go_split_ands; exact And.intro ((q2.2 (b7, .int .i64 p1.x, .int .i64 p1.y) (by simp)).c0) (And.intro ((q2.2 (b7, .int .i64 p1.x, .int .i64 p1.y) (by simp)).c1) (And.intro ((q2.2 (b0, .int .i64 (cI : Int), .int .i64 (cJ : Int)) (by simp)).c0) (And.intro ((q2.2 (b0, .int .i64 (cI : Int), .int .i64 (cJ : Int)) (by simp)).c1) (And.intro ((q2.2 (W.heap.size, .int .i64 x, .int .i64 y) (by simp)).c0) ((q2.2 (W.heap.size, .int .i64 x, .int .i64 y) (by simp)).c1))))))
                    | go_keep)
                  ((first
                    | ((first | with_reducible refine (H1.out _ _ JA8.out).mono ?_ | with_reducible refine (H1.out _ _ JB8.out).mono ?_ | with_reducible refine (H1.out _ _ JC8.out).mono ?_); rintro r vA ⟨⟨a1, cap1, rfl, hO⟩, hI⟩; have HO := Lib.hid hO; have IA := Lib.hid hI; have HCa := Lib.hid (And.intro ((hI.2 (b7, .int .i64 p1.x, .int .i64 p1.y) (by simp)).c0) (And.intro ((hI.2 (b7, .int .i64 p1.x, .int .i64 p1.y) (by simp)).c1) (And.intro ((hI.2 (b0, .int .i64 (cI : Int), .int .i64 (cJ : Int)) (by simp)).c0) (And.intro ((hI.2 (b0, .int .i64 (cI : Int), .int .i64 (cJ : Int)) (by simp)).c1) (And.intro ((hI.2 (W.heap.size, .int .i64 x, .int .i64 y) (by simp)).c0) ((hI.2 (W.heap.size, .int .i64 x, .int .i64 y) (by simp)).c1)))))); clear hO hI)
                    | ((first | with_reducible refine (H9.out _ _ _ _ HO.out IA.out).mono ?_ | with_reducible refine (H9.out _ _ _ _ (HO.out.keep (Nat.le_refl _) (one_le _ _)) (IA.out.new (.int .i64 0) (.int .i64 0) 23)).mono ?_); rintro r vB ⟨rfl, hI⟩; have IB := Lib.hid hI; have HCb := Lib.hid (And.intro ((hI.2 (b7, .int .i64 p1.x, .int .i64 p1.y) (by simp)).c0) (And.intro ((hI.2 (b7, .int .i64 p1.x, .int .i64 p1.y) (by simp)).c1) (And.intro ((hI.2 (b0, .int .i64 (cI : Int), .int .i64 (cJ : Int)) (by simp)).c0) (And.intro ((hI.2 (b0, .int .i64 (cI : Int), .int .i64 (cJ : Int)) (by simp)).c1) (And.intro ((hI.2 (W.heap.size, .int .i64 x, .int .i64 y) (by simp)).c0) ((hI.2 (W.heap.size, .int .i64 x, .int .i64 y) (by simp)).c1)))))); obtain ⟨g0, g1, g2, g3⟩ := hI.at; have gl := hI.at.lt; clear hI)))
                all_goals
                  go_wp2
                  go_meet
                all_goals first
                  | exact ⟨rfl, ⟨_, rfl, NewBox.last IB.out (.int .i64 p2.x) (.int .i64 p2.y) 23⟩, rfl, rfl⟩
                  | exact ⟨rfl, ⟨_, rfl, NewBox.put IB.out IN7.out.fresh.1 IN7.out.fresh.2 (.int .i64 p2.x) (.int .i64 p2.y)⟩, rfl, rfl⟩
                  | exact ⟨rfl, ⟨_, rfl, NewBox.put IB.out IA.out.fresh.1 IA.out.fresh.2 (.int .i64 p2.x) (.int .i64 p2.y)⟩, rfl, rfl⟩
            case rest =>
              as_aux_lemma =>
                obtain ⟨wc8, rfl⟩ : ∃ v, v = wc := ⟨_, rfl⟩
                obtain ⟨rfl, ⟨b8, rfl, hNew⟩, rfl, rfl⟩ := hcut
                have NB8 := Lib.hid hNew
                have IN8 := Lib.hid hNew.1
                clear hNew
                clear c0_0 c0_1 f0_0 f0_1 l0 c1_0 c1_1 f1_0 f1_1 l1 c2_0 c2_1 f2_0 f2_1 l2
                have l0 := ((IN8.out).at).lt
                obtain ⟨c0_0, c0_1, f0_0, f0_1⟩ := (IN8.out).at
                have l1 := (((IN8.out).drop).at).lt
                obtain ⟨c1_0, c1_1, f1_0, f1_1⟩ := ((IN8.out).drop).at
                have l2 := ((((IN8.out).drop).drop).at).lt
                obtain ⟨c2_0, c2_1, f2_0, f2_1⟩ := (((IN8.out).drop).drop).at
                have l3 := (((((IN8.out).drop).drop).drop).at).lt
                obtain ⟨c3_0, c3_1, f3_0, f3_1⟩ := ((((IN8.out).drop).drop).drop).at
                have H11 := Lib.hid (H10.out hIJ)
                have HYs := Lib.hid (HY.out hIJ)
                have HSs := Lib.hid (HS.out hIJ)
                clear HY HS H10 hIJ
                cases ok
                · skip
                  go_wp2_with fail
                  have J9 := Lib.hid (Inv.drew IN8.out)
                  go_region_held3 (fun w' => w'.cell? ⟨b8, 0, none⟩ = some (.int .i64 p2.x) ∧ w'.cell? ⟨b8, 1, none⟩ = some (.int .i64 p2.y) ∧ w'.cell? ⟨b7, 0, none⟩ = some (.int .i64 p1.x) ∧ w'.cell? ⟨b7, 1, none⟩ = some (.int .i64 p1.y) ∧ w'.cell? ⟨b0, 0, none⟩ = some (.int .i64 (cI : Int)) ∧ w'.cell? ⟨b0, 1, none⟩ = some (.int .i64 (cJ : Int)) ∧ w'.cell? ⟨W.heap.size, 0, none⟩ = some (.int .i64 x) ∧ w'.cell? ⟨W.heap.size, 1, none⟩ = some (.int .i64 y))
                    (first
                        | (go_split_ands; exact HC11.out)
                        | (go_split_ands; exact HC10.out)
                        | go_keep)
                    ((first
                        | ((with_reducible refine (H1.out _ _ J9.out).mono ?_); rintro r w10 ⟨⟨a7, cap7, rfl, hO⟩, hI⟩; have HO := Lib.hid hO; clear hO; have I10 := Lib.hid hI; have HC10 := Lib.hid (And.intro ((I10.out).at.c0) (And.intro ((I10.out).at.c1) (And.intro (((I10.out).drop).at.c0) (And.intro (((I10.out).drop).at.c1) (And.intro ((((I10.out).drop).drop).at.c0) (And.intro ((((I10.out).drop).drop).at.c1) (And.intro (((((I10.out).drop).drop).drop).at.c0) (((((I10.out).drop).drop).drop).at.c1)))))))); clear hI)
                        | ((with_reducible refine (H11.out _ _ _ _ HO.out I10.out).mono ?_); rintro r w11 ⟨rfl, hI⟩; have I11 := Lib.hid hI; have HC11 := Lib.hid (And.intro ((I11.out).at.c0) (And.intro ((I11.out).at.c1) (And.intro (((I11.out).drop).at.c0) (And.intro (((I11.out).drop).at.c1) (And.intro ((((I11.out).drop).drop).at.c0) (And.intro ((((I11.out).drop).drop).at.c1) (And.intro (((((I11.out).drop).drop).drop).at.c0) (((((I11.out).drop).drop).drop).at.c1)))))))); clear hI)))
                  clear c0_0 c0_1 f0_0 f0_1 l0 c1_0 c1_1 f1_0 f1_1 l1 c2_0 c2_1 f2_0 f2_1 l2 c3_0 c3_1 f3_0 f3_1 l3
                  have l0 := ((I11.out).at).lt
                  obtain ⟨c0_0, c0_1, f0_0, f0_1⟩ := (I11.out).at
                  have l1 := (((I11.out).drop).at).lt
                  obtain ⟨c1_0, c1_1, f1_0, f1_1⟩ := ((I11.out).drop).at
                  have l2 := ((((I11.out).drop).drop).at).lt
                  obtain ⟨c2_0, c2_1, f2_0, f2_1⟩ := (((I11.out).drop).drop).at
                  have l3 := (((((I11.out).drop).drop).drop).at).lt
                  obtain ⟨c3_0, c3_1, f3_0, f3_1⟩ := ((((I11.out).drop).drop).drop).at
                  cases K5 : decide (d2 < J)
                  · skip
                    by_cases t0 : d1 = I
                    · have T0 : ((d1 : Int) == (I : Int)) = true := by simp [t0]
                      by_cases t1 : d2 = J
                      · have T1 : ((d2 : Int) == (J : Int)) = true := by simp [t1]
                        by_cases t2 : p1.o = p2.o
                        · have T2 : ((p1.o : Int) == (p2.o : Int)) = true := by simp [t2]
                          by_cases t3 : p1.x = p2.x ∧ p1.y = p2.y
                          · have hcj := HSs.out t0 t1 t2 t3.1 t3.2
                            exact absurd hcj.1 (by simp)
                          · have he2 := fun w => eql_arr p1.x p1.y p2.x p2.y w
                            have hb4 : ((p1.x : Int) == (p2.x : Int) && (p1.y : Int) == (p2.y : Int)) = false := by simp; omega
                            simp only [hb4] at he2
                            clear hb4 t0 t1 t2 t3
                            go_wp2_with fail
                            refine (H5.out [(b8, .int .i64 p2.x, .int .i64 p2.y), (b7, .int .i64 p1.x, .int .i64 p1.y), (b0, .int .i64 (cI : Int), .int .i64 (cJ : Int)), (W.heap.size, .int .i64 x, .int .i64 y)] _ ?_).mono ?_
                            · repeat' (first | exact I11.out | with_reducible refine Inv.alloc ?_ _)
                            rintro r w12 ⟨rfl, hI⟩
                            have I12 := Lib.hid hI
                            clear hI
                            clear c0_0 c0_1 f0_0 f0_1 l0 c1_0 c1_1 f1_0 f1_1 l1 c2_0 c2_1 f2_0 f2_1 l2 c3_0 c3_1 f3_0 f3_1 l3
                            have l0 := ((I12.out).at).lt
                            obtain ⟨c0_0, c0_1, f0_0, f0_1⟩ := (I12.out).at
                            have l1 := (((I12.out).drop).at).lt
                            obtain ⟨c1_0, c1_1, f1_0, f1_1⟩ := ((I12.out).drop).at
                            have l2 := ((((I12.out).drop).drop).at).lt
                            obtain ⟨c2_0, c2_1, f2_0, f2_1⟩ := (((I12.out).drop).drop).at
                            have l3 := (((((I12.out).drop).drop).drop).at).lt
                            obtain ⟨c3_0, c3_1, f3_0, f3_1⟩ := ((((I12.out).drop).drop).drop).at
                            go_wp2
                            go_ret
                            exact ⟨rfl, I12.out.1⟩
                        · have T2 : ((p1.o : Int) == (p2.o : Int)) = false := by simp; omega
                          clear t0 t1 t2
                          go_wp2_with fail
                          refine (H5.out [(b8, .int .i64 p2.x, .int .i64 p2.y), (b7, .int .i64 p1.x, .int .i64 p1.y), (b0, .int .i64 (cI : Int), .int .i64 (cJ : Int)), (W.heap.size, .int .i64 x, .int .i64 y)] _ ?_).mono ?_
                          · repeat' (first | exact I11.out | with_reducible refine Inv.alloc ?_ _)
                          rintro r w12 ⟨rfl, hI⟩
                          have I12 := Lib.hid hI
                          clear hI
                          clear c0_0 c0_1 f0_0 f0_1 l0 c1_0 c1_1 f1_0 f1_1 l1 c2_0 c2_1 f2_0 f2_1 l2 c3_0 c3_1 f3_0 f3_1 l3
                          have l0 := ((I12.out).at).lt
                          obtain ⟨c0_0, c0_1, f0_0, f0_1⟩ := (I12.out).at
                          have l1 := (((I12.out).drop).at).lt
                          obtain ⟨c1_0, c1_1, f1_0, f1_1⟩ := ((I12.out).drop).at
                          have l2 := ((((I12.out).drop).drop).at).lt
                          obtain ⟨c2_0, c2_1, f2_0, f2_1⟩ := (((I12.out).drop).drop).at
                          have l3 := (((((I12.out).drop).drop).drop).at).lt
                          obtain ⟨c3_0, c3_1, f3_0, f3_1⟩ := ((((I12.out).drop).drop).drop).at
                          go_wp2
                          go_ret
                          exact ⟨rfl, I12.out.1⟩
                      · have T1 : ((d2 : Int) == (J : Int)) = false := by simp; omega
                        clear t0 t1
                        go_wp2_with fail
                        refine (H5.out [(b8, .int .i64 p2.x, .int .i64 p2.y), (b7, .int .i64 p1.x, .int .i64 p1.y), (b0, .int .i64 (cI : Int), .int .i64 (cJ : Int)), (W.heap.size, .int .i64 x, .int .i64 y)] _ ?_).mono ?_
                        · repeat' (first | exact I11.out | with_reducible refine Inv.alloc ?_ _)
                        rintro r w12 ⟨rfl, hI⟩
                        have I12 := Lib.hid hI
                        clear hI
                        clear c0_0 c0_1 f0_0 f0_1 l0 c1_0 c1_1 f1_0 f1_1 l1 c2_0 c2_1 f2_0 f2_1 l2 c3_0 c3_1 f3_0 f3_1 l3
                        have l0 := ((I12.out).at).lt
                        obtain ⟨c0_0, c0_1, f0_0, f0_1⟩ := (I12.out).at
                        have l1 := (((I12.out).drop).at).lt
                        obtain ⟨c1_0, c1_1, f1_0, f1_1⟩ := ((I12.out).drop).at
                        have l2 := ((((I12.out).drop).drop).at).lt
                        obtain ⟨c2_0, c2_1, f2_0, f2_1⟩ := (((I12.out).drop).drop).at
                        have l3 := (((((I12.out).drop).drop).drop).at).lt
                        obtain ⟨c3_0, c3_1, f3_0, f3_1⟩ := ((((I12.out).drop).drop).drop).at
                        go_wp2
                        go_ret
                        exact ⟨rfl, I12.out.1⟩
                    · have T0 : ((d1 : Int) == (I : Int)) = false := by simp; omega
                      clear t0
                      go_wp2_with fail
                      refine (H5.out [(b8, .int .i64 p2.x, .int .i64 p2.y), (b7, .int .i64 p1.x, .int .i64 p1.y), (b0, .int .i64 (cI : Int), .int .i64 (cJ : Int)), (W.heap.size, .int .i64 x, .int .i64 y)] _ ?_).mono ?_
                      · repeat' (first | exact I11.out | with_reducible refine Inv.alloc ?_ _)
                      rintro r w12 ⟨rfl, hI⟩
                      have I12 := Lib.hid hI
                      clear hI
                      clear c0_0 c0_1 f0_0 f0_1 l0 c1_0 c1_1 f1_0 f1_1 l1 c2_0 c2_1 f2_0 f2_1 l2 c3_0 c3_1 f3_0 f3_1 l3
                      have l0 := ((I12.out).at).lt
                      obtain ⟨c0_0, c0_1, f0_0, f0_1⟩ := (I12.out).at
                      have l1 := (((I12.out).drop).at).lt
                      obtain ⟨c1_0, c1_1, f1_0, f1_1⟩ := ((I12.out).drop).at
                      have l2 := ((((I12.out).drop).drop).at).lt
                      obtain ⟨c2_0, c2_1, f2_0, f2_1⟩ := (((I12.out).drop).drop).at
                      have l3 := (((((I12.out).drop).drop).drop).at).lt
                      obtain ⟨c3_0, c3_1, f3_0, f3_1⟩ := ((((I12.out).drop).drop).drop).at
                      go_wp2
                      go_ret
                      exact ⟨rfl, I12.out.1⟩
                  · skip
                    by_cases t0 : d1 = I
                    · have T0 : ((d1 : Int) == (I : Int)) = true := by simp [t0]
                      by_cases t1 : d2 = J
                      · have T1 : ((d2 : Int) == (J : Int)) = true := by simp [t1]
                        by_cases t2 : p1.o = p2.o
                        · have T2 : ((p1.o : Int) == (p2.o : Int)) = true := by simp [t2]
                          by_cases t3 : p1.x = p2.x ∧ p1.y = p2.y
                          · have hcj := HSs.out t0 t1 t2 t3.1 t3.2
                            exact absurd hcj.1 (by simp)
                          · have he2 := fun w => eql_arr p1.x p1.y p2.x p2.y w
                            have hb4 : ((p1.x : Int) == (p2.x : Int) && (p1.y : Int) == (p2.y : Int)) = false := by simp; omega
                            simp only [hb4] at he2
                            clear hb4 t0 t1 t2 t3
                            go_wp2_with fail
                            refine (H5.out [(b8, .int .i64 p2.x, .int .i64 p2.y), (b7, .int .i64 p1.x, .int .i64 p1.y), (b0, .int .i64 (cI : Int), .int .i64 (cJ : Int)), (W.heap.size, .int .i64 x, .int .i64 y)] _ ?_).mono ?_
                            · repeat' (first | exact I11.out | with_reducible refine Inv.alloc ?_ _)
                            rintro r w12 ⟨rfl, hI⟩
                            have I12 := Lib.hid hI
                            clear hI
                            clear c0_0 c0_1 f0_0 f0_1 l0 c1_0 c1_1 f1_0 f1_1 l1 c2_0 c2_1 f2_0 f2_1 l2 c3_0 c3_1 f3_0 f3_1 l3
                            have l0 := ((I12.out).at).lt
                            obtain ⟨c0_0, c0_1, f0_0, f0_1⟩ := (I12.out).at
                            have l1 := (((I12.out).drop).at).lt
                            obtain ⟨c1_0, c1_1, f1_0, f1_1⟩ := ((I12.out).drop).at
                            have l2 := ((((I12.out).drop).drop).at).lt
                            obtain ⟨c2_0, c2_1, f2_0, f2_1⟩ := (((I12.out).drop).drop).at
                            have l3 := (((((I12.out).drop).drop).drop).at).lt
                            obtain ⟨c3_0, c3_1, f3_0, f3_1⟩ := ((((I12.out).drop).drop).drop).at
                            go_wp2
                            go_ret
                            exact ⟨rfl, I12.out.1⟩
                        · have T2 : ((p1.o : Int) == (p2.o : Int)) = false := by simp; omega
                          clear t0 t1 t2
                          go_wp2_with fail
                          refine (H5.out [(b8, .int .i64 p2.x, .int .i64 p2.y), (b7, .int .i64 p1.x, .int .i64 p1.y), (b0, .int .i64 (cI : Int), .int .i64 (cJ : Int)), (W.heap.size, .int .i64 x, .int .i64 y)] _ ?_).mono ?_
                          · repeat' (first | exact I11.out | with_reducible refine Inv.alloc ?_ _)
                          rintro r w12 ⟨rfl, hI⟩
                          have I12 := Lib.hid hI
                          clear hI
                          clear c0_0 c0_1 f0_0 f0_1 l0 c1_0 c1_1 f1_0 f1_1 l1 c2_0 c2_1 f2_0 f2_1 l2 c3_0 c3_1 f3_0 f3_1 l3
                          have l0 := ((I12.out).at).lt
                          obtain ⟨c0_0, c0_1, f0_0, f0_1⟩ := (I12.out).at
                          have l1 := (((I12.out).drop).at).lt
                          obtain ⟨c1_0, c1_1, f1_0, f1_1⟩ := ((I12.out).drop).at
                          have l2 := ((((I12.out).drop).drop).at).lt
                          obtain ⟨c2_0, c2_1, f2_0, f2_1⟩ := (((I12.out).drop).drop).at
                          have l3 := (((((I12.out).drop).drop).drop).at).lt
                          obtain ⟨c3_0, c3_1, f3_0, f3_1⟩ := ((((I12.out).drop).drop).drop).at
                          go_wp2
                          go_ret
                          exact ⟨rfl, I12.out.1⟩
                      · have T1 : ((d2 : Int) == (J : Int)) = false := by simp; omega
                        clear t0 t1
                        go_wp2_with fail
                        refine (H5.out [(b8, .int .i64 p2.x, .int .i64 p2.y), (b7, .int .i64 p1.x, .int .i64 p1.y), (b0, .int .i64 (cI : Int), .int .i64 (cJ : Int)), (W.heap.size, .int .i64 x, .int .i64 y)] _ ?_).mono ?_
                        · repeat' (first | exact I11.out | with_reducible refine Inv.alloc ?_ _)
                        rintro r w12 ⟨rfl, hI⟩
                        have I12 := Lib.hid hI
                        clear hI
                        clear c0_0 c0_1 f0_0 f0_1 l0 c1_0 c1_1 f1_0 f1_1 l1 c2_0 c2_1 f2_0 f2_1 l2 c3_0 c3_1 f3_0 f3_1 l3
                        have l0 := ((I12.out).at).lt
                        obtain ⟨c0_0, c0_1, f0_0, f0_1⟩ := (I12.out).at
                        have l1 := (((I12.out).drop).at).lt
                        obtain ⟨c1_0, c1_1, f1_0, f1_1⟩ := ((I12.out).drop).at
                        have l2 := ((((I12.out).drop).drop).at).lt
                        obtain ⟨c2_0, c2_1, f2_0, f2_1⟩ := (((I12.out).drop).drop).at
                        have l3 := (((((I12.out).drop).drop).drop).at).lt
                        obtain ⟨c3_0, c3_1, f3_0, f3_1⟩ := ((((I12.out).drop).drop).drop).at
                        go_wp2
                        go_ret
                        exact ⟨rfl, I12.out.1⟩
                    · have T0 : ((d1 : Int) == (I : Int)) = false := by simp; omega
                      clear t0
                      go_wp2_with fail
                      refine (H5.out [(b8, .int .i64 p2.x, .int .i64 p2.y), (b7, .int .i64 p1.x, .int .i64 p1.y), (b0, .int .i64 (cI : Int), .int .i64 (cJ : Int)), (W.heap.size, .int .i64 x, .int .i64 y)] _ ?_).mono ?_
                      · repeat' (first | exact I11.out | with_reducible refine Inv.alloc ?_ _)
                      rintro r w12 ⟨rfl, hI⟩
                      have I12 := Lib.hid hI
                      clear hI
                      clear c0_0 c0_1 f0_0 f0_1 l0 c1_0 c1_1 f1_0 f1_1 l1 c2_0 c2_1 f2_0 f2_1 l2 c3_0 c3_1 f3_0 f3_1 l3
                      have l0 := ((I12.out).at).lt
                      obtain ⟨c0_0, c0_1, f0_0, f0_1⟩ := (I12.out).at
                      have l1 := (((I12.out).drop).at).lt
                      obtain ⟨c1_0, c1_1, f1_0, f1_1⟩ := ((I12.out).drop).at
                      have l2 := ((((I12.out).drop).drop).at).lt
                      obtain ⟨c2_0, c2_1, f2_0, f2_1⟩ := (((I12.out).drop).drop).at
                      have l3 := (((((I12.out).drop).drop).drop).at).lt
                      obtain ⟨c3_0, c3_1, f3_0, f3_1⟩ := ((((I12.out).drop).drop).drop).at
                      go_wp2
                      go_ret
                      exact ⟨rfl, I12.out.1⟩
                · skip
                  go_wp2_with fail
                  have J9 := Lib.hid (Inv.drew IN8.out)
                  go_region_held3 (fun w' => w'.cell? ⟨b8, 0, none⟩ = some (.int .i64 p2.x) ∧ w'.cell? ⟨b8, 1, none⟩ = some (.int .i64 p2.y) ∧ w'.cell? ⟨b7, 0, none⟩ = some (.int .i64 p1.x) ∧ w'.cell? ⟨b7, 1, none⟩ = some (.int .i64 p1.y) ∧ w'.cell? ⟨b0, 0, none⟩ = some (.int .i64 (cI : Int)) ∧ w'.cell? ⟨b0, 1, none⟩ = some (.int .i64 (cJ : Int)) ∧ w'.cell? ⟨W.heap.size, 0, none⟩ = some (.int .i64 x) ∧ w'.cell? ⟨W.heap.size, 1, none⟩ = some (.int .i64 y))
                    (first
                        | (go_split_ands; exact HC11.out)
                        | (go_split_ands; exact HC10.out)
                        | go_keep)
                    ((first
                        | ((with_reducible refine (H1.out _ _ J9.out).mono ?_); rintro r w10 ⟨⟨a7, cap7, rfl, hO⟩, hI⟩; have HO := Lib.hid hO; clear hO; have I10 := Lib.hid hI; have HC10 := Lib.hid (And.intro ((I10.out).at.c0) (And.intro ((I10.out).at.c1) (And.intro (((I10.out).drop).at.c0) (And.intro (((I10.out).drop).at.c1) (And.intro ((((I10.out).drop).drop).at.c0) (And.intro ((((I10.out).drop).drop).at.c1) (And.intro (((((I10.out).drop).drop).drop).at.c0) (((((I10.out).drop).drop).drop).at.c1)))))))); clear hI)
                        | ((with_reducible refine (H11.out _ _ _ _ HO.out I10.out).mono ?_); rintro r w11 ⟨rfl, hI⟩; have I11 := Lib.hid hI; have HC11 := Lib.hid (And.intro ((I11.out).at.c0) (And.intro ((I11.out).at.c1) (And.intro (((I11.out).drop).at.c0) (And.intro (((I11.out).drop).at.c1) (And.intro ((((I11.out).drop).drop).at.c0) (And.intro ((((I11.out).drop).drop).at.c1) (And.intro (((((I11.out).drop).drop).drop).at.c0) (((((I11.out).drop).drop).drop).at.c1)))))))); clear hI)))
                  clear c0_0 c0_1 f0_0 f0_1 l0 c1_0 c1_1 f1_0 f1_1 l1 c2_0 c2_1 f2_0 f2_1 l2 c3_0 c3_1 f3_0 f3_1 l3
                  have l0 := ((I11.out).at).lt
                  obtain ⟨c0_0, c0_1, f0_0, f0_1⟩ := (I11.out).at
                  have l1 := (((I11.out).drop).at).lt
                  obtain ⟨c1_0, c1_1, f1_0, f1_1⟩ := ((I11.out).drop).at
                  have l2 := ((((I11.out).drop).drop).at).lt
                  obtain ⟨c2_0, c2_1, f2_0, f2_1⟩ := (((I11.out).drop).drop).at
                  have l3 := (((((I11.out).drop).drop).drop).at).lt
                  obtain ⟨c3_0, c3_1, f3_0, f3_1⟩ := ((((I11.out).drop).drop).drop).at
                  obtain ⟨r1, r2, r3, r4⟩ := HYs.out (by simp)
                  have K5 : decide (d2 < J) = false := by simp; omega
                  have K6 : ((p1.o : Int) != (p2.o : Int)) = false := by simp [r1]
                  have K7 : decide (p2.x < p1.x) = false := by simp; omega
                  have K8 : decide (p2.y < p1.y) = false := by simp; omega
                  clear r1 r2 r3 r4
                  by_cases t0 : d1 = I
                  · have T0 : ((d1 : Int) == (I : Int)) = true := by simp [t0]
                    by_cases t1 : d2 = J
                    · have T1 : ((d2 : Int) == (J : Int)) = true := by simp [t1]
                      by_cases t2 : p1.o = p2.o
                      · have T2 : ((p1.o : Int) == (p2.o : Int)) = true := by simp [t2]
                        by_cases t3 : p1.x = p2.x ∧ p1.y = p2.y
                        · have hcj := (HSs.out t0 t1 t2 t3.1 t3.2).2
                          have KC : decide (cJ ≤ J) = true := by simp; omega
                          have KC2 : decide ((cJ : Int) ≤ (J : Int)) = true := by simp; omega
                          have he := fun w => eql_arr p1.x p1.y p2.x p2.y w
                          simp only [t3.1, t3.2, beq_self_eq_true, Bool.and_self] at he
                          have he2 := fun w => eql_arr p1.x p1.y p2.x p2.y w
                          have hb4 : ((p1.x : Int) == (p2.x : Int) && (p1.y : Int) == (p2.y : Int)) = true := by simp [t3.1, t3.2]
                          simp only [hb4] at he2
                          clear he hb4 t0 t1 t2 t3 hcj
                          go_wp2_with fail
                          refine (H5.out [(b8, .int .i64 p2.x, .int .i64 p2.y), (b7, .int .i64 p1.x, .int .i64 p1.y), (b0, .int .i64 (cI : Int), .int .i64 (cJ : Int)), (W.heap.size, .int .i64 x, .int .i64 y)] _ ?_).mono ?_
                          · repeat' (first | exact I11.out | with_reducible refine Inv.alloc ?_ _)
                          rintro r w12 ⟨rfl, hI⟩
                          have I12 := Lib.hid hI
                          clear hI
                          clear c0_0 c0_1 f0_0 f0_1 l0 c1_0 c1_1 f1_0 f1_1 l1 c2_0 c2_1 f2_0 f2_1 l2 c3_0 c3_1 f3_0 f3_1 l3
                          have l0 := ((I12.out).at).lt
                          obtain ⟨c0_0, c0_1, f0_0, f0_1⟩ := (I12.out).at
                          have l1 := (((I12.out).drop).at).lt
                          obtain ⟨c1_0, c1_1, f1_0, f1_1⟩ := ((I12.out).drop).at
                          have l2 := ((((I12.out).drop).drop).at).lt
                          obtain ⟨c2_0, c2_1, f2_0, f2_1⟩ := (((I12.out).drop).drop).at
                          have l3 := (((((I12.out).drop).drop).drop).at).lt
                          obtain ⟨c3_0, c3_1, f3_0, f3_1⟩ := ((((I12.out).drop).drop).drop).at
                          go_wp2
                          go_ret
                          exact ⟨rfl, I12.out.1⟩
                        · have he2 := fun w => eql_arr p1.x p1.y p2.x p2.y w
                          have hb4 : ((p1.x : Int) == (p2.x : Int) && (p1.y : Int) == (p2.y : Int)) = false := by simp; omega
                          simp only [hb4] at he2
                          clear hb4 t0 t1 t2 t3
                          go_wp2_with fail
                          refine (H5.out [(b8, .int .i64 p2.x, .int .i64 p2.y), (b7, .int .i64 p1.x, .int .i64 p1.y), (b0, .int .i64 (cI : Int), .int .i64 (cJ : Int)), (W.heap.size, .int .i64 x, .int .i64 y)] _ ?_).mono ?_
                          · repeat' (first | exact I11.out | with_reducible refine Inv.alloc ?_ _)
                          rintro r w12 ⟨rfl, hI⟩
                          have I12 := Lib.hid hI
                          clear hI
                          clear c0_0 c0_1 f0_0 f0_1 l0 c1_0 c1_1 f1_0 f1_1 l1 c2_0 c2_1 f2_0 f2_1 l2 c3_0 c3_1 f3_0 f3_1 l3
                          have l0 := ((I12.out).at).lt
                          obtain ⟨c0_0, c0_1, f0_0, f0_1⟩ := (I12.out).at
                          have l1 := (((I12.out).drop).at).lt
                          obtain ⟨c1_0, c1_1, f1_0, f1_1⟩ := ((I12.out).drop).at
                          have l2 := ((((I12.out).drop).drop).at).lt
                          obtain ⟨c2_0, c2_1, f2_0, f2_1⟩ := (((I12.out).drop).drop).at
                          have l3 := (((((I12.out).drop).drop).drop).at).lt
                          obtain ⟨c3_0, c3_1, f3_0, f3_1⟩ := ((((I12.out).drop).drop).drop).at
                          go_wp2
                          go_ret
                          exact ⟨rfl, I12.out.1⟩
                      · have T2 : ((p1.o : Int) == (p2.o : Int)) = false := by simp; omega
                        clear t0 t1 t2
                        go_wp2_with fail
                        refine (H5.out [(b8, .int .i64 p2.x, .int .i64 p2.y), (b7, .int .i64 p1.x, .int .i64 p1.y), (b0, .int .i64 (cI : Int), .int .i64 (cJ : Int)), (W.heap.size, .int .i64 x, .int .i64 y)] _ ?_).mono ?_
                        · repeat' (first | exact I11.out | with_reducible refine Inv.alloc ?_ _)
                        rintro r w12 ⟨rfl, hI⟩
                        have I12 := Lib.hid hI
                        clear hI
                        clear c0_0 c0_1 f0_0 f0_1 l0 c1_0 c1_1 f1_0 f1_1 l1 c2_0 c2_1 f2_0 f2_1 l2 c3_0 c3_1 f3_0 f3_1 l3
                        have l0 := ((I12.out).at).lt
                        obtain ⟨c0_0, c0_1, f0_0, f0_1⟩ := (I12.out).at
                        have l1 := (((I12.out).drop).at).lt
                        obtain ⟨c1_0, c1_1, f1_0, f1_1⟩ := ((I12.out).drop).at
                        have l2 := ((((I12.out).drop).drop).at).lt
                        obtain ⟨c2_0, c2_1, f2_0, f2_1⟩ := (((I12.out).drop).drop).at
                        have l3 := (((((I12.out).drop).drop).drop).at).lt
                        obtain ⟨c3_0, c3_1, f3_0, f3_1⟩ := ((((I12.out).drop).drop).drop).at
                        go_wp2
                        go_ret
                        exact ⟨rfl, I12.out.1⟩
                    · have T1 : ((d2 : Int) == (J : Int)) = false := by simp; omega
                      clear t0 t1
                      go_wp2_with fail
                      refine (H5.out [(b8, .int .i64 p2.x, .int .i64 p2.y), (b7, .int .i64 p1.x, .int .i64 p1.y), (b0, .int .i64 (cI : Int), .int .i64 (cJ : Int)), (W.heap.size, .int .i64 x, .int .i64 y)] _ ?_).mono ?_
                      · repeat' (first | exact I11.out | with_reducible refine Inv.alloc ?_ _)
                      rintro r w12 ⟨rfl, hI⟩
                      have I12 := Lib.hid hI
                      clear hI
                      clear c0_0 c0_1 f0_0 f0_1 l0 c1_0 c1_1 f1_0 f1_1 l1 c2_0 c2_1 f2_0 f2_1 l2 c3_0 c3_1 f3_0 f3_1 l3
                      have l0 := ((I12.out).at).lt
                      obtain ⟨c0_0, c0_1, f0_0, f0_1⟩ := (I12.out).at
                      have l1 := (((I12.out).drop).at).lt
                      obtain ⟨c1_0, c1_1, f1_0, f1_1⟩ := ((I12.out).drop).at
                      have l2 := ((((I12.out).drop).drop).at).lt
                      obtain ⟨c2_0, c2_1, f2_0, f2_1⟩ := (((I12.out).drop).drop).at
                      have l3 := (((((I12.out).drop).drop).drop).at).lt
                      obtain ⟨c3_0, c3_1, f3_0, f3_1⟩ := ((((I12.out).drop).drop).drop).at
                      go_wp2
                      go_ret
                      exact ⟨rfl, I12.out.1⟩
                  · have T0 : ((d1 : Int) == (I : Int)) = false := by simp; omega
                    clear t0
                    go_wp2_with fail
                    refine (H5.out [(b8, .int .i64 p2.x, .int .i64 p2.y), (b7, .int .i64 p1.x, .int .i64 p1.y), (b0, .int .i64 (cI : Int), .int .i64 (cJ : Int)), (W.heap.size, .int .i64 x, .int .i64 y)] _ ?_).mono ?_
                    · repeat' (first | exact I11.out | with_reducible refine Inv.alloc ?_ _)
                    rintro r w12 ⟨rfl, hI⟩
                    have I12 := Lib.hid hI
                    clear hI
                    clear c0_0 c0_1 f0_0 f0_1 l0 c1_0 c1_1 f1_0 f1_1 l1 c2_0 c2_1 f2_0 f2_1 l2 c3_0 c3_1 f3_0 f3_1 l3
                    have l0 := ((I12.out).at).lt
                    obtain ⟨c0_0, c0_1, f0_0, f0_1⟩ := (I12.out).at
                    have l1 := (((I12.out).drop).at).lt
                    obtain ⟨c1_0, c1_1, f1_0, f1_1⟩ := ((I12.out).drop).at
                    have l2 := ((((I12.out).drop).drop).at).lt
                    obtain ⟨c2_0, c2_1, f2_0, f2_1⟩ := (((I12.out).drop).drop).at
                    have l3 := (((((I12.out).drop).drop).drop).at).lt
                    obtain ⟨c3_0, c3_1, f3_0, f3_1⟩ := ((((I12.out).drop).drop).drop).at
                    go_wp2
                    go_ret
                    exact ⟨rfl, I12.out.1⟩
      · have KL : decide ((J : Int) ≤ (I : Int)) = true := by simp; omega
        have KL2 : decide (J ≤ I) = true := by simp; omega
        go_wp2_with fail
        refine (H5.out [(b0, .int .i64 (cI : Int), .int .i64 (cJ : Int)), (W.heap.size, .int .i64 x, .int .i64 y)] _ ?_).mono ?_
        · repeat' (first | exact I7.out | with_reducible refine Inv.alloc ?_ _)
        rintro r w8 ⟨rfl, hI⟩
        have I8 := Lib.hid hI
        clear hI
        clear c0_0 c0_1 f0_0 f0_1 l0 c1_0 c1_1 f1_0 f1_1 l1
        have l0 := ((I8.out).at).lt
        obtain ⟨c0_0, c0_1, f0_0, f0_1⟩ := (I8.out).at
        have l1 := (((I8.out).drop).at).lt
        obtain ⟨c1_0, c1_1, f1_0, f1_1⟩ := ((I8.out).drop).at
        go_wp2
        go_ret
        exact ⟨rfl, I8.out.1⟩

end Go.Proofs.Ytiegingpmcloeaa
