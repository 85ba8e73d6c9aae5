import Derived.Test.YtiegingpmcloeaaL1
namespace Go.Proofs.Ytiegingpmcloeaa
open Go.RowKit


theorem u64_pos (j : Int) : 0 ≤ IntKind.u64.wrap j := by
  unfold IntKind.wrap
  simp [IntKind.signed, IntKind.bits]
  omega
theorem conv (m : Int) (h0 : 0 < m) (h1 : m ≤ 1000) (j : Int) : ∃ d : Nat, (d : Int) < m ∧ wrap64 ((IntKind.u64.wrap j).tmod m) = d := by
  have hp := u64_pos j
  generalize IntKind.u64.wrap j = u at *
  have e : u.tmod m = u % m := Int.tmod_eq_emod_of_nonneg hp
  have h2 := Int.emod_nonneg u (show m ≠ 0 by omega)
  have h3 := Int.emod_lt_of_pos u h0
  refine ⟨(u % m).toNat, by omega, ?_⟩
  rw [e, show ((u % m).toNat : Int) = u % m by omega]
  exact IntWalk.wrap64_in _ (by omega)

theorem neq_arr (a b a' b' : Int) (w : World) : (binOp .neq 23 (.agg #[.int .i64 a, .int .i64 b]) (.agg #[.int .i64 a', .int .i64 b'])).run Try.prog w = .ok (.bool (!(a == a' && b == b'))) w := by
  have u3 := Try.underlying3
  have a3 := Try.isAgg3
  have z3 := Try.sizeOf3
  have h : ∀ w, (Op.equalIn 10000 23 (.agg #[.int .i64 a, .int .i64 b]) (.agg #[.int .i64 a', .int .i64 b'])).run Try.prog w = .ok (a == a' && b == b') w := by
    intro w
    rw [show (10000 : Nat) = 9999 + 1 from rfl, Op.equalIn]
    simp only [Sem.run_bind, run_underlying Try.underlying23, Result.andThen_ok]
    simp only [Std.Legacy.Range.forIn_eq_forIn_range', Std.Legacy.Range.size, Nat.sub_zero, Nat.add_sub_cancel, Nat.div_one, List.range'_succ, List.range'_zero, List.forIn_cons, List.forIn_nil]
    go_simp
    by_cases h1 : a = a' <;> by_cases h2 : b = b' <;> simp [h1, h2]
  simp only [binOp]
  simp only [Op.equal, Op.maxDepth, Sem.run_bind, h, Result.andThen_ok, Sem.run_pure]

set_option maxHeartbeats 4000000 in
set_option maxRecDepth 100000 in
theorem more_good0 (W : World) (a : Option Addr) (n cap : Nat) (N : Nat → QN) (hn8 : n ≤ 140737488351232) (hM : Ords W a n (fun k => (N k).z)) (x y D S : Nat) (j mo st : Int) (hN : okN n N) (hx : x ≤ 100) (hy : y ≤ 100) (hD : D < 20) (hS : S < 60)
    (E1 : Hid (wrap64 ((IntKind.u64.wrap j).tmod 2) = 0)) (E2 : Hid (wrap64 ((IntKind.u64.wrap mo).tmod 20) = D)) (E3 : Hid (wrap64 ((IntKind.u64.wrap st).tmod 60) = S)) :
    Calls Try.prog 7 #[.slice a n cap, .agg #[.int .i64 x, .int .i64 y], .int .i64 j, .int .i64 mo, .int .i64 st] W fun e W' => SomeB true W e W' := by
  have I0 : Hid (Inv W [(W.heap.size, .int .i64 x, .int .i64 y)] (W.alloc (.cells #[.int .i64 x, .int .i64 y] 23))) := (Inv.refl W).new _ _ _
  have H1 := Lib.hid (fun w hI => i_machine (l := [(W.heap.size, .int .i64 x, .int .i64 y)]) (cap := cap) hn8 hM true (okN_isM hN) w hI)
  have H2 := Lib.hid (fun w hI => i_jars (W := W) (l := [(W.heap.size, .int .i64 x, .int .i64 y)]) x y true (by simp [jB]; omega) w hI)
  have HN := Lib.hid hN
  have HM := Lib.hid hM
  clear hN hM
  go_enter Try.func7, Try.ntmps7
  go_wp2_with fail
  refine (H1.out _ ?_).mono ?_
  · repeat' (first | exact I0.out | with_reducible refine Inv.alloc ?_ _)
  rintro r w1 ⟨rfl, hI⟩
  have I1 := Lib.hid hI
  clear hI
  have l0 := ((I1.out).at).lt
  obtain ⟨c0_0, c0_1, f0_0, f0_1⟩ := (I1.out).at
  go_wp2_with fail
  refine (H2.out _ ?_).mono ?_
  · repeat' (first | exact I1.out | with_reducible refine Inv.alloc ?_ _)
  rintro r w2 ⟨rfl, hI⟩
  have I2 := Lib.hid hI
  clear hI
  clear c0_0 c0_1 f0_0 f0_1 l0
  have l0 := ((I2.out).at).lt
  obtain ⟨c0_0, c0_1, f0_0, f0_1⟩ := (I2.out).at
  have I3 := Lib.hid (I2.out.new (.int .i64 ((x : Int) + D)) (.int .i64 y) 23)
  cases hJ : jB ((x : Int) + D) y
  · have H4 := Lib.hid (i_jars (W := W) (l := [(w2.heap.size, .int .i64 ((x : Int) + D), .int .i64 y), (W.heap.size, .int .i64 x, .int .i64 y)]) ((x : Int) + D) y false hJ _ I3.out)
    have H5 := Lib.hid (fun w hI => i_awake (W := W) (l := [(w2.heap.size, .int .i64 ((x : Int) + D), .int .i64 y), (W.heap.size, .int .i64 x, .int .i64 y)]) w hI)
    have e1 := E1.out
    have e2 := E2.out
    have e3 := E3.out
    clear hJ
    go_wp2_with fail
    refine H4.out.mono ?_
    rintro r w3 ⟨rfl, hI⟩
    have I4 := Lib.hid hI
    clear hI
    go_wp2_with fail
    refine (H5.out _ I4.out).mono ?_
    rintro r w4 ⟨rfl, hI⟩
    have I5 := Lib.hid hI
    clear hI
    go_wp2
    go_ret
    exact ⟨rfl, I5.out.1⟩
  have H4 := Lib.hid (i_jars (W := W) (l := [(w2.heap.size, .int .i64 ((x : Int) + D), .int .i64 y), (W.heap.size, .int .i64 x, .int .i64 y)]) ((x : Int) + D) y true hJ _ I3.out)
  have HJ := Lib.hid (of_decide_eq_true hJ)
  have es : wrap64 ((S : Int) + 1) = (S : Int) + 1 := IntWalk.wrap64_in _ (by omega)
  have hsD : (D : Int) < 20 := by omega
  clear hJ
  have e1 := E1.out
  have e2 := E2.out
  have e3 := E3.out
  go_wp2_with fail
  refine H4.out.mono ?_
  rintro r w3 ⟨rfl, hI⟩
  have I4 := Lib.hid hI
  clear hI
  go_wp2
  clear e1 e2 e3 es E1 E2 E3
  have HP := Lib.hid (fun k => pl_lt HN.out (show (⟨0, x, y⟩ : Pl).o < n from HN.out.pos) k)
  have HMo := Lib.hid (fun k => pl_more HN.out (show (⟨0, x, y⟩ : Pl).o < n from HN.out.pos) (a := D) (b := 0) k)
  have HLe := Lib.hid (fun k => pl_le (N := N) (s := ⟨0, x, y⟩) k)
  have H5 : Hid (∀ l w, Inv W l w → Calls Try.prog 11 #[.slice a n cap] w fun e w' => (∃ a' cap', e = .returned (.slice a' n cap') ∧ Ords w' a' n (fun k => (N k).z)) ∧ Inv W l w') := by
    intro l w hI
    have h := i_of (cap := cap) hn8 HM.out w hI
    rwa [Nat.min_eq_left (by have := HN.out.few; omega)] at h
  have H6 := Lib.hid (fun w hI => i_awake (W := W) (l := [(w2.heap.size, .int .i64 ((x : Int) + D), .int .i64 y), (W.heap.size, .int .i64 x, .int .i64 y)]) w hI)
  go_loopw [68] (fun i wr => ∃ k : Nat, k ≤ S + 1 ∧ i = .int .i64 k ∧ Inv W [(w2.heap.size, .int .i64 ((x : Int) + D), .int .i64 y), (W.heap.size, .int .i64 x, .int .i64 y)] wr ∧ Hid (∀ i, i < k → noB N (pl N ⟨0, x, y⟩ i) = true → (if (N (pl N ⟨0, x, y⟩ i).o).j = 0 then D else 0) = 0)) (fun i _ => S + 1 - (intOf i).toNat)
  case atStart => exact ⟨0, Nat.zero_le _, rfl, I4.out, fun i hi => absurd hi (Nat.not_lt_zero _)⟩
  case round =>
    obtain ⟨k, hk, rfl, hI, hfound⟩ := hrel
    have IR := Lib.hid hI
    clear hI
    have l0 := ((IR.out).at).lt
    obtain ⟨c0_0, c0_1, f0_0, f0_1⟩ := (IR.out).at
    have l1 := (((IR.out).drop).at).lt
    obtain ⟨c1_0, c1_1, f1_0, f1_1⟩ := ((IR.out).drop).at
    by_cases hlt : k < S + 1
    · have G1 : Hid (∀ l w a' cap', Ords w a' n (fun k => (N k).z) → Inv W l w → Calls Try.prog 10 #[.slice a' n cap', .agg #[.int .i64 x, .int .i64 y], .int .i64 k] w fun r w' => r = .returned (.tuple #[.int .i64 (pl N ⟨0, x, y⟩ k).o, .agg #[.int .i64 (pl N ⟨0, x, y⟩ k).x, .int .i64 (pl N ⟨0, x, y⟩ k).y], .int .i64 (dn N ⟨0, x, y⟩ k), .int .i64 0]) ∧ Inv W l w') :=
        fun l w a' cap' hO hI => i_go (cap := cap') HN.out x y k hx hy (by omega) w hO hI
      have hmo := HMo.out k hfound.out
      have G2 : Hid (∀ l w a' cap', Ords w a' n (fun k => (N k).z) → Inv W l w → Calls Try.prog 10 #[.slice a' n cap', .agg #[.int .i64 ((x : Int) + D), .int .i64 y], .int .i64 k] w fun r w' => r = .returned (.tuple #[.int .i64 (pl N ⟨0, x, y⟩ k).o, .agg #[.int .i64 (((pl N ⟨0, x, y⟩ k).x : Int) + D), .int .i64 ((pl N ⟨0, x, y⟩ k).y : Int)], .int .i64 (dn N ⟨0, x, y⟩ k), .int .i64 0]) ∧ Inv W l w') := by
        intro l w a' cap' hO hI
        have hj := HJ.out
        have h := i_go (cap := cap') HN.out (x + D) (y) k (by omega) (by omega) (by omega) w hO hI
        have e : (⟨0, x + D, y⟩ : Pl) = (⟨0, x, y⟩ : Pl).add D 0 := by simp [Pl.add]
        rw [e, hmo.1, hmo.2] at h
        simpa [Pl.add] using h
      have ho := HP.out k
      have hle := HLe.out k
      have HFs : Hid (¬ ((N (pl N ⟨0, x, y⟩ k).o).d = 2 ∧ (N (pl N ⟨0, x, y⟩ k).o).j = 0 ∧ (pl N ⟨0, x, y⟩ k).x = 0) → ∀ i, i < k + 1 → noB N (pl N ⟨0, x, y⟩ i) = true → (if (N (pl N ⟨0, x, y⟩ i).o).j = 0 then D else 0) = 0) := by
        intro hnf i hi hb
        by_cases e : i = k
        · subst e
          have hb' := of_decide_eq_true hb
          have hj := HN.out.j _ ho
          unfold Pl.jar at hb'
          split <;> rename_i hq
          · simp only [hq, if_true] at hb'; exact absurd ⟨hb'.1, hq, hb'.2⟩ hnf
          · rfl
        · exact hfound.out i (by omega) hb
      generalize dn N ⟨0, x, y⟩ k = dk at *
      clear hmo
      obtain ⟨pO, hpO⟩ : ∃ pO, pO = (pl N ⟨0, x, y⟩ k).o := ⟨_, rfl⟩
      obtain ⟨pX, hpX⟩ : ∃ pX, pX = (pl N ⟨0, x, y⟩ k).x := ⟨_, rfl⟩
      obtain ⟨pY, hpY⟩ : ∃ pY, pY = (pl N ⟨0, x, y⟩ k).y := ⟨_, rfl⟩
      rw [← hpO, ← hpX, ← hpY] at G1
      rw [← hpO, ← hpX, ← hpY] at G2
      rw [← hpO] at ho HFs
      rw [← hpX] at HFs
      rw [← hpX, ← hpY] at hle
      simp only at hle
      clear hpO hpX hpY
      go_wp2_with fail
      have JA10 : Hid (Inv W [(w2.heap.size, .int .i64 ((x : Int) + D), .int .i64 y), (W.heap.size, .int .i64 x, .int .i64 y)] wr.drew) := Inv.drew IR.out
      have JB10 : Hid (Inv W ((wr.heap.size, .int .i64 0, .int .i64 0) :: [(w2.heap.size, .int .i64 ((x : Int) + D), .int .i64 y), (W.heap.size, .int .i64 x, .int .i64 y)]) (wr.drew.alloc (.cells #[.int .i64 0, .int .i64 0] 23))) := (Inv.drew IR.out).new _ _ _
      have JC10 : Hid (Inv W ((wr.heap.size, .int .i64 0, .int .i64 0) :: [(w2.heap.size, .int .i64 ((x : Int) + D), .int .i64 y), (W.heap.size, .int .i64 x, .int .i64 y)]) (wr.alloc (.cells #[.int .i64 0, .int .i64 0] 23)).drew) := Inv.drew (IR.out.new _ _ _)
      have HCB10 := Lib.hid (And.intro ((JB10.out.2 (w2.heap.size, .int .i64 ((x : Int) + D), .int .i64 y) (by simp)).c0) (And.intro ((JB10.out.2 (w2.heap.size, .int .i64 ((x : Int) + D), .int .i64 y) (by simp)).c1) (And.intro ((JB10.out.2 (W.heap.size, .int .i64 x, .int .i64 y) (by simp)).c0) ((JB10.out.2 (W.heap.size, .int .i64 x, .int .i64 y) (by simp)).c1))))
      have HCC10 := Lib.hid (And.intro ((JC10.out.2 (w2.heap.size, .int .i64 ((x : Int) + D), .int .i64 y) (by simp)).c0) (And.intro ((JC10.out.2 (w2.heap.size, .int .i64 ((x : Int) + D), .int .i64 y) (by simp)).c1) (And.intro ((JC10.out.2 (W.heap.size, .int .i64 x, .int .i64 y) (by simp)).c0) ((JC10.out.2 (W.heap.size, .int .i64 x, .int .i64 y) (by simp)).c1))))
      go_cut [15, 16, 17, 18] (fun s15 s16 s17 s18 wc => s15 = .int .i64 pO ∧ (∃ b, s16 = .pointer (some ⟨b, 0, none⟩) ∧ NewBox W [(w2.heap.size, .int .i64 ((x : Int) + D), .int .i64 y), (W.heap.size, .int .i64 x, .int .i64 y)] (.int .i64 (pX : Int)) (.int .i64 (pY : Int)) wc b) ∧ s17 = .int .i64 dk ∧ s18 = .int .i64 0)
      case first =>
        go_region_held3 (fun w' => w'.cell? ⟨w2.heap.size, 0, none⟩ = some (.int .i64 ((x : Int) + D)) ∧ w'.cell? ⟨w2.heap.size, 1, none⟩ = some (.int .i64 y) ∧ w'.cell? ⟨W.heap.size, 0, none⟩ = some (.int .i64 x) ∧ w'.cell? ⟨W.heap.size, 1, none⟩ = some (.int .i64 y))
          (first
            | (go_split_ands; exact HCb.out)
            | (go_split_ands; exact HCa.out)
            | (go_split_ands; exact HCB10.out)
            | (go_split_ands; exact HCC10.out)
            | (have q2 := (NewBox.put IB.out IR.out.fresh.1 IR.out.fresh.2 (.int .i64 (pX : Int)) (.int .i64 (pY : Int))).1; go_split_ands; exact And.intro ((q2.2 (w2.heap.size, .int .i64 ((x : Int) + D), .int .i64 y) (by simp)).c0) (And.intro ((q2.2 (w2.heap.size, .int .i64 ((x : Int) + D), .int .i64 y) (by simp)).c1) (And.intro ((q2.2 (W.heap.size, .int .i64 x, .int .i64 y) (by simp)).c0) ((q2.2 (W.heap.size, .int .i64 x, .int .i64 y) (by simp)).c1))))
            | (have q2 := (NewBox.put IB.out IA.out.fresh.1 IA.out.fresh.2 (.int .i64 (pX : Int)) (.int .i64 (pY : Int))).1; go_split_ands; exact And.intro ((q2.2 (w2.heap.size, .int .i64 ((x : Int) + D), .int .i64 y) (by simp)).c0) (And.intro ((q2.2 (w2.heap.size, .int .i64 ((x : Int) + D), .int .i64 y) (by simp)).c1) (And.intro ((q2.2 (W.heap.size, .int .i64 x, .int .i64 y) (by simp)).c0) ((q2.2 (W.heap.size, .int .i64 x, .int .i64 y) (by simp)).c1))))
            | (have q2 := (NewBox.last IB.out (.int .i64 (pX : Int)) (.int .i64 (pY : Int)) 23).1; go_split_ands; exact And.intro ((q2.2 (w2.heap.size, .int .i64 ((x : Int) + D), .int .i64 y) (by simp)).c0) (And.intro ((q2.2 (w2.heap.size, .int .i64 ((x : Int) + D), .int .i64 y) (by simp)).c1) (And.intro ((q2.2 (W.heap.size, .int .i64 x, .int .i64 y) (by simp)).c0) ((q2.2 (W.heap.size, .int .i64 x, .int .i64 y) (by simp)).c1))))
            | (have q2 := IB.out.new (.int .i64 0) (.int .i64 0) 23; go_split_ands; exact And.intro ((q2.2 (w2.heap.size, .int .i64 ((x : Int) + D), .int .i64 y) (by simp)).c0) (And.intro ((q2.2 (w2.heap.size, .int .i64 ((x : Int) + D), .int .i64 y) (by simp)).c1) (And.intro ((q2.2 (W.heap.size, .int .i64 x, .int .i64 y) (by simp)).c0) ((q2.2 (W.heap.size, .int .i64 x, .int .i64 y) (by simp)).c1))))
            | (have q2 := IA.out.new (.int .i64 0) (.int .i64 0) 23; go_split_ands; exact And.intro ((q2.2 (w2.heap.size, .int .i64 ((x : Int) + D), .int .i64 y) (by simp)).c0) (And.intro ((q2.2 (w2.heap.size, .int .i64 ((x : Int) + D), .int .i64 y) (by simp)).c1) (And.intro ((q2.2 (W.heap.size, .int .i64 x, .int .i64 y) (by simp)).c0) ((q2.2 (W.heap.size, .int .i64 x, .int .i64 y) (by simp)).c1))))
            | go_keep)
          ((first
            | ((first | with_reducible refine (H5.out _ _ JA10.out).mono ?_ | with_reducible refine (H5.out _ _ JB10.out).mono ?_ | with_reducible refine (H5.out _ _ JC10.out).mono ?_); rintro r vA ⟨⟨a1, cap1, rfl, hO⟩, hI⟩; have HO := Lib.hid hO; have IA := Lib.hid hI; have HCa := Lib.hid (And.intro ((hI.2 (w2.heap.size, .int .i64 ((x : Int) + D), .int .i64 y) (by simp)).c0) (And.intro ((hI.2 (w2.heap.size, .int .i64 ((x : Int) + D), .int .i64 y) (by simp)).c1) (And.intro ((hI.2 (W.heap.size, .int .i64 x, .int .i64 y) (by simp)).c0) ((hI.2 (W.heap.size, .int .i64 x, .int .i64 y) (by simp)).c1)))); clear hO hI)
            | ((first | with_reducible refine (G1.out _ _ _ _ HO.out IA.out).mono ?_ | with_reducible refine (G1.out _ _ _ _ (HO.out.keep (Nat.le_refl _) (one_le _ _)) (IA.out.new (.int .i64 0) (.int .i64 0) 23)).mono ?_); rintro r vB ⟨rfl, hI⟩; have IB := Lib.hid hI; have HCb := Lib.hid (And.intro ((hI.2 (w2.heap.size, .int .i64 ((x : Int) + D), .int .i64 y) (by simp)).c0) (And.intro ((hI.2 (w2.heap.size, .int .i64 ((x : Int) + D), .int .i64 y) (by simp)).c1) (And.intro ((hI.2 (W.heap.size, .int .i64 x, .int .i64 y) (by simp)).c0) ((hI.2 (W.heap.size, .int .i64 x, .int .i64 y) (by simp)).c1)))); obtain ⟨g0, g1, g2, g3⟩ := hI.at; have gl := hI.at.lt; clear hI)))
        all_goals
          go_wp2
          go_meet
        all_goals first
          | exact ⟨rfl, ⟨_, rfl, NewBox.last IB.out (.int .i64 (pX : Int)) (.int .i64 (pY : Int)) 23⟩, rfl, rfl⟩
          | exact ⟨rfl, ⟨_, rfl, NewBox.put IB.out IR.out.fresh.1 IR.out.fresh.2 (.int .i64 (pX : Int)) (.int .i64 (pY : Int))⟩, rfl, rfl⟩
          | exact ⟨rfl, ⟨_, rfl, NewBox.put IB.out IA.out.fresh.1 IA.out.fresh.2 (.int .i64 (pX : Int)) (.int .i64 (pY : Int))⟩, rfl, rfl⟩
      case rest =>
        obtain ⟨wc10, rfl⟩ : ∃ v, v = wc := ⟨_, rfl⟩
        obtain ⟨rfl, ⟨b10, rfl, hNew⟩, rfl, rfl⟩ := hcut
        have NB10 := Lib.hid hNew
        have IN10 := Lib.hid hNew.1
        clear hNew
        clear c0_0 c0_1 f0_0 f0_1 l0 c1_0 c1_1 f1_0 f1_1 l1
        have l0 := ((IN10.out).at).lt
        obtain ⟨c0_0, c0_1, f0_0, f0_1⟩ := (IN10.out).at
        have l1 := (((IN10.out).drop).at).lt
        obtain ⟨c1_0, c1_1, f1_0, f1_1⟩ := ((IN10.out).drop).at
        have l2 := ((((IN10.out).drop).drop).at).lt
        obtain ⟨c2_0, c2_1, f2_0, f2_1⟩ := (((IN10.out).drop).drop).at
        go_wp2_with fail
        have JA11 : Hid (Inv W [(b10, .int .i64 (pX : Int), .int .i64 (pY : Int)), (w2.heap.size, .int .i64 ((x : Int) + D), .int .i64 y), (W.heap.size, .int .i64 x, .int .i64 y)] wc10.drew) := Inv.drew IN10.out
        have JB11 : Hid (Inv W ((wc10.heap.size, .int .i64 0, .int .i64 0) :: [(b10, .int .i64 (pX : Int), .int .i64 (pY : Int)), (w2.heap.size, .int .i64 ((x : Int) + D), .int .i64 y), (W.heap.size, .int .i64 x, .int .i64 y)]) (wc10.drew.alloc (.cells #[.int .i64 0, .int .i64 0] 23))) := (Inv.drew IN10.out).new _ _ _
        have JC11 : Hid (Inv W ((wc10.heap.size, .int .i64 0, .int .i64 0) :: [(b10, .int .i64 (pX : Int), .int .i64 (pY : Int)), (w2.heap.size, .int .i64 ((x : Int) + D), .int .i64 y), (W.heap.size, .int .i64 x, .int .i64 y)]) (wc10.alloc (.cells #[.int .i64 0, .int .i64 0] 23)).drew) := Inv.drew (IN10.out.new _ _ _)
        have HCB11 := Lib.hid (And.intro ((JB11.out.2 (b10, .int .i64 (pX : Int), .int .i64 (pY : Int)) (by simp)).c0) (And.intro ((JB11.out.2 (b10, .int .i64 (pX : Int), .int .i64 (pY : Int)) (by simp)).c1) (And.intro ((JB11.out.2 (w2.heap.size, .int .i64 ((x : Int) + D), .int .i64 y) (by simp)).c0) (And.intro ((JB11.out.2 (w2.heap.size, .int .i64 ((x : Int) + D), .int .i64 y) (by simp)).c1) (And.intro ((JB11.out.2 (W.heap.size, .int .i64 x, .int .i64 y) (by simp)).c0) ((JB11.out.2 (W.heap.size, .int .i64 x, .int .i64 y) (by simp)).c1))))))
        have HCC11 := Lib.hid (And.intro ((JC11.out.2 (b10, .int .i64 (pX : Int), .int .i64 (pY : Int)) (by simp)).c0) (And.intro ((JC11.out.2 (b10, .int .i64 (pX : Int), .int .i64 (pY : Int)) (by simp)).c1) (And.intro ((JC11.out.2 (w2.heap.size, .int .i64 ((x : Int) + D), .int .i64 y) (by simp)).c0) (And.intro ((JC11.out.2 (w2.heap.size, .int .i64 ((x : Int) + D), .int .i64 y) (by simp)).c1) (And.intro ((JC11.out.2 (W.heap.size, .int .i64 x, .int .i64 y) (by simp)).c0) ((JC11.out.2 (W.heap.size, .int .i64 x, .int .i64 y) (by simp)).c1))))))
        go_cut [19, 20, 21, 22] (fun s19 s20 s21 s22 wc => s19 = .int .i64 pO ∧ (∃ b, s20 = .pointer (some ⟨b, 0, none⟩) ∧ NewBox W [(b10, .int .i64 (pX : Int), .int .i64 (pY : Int)), (w2.heap.size, .int .i64 ((x : Int) + D), .int .i64 y), (W.heap.size, .int .i64 x, .int .i64 y)] (.int .i64 ((pX : Int) + D)) (.int .i64 (pY : Int)) wc b) ∧ s21 = .int .i64 dk ∧ s22 = .int .i64 0)
        case first =>
          go_region_held3 (fun w' => w'.cell? ⟨b10, 0, none⟩ = some (.int .i64 (pX : Int)) ∧ w'.cell? ⟨b10, 1, none⟩ = some (.int .i64 (pY : Int)) ∧ w'.cell? ⟨w2.heap.size, 0, none⟩ = some (.int .i64 ((x : Int) + D)) ∧ w'.cell? ⟨w2.heap.size, 1, none⟩ = some (.int .i64 y) ∧ w'.cell? ⟨W.heap.size, 0, none⟩ = some (.int .i64 x) ∧ w'.cell? ⟨W.heap.size, 1, none⟩ = some (.int .i64 y))
            (first
              | (go_split_ands; exact HCb.out)
              | (go_split_ands; exact HCa.out)
              | (go_split_ands; exact HCB11.out)
              | (go_split_ands; exact HCC11.out)
              | (have q2 := (NewBox.put IB.out IN10.out.fresh.1 IN10.out.fresh.2 (.int .i64 ((pX : Int) + D)) (.int .i64 (pY : Int))).1; go_split_ands; exact And.intro ((q2.2 (b10, .int .i64 (pX : Int), .int .i64 (pY : Int)) (by simp)).c0) (And.intro ((q2.2 (b10, .int .i64 (pX : Int), .int .i64 (pY : Int)) (by simp)).c1) (And.intro ((q2.2 (w2.heap.size, .int .i64 ((x : Int) + D), .int .i64 y) (by simp)).c0) (And.intro ((q2.2 (w2.heap.size, .int .i64 ((x : Int) + D), .int .i64 y) (by simp)).c1) (And.intro ((q2.2 (W.heap.size, .int .i64 x, .int .i64 y) (by simp)).c0) ((q2.2 (W.heap.size, .int .i64 x, .int .i64 y) (by simp)).c1))))))
              | (have q2 := (NewBox.put IB.out IA.out.fresh.1 IA.out.fresh.2 (.int .i64 ((pX : Int) + D)) (.int .i64 (pY : Int))).1; go_split_ands; exact And.intro ((q2.2 (b10, .int .i64 (pX : Int), .int .i64 (pY : Int)) (by simp)).c0) (And.intro ((q2.2 (b10, .int .i64 (pX : Int), .int .i64 (pY : Int)) (by simp)).c1) (And.intro ((q2.2 (w2.heap.size, .int .i64 ((x : Int) + D), .int .i64 y) (by simp)).c0) (And.intro ((q2.2 (w2.heap.size, .int .i64 ((x : Int) + D), .int .i64 y) (by simp)).c1) (And.intro ((q2.2 (W.heap.size, .int .i64 x, .int .i64 y) (by simp)).c0) ((q2.2 (W.heap.size, .int .i64 x, .int .i64 y) (by simp)).c1))))))
              | (have q2 := (NewBox.last IB.out (.int .i64 ((pX : Int) + D)) (.int .i64 (pY : Int)) 23).1; go_split_ands; exact And.intro ((q2.2 (b10, .int .i64 (pX : Int), .int .i64 (pY : Int)) (by simp)).c0) (And.intro ((q2.2 (b10, .int .i64 (pX : Int), .int .i64 (pY : Int)) (by simp)).c1) (And.intro ((q2.2 (w2.heap.size, .int .i64 ((x : Int) + D), .int .i64 y) (by simp)).c0) (And.intro ((q2.2 (w2.heap.size, .int .i64 ((x : Int) + D), .int .i64 y) (by simp)).c1) (And.intro ((q2.2 (W.heap.size, .int .i64 x, .int .i64 y) (by simp)).c0) ((q2.2 (W.heap.size, .int .i64 x, .int .i64 y) (by simp)).c1))))))
              | (have q2 := IB.out.new (.int .i64 0) (.int .i64 0) 23; go_split_ands; exact And.intro ((q2.2 (b10, .int .i64 (pX : Int), .int .i64 (pY : Int)) (by simp)).c0) (And.intro ((q2.2 (b10, .int .i64 (pX : Int), .int .i64 (pY : Int)) (by simp)).c1) (And.intro ((q2.2 (w2.heap.size, .int .i64 ((x : Int) + D), .int .i64 y) (by simp)).c0) (And.intro ((q2.2 (w2.heap.size, .int .i64 ((x : Int) + D), .int .i64 y) (by simp)).c1) (And.intro ((q2.2 (W.heap.size, .int .i64 x, .int .i64 y) (by simp)).c0) ((q2.2 (W.heap.size, .int .i64 x, .int .i64 y) (by simp)).c1))))))
              | (have q2 := IA.out.new (.int .i64 0) (.int .i64 0) 23; go_split_ands; exact And.intro ((q2.2 (b10, .int .i64 (pX : Int), .int .i64 (pY : Int)) (by simp)).c0) (And.intro ((q2.2 (b10, .int .i64 (pX : Int), .int .i64 (pY : Int)) (by simp)).c1) (And.intro ((q2.2 (w2.heap.size, .int .i64 ((x : Int) + D), .int .i64 y) (by simp)).c0) (And.intro ((q2.2 (w2.heap.size, .int .i64 ((x : Int) + D), .int .i64 y) (by simp)).c1) (And.intro ((q2.2 (W.heap.size, .int .i64 x, .int .i64 y) (by simp)).c0) ((q2.2 (W.heap.size, .int .i64 x, .int .i64 y) (by simp)).c1))))))
              | go_keep)
            ((first
              | ((first | with_reducible refine (H5.out _ _ JA11.out).mono ?_ | with_reducible refine (H5.out _ _ JB11.out).mono ?_ | with_reducible refine (H5.out _ _ JC11.out).mono ?_); rintro r vA ⟨⟨a1, cap1, rfl, hO⟩, hI⟩; have HO := Lib.hid hO; have IA := Lib.hid hI; have HCa := Lib.hid (And.intro ((hI.2 (b10, .int .i64 (pX : Int), .int .i64 (pY : Int)) (by simp)).c0) (And.intro ((hI.2 (b10, .int .i64 (pX : Int), .int .i64 (pY : Int)) (by simp)).c1) (And.intro ((hI.2 (w2.heap.size, .int .i64 ((x : Int) + D), .int .i64 y) (by simp)).c0) (And.intro ((hI.2 (w2.heap.size, .int .i64 ((x : Int) + D), .int .i64 y) (by simp)).c1) (And.intro ((hI.2 (W.heap.size, .int .i64 x, .int .i64 y) (by simp)).c0) ((hI.2 (W.heap.size, .int .i64 x, .int .i64 y) (by simp)).c1)))))); clear hO hI)
              | ((first | with_reducible refine (G2.out _ _ _ _ HO.out IA.out).mono ?_ | with_reducible refine (G2.out _ _ _ _ (HO.out.keep (Nat.le_refl _) (one_le _ _)) (IA.out.new (.int .i64 0) (.int .i64 0) 23)).mono ?_); rintro r vB ⟨rfl, hI⟩; have IB := Lib.hid hI; have HCb := Lib.hid (And.intro ((hI.2 (b10, .int .i64 (pX : Int), .int .i64 (pY : Int)) (by simp)).c0) (And.intro ((hI.2 (b10, .int .i64 (pX : Int), .int .i64 (pY : Int)) (by simp)).c1) (And.intro ((hI.2 (w2.heap.size, .int .i64 ((x : Int) + D), .int .i64 y) (by simp)).c0) (And.intro ((hI.2 (w2.heap.size, .int .i64 ((x : Int) + D), .int .i64 y) (by simp)).c1) (And.intro ((hI.2 (W.heap.size, .int .i64 x, .int .i64 y) (by simp)).c0) ((hI.2 (W.heap.size, .int .i64 x, .int .i64 y) (by simp)).c1)))))); obtain ⟨g0, g1, g2, g3⟩ := hI.at; have gl := hI.at.lt; clear hI)))
          all_goals
            go_wp2
            go_meet
          all_goals first
            | exact ⟨rfl, ⟨_, rfl, NewBox.last IB.out (.int .i64 ((pX : Int) + D)) (.int .i64 (pY : Int)) 23⟩, rfl, rfl⟩
            | exact ⟨rfl, ⟨_, rfl, NewBox.put IB.out IN10.out.fresh.1 IN10.out.fresh.2 (.int .i64 ((pX : Int) + D)) (.int .i64 (pY : Int))⟩, rfl, rfl⟩
            | exact ⟨rfl, ⟨_, rfl, NewBox.put IB.out IA.out.fresh.1 IA.out.fresh.2 (.int .i64 ((pX : Int) + D)) (.int .i64 (pY : Int))⟩, rfl, rfl⟩
        case rest =>
          obtain ⟨wc11, rfl⟩ : ∃ v, v = wc := ⟨_, rfl⟩
          obtain ⟨rfl, ⟨b11, rfl, hNew⟩, rfl, rfl⟩ := hcut
          have NB11 := Lib.hid hNew
          have IN11 := Lib.hid hNew.1
          clear hNew
          clear c0_0 c0_1 f0_0 f0_1 l0 c1_0 c1_1 f1_0 f1_1 l1 c2_0 c2_1 f2_0 f2_1 l2
          have l0 := ((IN11.out).at).lt
          obtain ⟨c0_0, c0_1, f0_0, f0_1⟩ := (IN11.out).at
          have l1 := (((IN11.out).drop).at).lt
          obtain ⟨c1_0, c1_1, f1_0, f1_1⟩ := ((IN11.out).drop).at
          have l2 := ((((IN11.out).drop).drop).at).lt
          obtain ⟨c2_0, c2_1, f2_0, f2_1⟩ := (((IN11.out).drop).drop).at
          have l3 := (((((IN11.out).drop).drop).drop).at).lt
          obtain ⟨c3_0, c3_1, f3_0, f3_1⟩ := ((((IN11.out).drop).drop).drop).at
          obtain ⟨bm, om, rfl, m0, m1, m2, m3⟩ := (HM.out.keep (Nat.le_refl _) IN11.out.1).at ho
          have hm0 : bm < W.heap.size := by obtain ⟨b', o', hh, q0, _⟩ := HM.out.at ho; cases hh; exact World.block_lt_of_cell? _ _ q0
          have hb1 : W.heap.size ≤ b10 := NB10.out.2.1
          have hb2 : b11 ≠ b10 := NB11.out.2.2 (b10, .int .i64 (pX : Int), .int .i64 (pY : Int)) (by simp)
          have hb3 : b10 ≠ b11 := fun h => hb2 h.symm
          have hb4 : bm ≠ b10 := by omega
          have hb5 : b10 ≠ bm := by omega
          have he := fun w => neq_arr ((pX : Int) + D) (pY : Int) ((pX : Int) + D) (pY : Int) w
          simp only [beq_self_eq_true, Bool.and_self, Bool.not_true] at he
          have ho' : (pO : Int) < (n : Int) := by omega
          have HW := Lib.hid (fun v => Inv.setFar (l' := [(w2.heap.size, .int .i64 ((x : Int) + D), .int .i64 y), (W.heap.size, .int .i64 x, .int .i64 y)]) (j := 0) IN11.out hb1 (fun p hp => ⟨List.mem_cons_of_mem _ (List.mem_cons_of_mem _ hp), NB10.out.2.2 p hp⟩) v)
          clear G1 G2 H5
          by_cases d2 : (N pO).d = 2
          · have e0 : ((N pO).d : Int) = 2 := by omega
            rw [e0] at m0
            by_cases j2 : (N pO).j = 0
            · have e1 : ((N pO).j : Int) = 0 := by omega
              rw [e1] at m1
              by_cases x2 : pX = 0
              · have H7 := Lib.hid (fun w hI => i_awake (W := W) (l := []) w hI)
                have HBW := Lib.hid IN11.out.1
                subst x2
                have he0 := fun w => neq_arr (D : Int) (pY : Int) (D : Int) (pY : Int) w
                simp only [beq_self_eq_true, Bool.and_self, Bool.not_true] at he0
                clear e0 e1 d2 j2 he HW HFs
                go_wp2_with fail
                refine (H7.out _ ?_).mono ?_
                · exact ⟨by repeat' (first | exact HBW.out | with_reducible refine Below.setCell ?_ hb1 _), fun p hp => by cases hp⟩
                rintro r w9 ⟨rfl, hI⟩
                have I9 := Lib.hid hI
                clear hI
                go_wp2
                go_ret
                exact ⟨rfl, I9.out.1⟩
              · have K : (((pX : Int) + D) == (D : Int)) = false := by simp; omega
                have HX := Lib.hid x2
                clear e0 e1 d2 j2 x2
                go_wp2
                go_roundw
                case rel => exact ⟨k + 1, by omega, by go_num, HW.out _, HFs.out (fun h => HX.out h.2.2)⟩
                case measure => simp [intOf]; omega
            · have K : ¬ ((N pO).j : Int) = 0 := by omega
              have HX := Lib.hid j2
              clear e0 d2 j2
              go_wp2
              go_roundw
              case rel => exact ⟨k + 1, by omega, by go_num, HW.out _, HFs.out (fun h => HX.out h.2.1)⟩
              case measure => simp [intOf]; omega
          · have K : ¬ ((N pO).d : Int) = 2 := by omega
            have HX := Lib.hid d2
            clear d2
            go_wp2
            go_roundw
            case rel => exact ⟨k + 1, by omega, by go_num, HW.out _, HFs.out (fun h => HX.out h.1)⟩
            case measure => simp [intOf]; omega
    · have e : k = S + 1 := by omega
      subst e
      go_wp2_with fail
      refine (H6.out _ IR.out).mono ?_
      rintro r w9 ⟨rfl, hI⟩
      have I9 := Lib.hid hI
      clear hI
      go_wp2
      go_ret
      exact ⟨rfl, I9.out.1⟩

end Go.Proofs.Ytiegingpmcloeaa
