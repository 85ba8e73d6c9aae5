import Derived.Test.YtiegingpmcloeaaL2
import Derived.Test.YtiegingpmcloeaaB3
namespace Go.Proofs.Ytiegingpmcloeaa
open Go.RowKit

theorem eql_arr (a b a' b' : Int) (w : World) : (binOp .eql 23 (.agg #[.int .i64 a, .int .i64 b]) (.agg #[.int .i64 a', .int .i64 b'])).run Try.prog w = .ok (.bool (a == a' && b == b')) w := by
  have h := neq_arr a b a' b' w
  simp only [binOp] at h ⊢
  simp only [Op.equal, Op.maxDepth, Sem.run_bind] at h ⊢
  generalize ((Op.equalIn 10000 23 (.agg #[.int .i64 a, .int .i64 b]) (.agg #[.int .i64 a', .int .i64 b'])).run Try.prog w) = r at h ⊢
  cases r with
  | ok v w' =>
    simp only [Result.andThen_ok, Sem.run_pure, Result.ok.injEq, Value.bool.injEq, Bool.not_eq_eq_eq_not, Bool.not_not] at h ⊢
    exact h
  | halt x w' => simp [Result.andThen] at h
theorem i_rgo {W : World} {l : List (Nat × Value × Value)} {a : Option Addr} {n cap : Nat} {N : Nat → QN} (hN : okN n N) (x y m : Nat) (hx : x ≤ 100) (hy : y ≤ 100) (hm : m ≤ 1000) (w : World) (hM : Ords W a n (fun k => (N k).z)) (hI : Inv W l w) :
    Calls Try.prog 15 #[.slice a n cap, .agg #[.int .i64 x, .int .i64 y], .int .i64 m] w fun r w' =>
      r = .returned (.tuple #[.int .i64 (pl N ⟨0, x, y⟩ m).o, .agg #[.int .i64 (pl N ⟨0, x, y⟩ m).x, .int .i64 (pl N ⟨0, x, y⟩ m).y], .int .i64 (dn N ⟨0, x, y⟩ m)]) ∧ Inv W l w' :=
  (rgo_any N n cap a x y m w hN hx hy hm (hM.keep (Nat.le_refl _) hI.1)).mono fun _ _ ⟨h1, h2⟩ => ⟨h1, hI.call h2⟩

set_option maxHeartbeats 8000000 in
set_option maxRecDepth 100000 in
theorem goes_bad1 (W : World) (a : Option Addr) (n cap : Nat) (M : Nat → Q) (hn8 : n ≤ 140737488351232) (hM : Ords W a n M) (x y st : Int) (h : isM n M = false) :
    Calls Try.prog 3 #[.slice a n cap, .agg #[.int .i64 x, .int .i64 y], .int .i64 st] W fun e W' => SomeB true W e W' := by
  have H1 : Hid (∀ l w, Inv W l w → Calls Try.prog 11 #[.slice a n cap] w fun e w' => (∃ a' cap', e = .returned (.slice a' (min n 11) cap') ∧ Ords w' a' (min n 11) M) ∧ Inv W l w') := fun l w hI => i_of hn8 hM w hI
  have H2 : Hid (∀ l w a' cap', Ords w a' (min n 11) M → Inv W l w → Calls Try.prog 10 #[.slice a' (min n 11) cap', .agg #[.int .i64 x, .int .i64 y], .int .i64 st] w fun r w' => r = .returned (.tuple #[.int .i64 0, .agg #[.int .i64 0, .int .i64 0], .int .i64 0, .int .i64 2]) ∧ Inv W l w') :=
    fun l w a' cap' hO hI => i_go_bad (by omega) x y st (by rw [isM_min, h]; rfl) w hO hI
  have H3 : Hid (∀ l w, Inv W l w → Calls Try.prog 12 #[.slice a n cap] w fun e w' => e = .returned (.bool false) ∧ Inv W l w') := fun l w hI => i_machine hn8 hM false h w hI
  have H5 : Hid (∀ l w, Inv W l w → Calls Try.prog 14 #[] w fun e w' => e = .returned (.bool true) ∧ Inv W l w') := fun l w hI => i_awake w hI
  obtain ⟨W1, hW1⟩ : ∃ W1, W1 = W.alloc (.cells #[.int .i64 x, .int .i64 y] 23) := ⟨_, rfl⟩
  have I0 : Hid (Inv W [(W.heap.size, .int .i64 x, .int .i64 y)] W1) := by rw [hW1]; exact (Inv.refl W).new _ _ _
  have HW1 := Lib.hid hW1
  clear hW1
  have l0 := ((I0.out).at).lt
  obtain ⟨c0_0, c0_1, f0_0, f0_1⟩ := (I0.out).at
  clear hM h
  go_enter Try.func3, Try.ntmps3
  go_wp2_with fail
  rw [← HW1.out]
  have JA0 : Hid (Inv W [(W.heap.size, .int .i64 x, .int .i64 y)] W1.drew) := Inv.drew I0.out
  have JB0 : Hid (Inv W ((W1.heap.size, .int .i64 0, .int .i64 0) :: [(W.heap.size, .int .i64 x, .int .i64 y)]) (W1.drew.alloc (.cells #[.int .i64 0, .int .i64 0] 23))) := (Inv.drew I0.out).new _ _ _
  have JC0 : Hid (Inv W ((W1.heap.size, .int .i64 0, .int .i64 0) :: [(W.heap.size, .int .i64 x, .int .i64 y)]) (W1.alloc (.cells #[.int .i64 0, .int .i64 0] 23)).drew) := Inv.drew (I0.out.new _ _ _)
  have HCB0 := Lib.hid (And.intro ((JB0.out.2 (W.heap.size, .int .i64 x, .int .i64 y) (by simp)).c0) ((JB0.out.2 (W.heap.size, .int .i64 x, .int .i64 y) (by simp)).c1))
  have HCC0 := Lib.hid (And.intro ((JC0.out.2 (W.heap.size, .int .i64 x, .int .i64 y) (by simp)).c0) ((JC0.out.2 (W.heap.size, .int .i64 x, .int .i64 y) (by simp)).c1))
  go_cut [7, 8, 9, 10] (fun s7 s8 s9 s10 wc => s7 = .int .i64 0 ∧ (∃ b, s8 = .pointer (some ⟨b, 0, none⟩) ∧ NewBox W [(W.heap.size, .int .i64 x, .int .i64 y)] (.int .i64 0) (.int .i64 0) wc b) ∧ s9 = .int .i64 0 ∧ s10 = .int .i64 2)
  case first =>
    go_region_held3 (fun w' => w'.cell? ⟨W.heap.size, 0, none⟩ = some (.int .i64 x) ∧ w'.cell? ⟨W.heap.size, 1, none⟩ = some (.int .i64 y))
      (first
        | (go_split_ands; exact HCb.out)
        | (go_split_ands; exact HCa.out)
        | (go_split_ands; exact HCB0.out)
        | (go_split_ands; exact HCC0.out)
        | (have q2 := (NewBox.put IB.out I0.out.fresh.1 I0.out.fresh.2 (.int .i64 0) (.int .i64 0)).1; go_split_ands; exact And.intro ((q2.2 (W.heap.size, .int .i64 x, .int .i64 y) (by simp)).c0) ((q2.2 (W.heap.size, .int .i64 x, .int .i64 y) (by simp)).c1))
        | (have q2 := (NewBox.put IB.out IA.out.fresh.1 IA.out.fresh.2 (.int .i64 0) (.int .i64 0)).1; go_split_ands; exact And.intro ((q2.2 (W.heap.size, .int .i64 x, .int .i64 y) (by simp)).c0) ((q2.2 (W.heap.size, .int .i64 x, .int .i64 y) (by simp)).c1))
        | (have q2 := (NewBox.last IB.out (.int .i64 0) (.int .i64 0) 23).1; go_split_ands; exact And.intro ((q2.2 (W.heap.size, .int .i64 x, .int .i64 y) (by simp)).c0) ((q2.2 (W.heap.size, .int .i64 x, .int .i64 y) (by simp)).c1))
        | (have q2 := IB.out.new (.int .i64 0) (.int .i64 0) 23; go_split_ands; exact And.intro ((q2.2 (W.heap.size, .int .i64 x, .int .i64 y) (by simp)).c0) ((q2.2 (W.heap.size, .int .i64 x, .int .i64 y) (by simp)).c1))
        | (have q2 := IA.out.new (.int .i64 0) (.int .i64 0) 23; go_split_ands; exact And.intro ((q2.2 (W.heap.size, .int .i64 x, .int .i64 y) (by simp)).c0) ((q2.2 (W.heap.size, .int .i64 x, .int .i64 y) (by simp)).c1))
        | go_keep)
      ((first
        | ((first | with_reducible refine (H1.out _ _ JA0.out).mono ?_ | with_reducible refine (H1.out _ _ JB0.out).mono ?_ | with_reducible refine (H1.out _ _ JC0.out).mono ?_); rintro r vA ⟨⟨a1, cap1, rfl, hO⟩, hI⟩; have HO := Lib.hid hO; have IA := Lib.hid hI; have HCa := Lib.hid (And.intro ((hI.2 (W.heap.size, .int .i64 x, .int .i64 y) (by simp)).c0) ((hI.2 (W.heap.size, .int .i64 x, .int .i64 y) (by simp)).c1)); clear hO hI)
        | ((first | with_reducible refine (H2.out _ _ _ _ HO.out IA.out).mono ?_ | with_reducible refine (H2.out _ _ _ _ (HO.out.keep (Nat.le_refl _) (one_le _ _)) (IA.out.new (.int .i64 0) (.int .i64 0) 23)).mono ?_); rintro r vB ⟨rfl, hI⟩; have IB := Lib.hid hI; have HCb := Lib.hid (And.intro ((hI.2 (W.heap.size, .int .i64 x, .int .i64 y) (by simp)).c0) ((hI.2 (W.heap.size, .int .i64 x, .int .i64 y) (by simp)).c1)); obtain ⟨g0, g1, g2, g3⟩ := hI.at; have gl := hI.at.lt; clear hI)))
    all_goals
      go_wp2
      go_meet
    all_goals first
      | exact ⟨rfl, ⟨_, rfl, NewBox.last IB.out (.int .i64 0) (.int .i64 0) 23⟩, rfl, rfl⟩
      | exact ⟨rfl, ⟨_, rfl, NewBox.put IB.out I0.out.fresh.1 I0.out.fresh.2 (.int .i64 0) (.int .i64 0)⟩, rfl, rfl⟩
      | exact ⟨rfl, ⟨_, rfl, NewBox.put IB.out IA.out.fresh.1 IA.out.fresh.2 (.int .i64 0) (.int .i64 0)⟩, rfl, rfl⟩
  case rest =>
    obtain ⟨wc0, rfl⟩ : ∃ v, v = wc := ⟨_, rfl⟩
    obtain ⟨rfl, ⟨b0, rfl, hNew⟩, rfl, rfl⟩ := hcut
    have NB0 := Lib.hid hNew
    have IN0 := Lib.hid hNew.1
    clear hNew
    clear c0_0 c0_1 f0_0 f0_1 l0
    have l0 := ((IN0.out).at).lt
    obtain ⟨c0_0, c0_1, f0_0, f0_1⟩ := (IN0.out).at
    have l1 := (((IN0.out).drop).at).lt
    obtain ⟨c1_0, c1_1, f1_0, f1_1⟩ := ((IN0.out).drop).at
    have he := fun w => eql_arr 0 0 0 0 w
    simp only [beq_self_eq_true, Bool.and_self] at he
    clear H1 H2
    go_wp2_with fail
    refine (H3.out [(b0, .int .i64 0, .int .i64 0), (W.heap.size, .int .i64 x, .int .i64 y)] _ ?_).mono ?_
    · repeat' (first | exact IN0.out | with_reducible refine Inv.alloc ?_ _)
    rintro r w2 ⟨rfl, hI⟩
    have I2 := Lib.hid hI
    clear hI
    clear c0_0 c0_1 f0_0 f0_1 l0 c1_0 c1_1 f1_0 f1_1 l1
    have l0 := ((I2.out).at).lt
    obtain ⟨c0_0, c0_1, f0_0, f0_1⟩ := (I2.out).at
    have l1 := (((I2.out).drop).at).lt
    obtain ⟨c1_0, c1_1, f1_0, f1_1⟩ := ((I2.out).drop).at
    go_wp2_with fail
    refine (H5.out [(b0, .int .i64 0, .int .i64 0), (W.heap.size, .int .i64 x, .int .i64 y)] _ ?_).mono ?_
    · repeat' (first | exact I2.out | with_reducible refine Inv.alloc ?_ _)
    rintro r w3 ⟨rfl, hI⟩
    have I3 := Lib.hid hI
    clear hI
    clear c0_0 c0_1 f0_0 f0_1 l0 c1_0 c1_1 f1_0 f1_1 l1
    have l0 := ((I3.out).at).lt
    obtain ⟨c0_0, c0_1, f0_0, f0_1⟩ := (I3.out).at
    have l1 := (((I3.out).drop).at).lt
    obtain ⟨c1_0, c1_1, f1_0, f1_1⟩ := ((I3.out).drop).at
    go_wp2
    go_ret
    exact ⟨rfl, I3.out.1⟩

set_option maxHeartbeats 8000000 in
set_option maxRecDepth 100000 in
theorem goes_bad2 (W : World) (a : Option Addr) (n cap : Nat) (M : Nat → Q) (hn8 : n ≤ 140737488351232) (hM : Ords W a n M) (x y st : Int) (h : isM n M = true) (h2 : jB x y = false) :
    Calls Try.prog 3 #[.slice a n cap, .agg #[.int .i64 x, .int .i64 y], .int .i64 st] W fun e W' => SomeB true W e W' := by
  have H1 : Hid (∀ l w, Inv W l w → Calls Try.prog 11 #[.slice a n cap] w fun e w' => (∃ a' cap', e = .returned (.slice a' (min n 11) cap') ∧ Ords w' a' (min n 11) M) ∧ Inv W l w') := fun l w hI => i_of hn8 hM w hI
  have H2 : Hid (∀ l w a' cap', Ords w a' (min n 11) M → Inv W l w → Calls Try.prog 10 #[.slice a' (min n 11) cap', .agg #[.int .i64 x, .int .i64 y], .int .i64 st] w fun r w' => r = .returned (.tuple #[.int .i64 0, .agg #[.int .i64 0, .int .i64 0], .int .i64 0, .int .i64 2]) ∧ Inv W l w') :=
    fun l w a' cap' hO hI => i_go_bad (by omega) x y st (by rw [isM_min, h]; have hq := of_decide_eq_false h2; simp; omega) w hO hI
  have H3 : Hid (∀ l w, Inv W l w → Calls Try.prog 12 #[.slice a n cap] w fun e w' => e = .returned (.bool true) ∧ Inv W l w') := fun l w hI => i_machine hn8 hM true h w hI
  have H4 : Hid (∀ l w, Inv W l w → Calls Try.prog 13 #[.agg #[.int .i64 x, .int .i64 y]] w fun e w' => e = .returned (.bool false) ∧ Inv W l w') := fun l w hI => i_jars x y false h2 w hI
  have H5 : Hid (∀ l w, Inv W l w → Calls Try.prog 14 #[] w fun e w' => e = .returned (.bool true) ∧ Inv W l w') := fun l w hI => i_awake w hI
  obtain ⟨W1, hW1⟩ : ∃ W1, W1 = W.alloc (.cells #[.int .i64 x, .int .i64 y] 23) := ⟨_, rfl⟩
  have I0 : Hid (Inv W [(W.heap.size, .int .i64 x, .int .i64 y)] W1) := by rw [hW1]; exact (Inv.refl W).new _ _ _
  have HW1 := Lib.hid hW1
  clear hW1
  have l0 := ((I0.out).at).lt
  obtain ⟨c0_0, c0_1, f0_0, f0_1⟩ := (I0.out).at
  clear hM h h2
  go_enter Try.func3, Try.ntmps3
  go_wp2_with fail
  rw [← HW1.out]
  have JA0 : Hid (Inv W [(W.heap.size, .int .i64 x, .int .i64 y)] W1.drew) := Inv.drew I0.out
  have JB0 : Hid (Inv W ((W1.heap.size, .int .i64 0, .int .i64 0) :: [(W.heap.size, .int .i64 x, .int .i64 y)]) (W1.drew.alloc (.cells #[.int .i64 0, .int .i64 0] 23))) := (Inv.drew I0.out).new _ _ _
  have JC0 : Hid (Inv W ((W1.heap.size, .int .i64 0, .int .i64 0) :: [(W.heap.size, .int .i64 x, .int .i64 y)]) (W1.alloc (.cells #[.int .i64 0, .int .i64 0] 23)).drew) := Inv.drew (I0.out.new _ _ _)
  have HCB0 := Lib.hid (And.intro ((JB0.out.2 (W.heap.size, .int .i64 x, .int .i64 y) (by simp)).c0) ((JB0.out.2 (W.heap.size, .int .i64 x, .int .i64 y) (by simp)).c1))
  have HCC0 := Lib.hid (And.intro ((JC0.out.2 (W.heap.size, .int .i64 x, .int .i64 y) (by simp)).c0) ((JC0.out.2 (W.heap.size, .int .i64 x, .int .i64 y) (by simp)).c1))
  go_cut [7, 8, 9, 10] (fun s7 s8 s9 s10 wc => s7 = .int .i64 0 ∧ (∃ b, s8 = .pointer (some ⟨b, 0, none⟩) ∧ NewBox W [(W.heap.size, .int .i64 x, .int .i64 y)] (.int .i64 0) (.int .i64 0) wc b) ∧ s9 = .int .i64 0 ∧ s10 = .int .i64 2)
  case first =>
    go_region_held3 (fun w' => w'.cell? ⟨W.heap.size, 0, none⟩ = some (.int .i64 x) ∧ w'.cell? ⟨W.heap.size, 1, none⟩ = some (.int .i64 y))
      (first
        | (go_split_ands; exact HCb.out)
        | (go_split_ands; exact HCa.out)
        | (go_split_ands; exact HCB0.out)
        | (go_split_ands; exact HCC0.out)
        | (have q2 := (NewBox.put IB.out I0.out.fresh.1 I0.out.fresh.2 (.int .i64 0) (.int .i64 0)).1; go_split_ands; exact And.intro ((q2.2 (W.heap.size, .int .i64 x, .int .i64 y) (by simp)).c0) ((q2.2 (W.heap.size, .int .i64 x, .int .i64 y) (by simp)).c1))
        | (have q2 := (NewBox.put IB.out IA.out.fresh.1 IA.out.fresh.2 (.int .i64 0) (.int .i64 0)).1; go_split_ands; exact And.intro ((q2.2 (W.heap.size, .int .i64 x, .int .i64 y) (by simp)).c0) ((q2.2 (W.heap.size, .int .i64 x, .int .i64 y) (by simp)).c1))
        | (have q2 := (NewBox.last IB.out (.int .i64 0) (.int .i64 0) 23).1; go_split_ands; exact And.intro ((q2.2 (W.heap.size, .int .i64 x, .int .i64 y) (by simp)).c0) ((q2.2 (W.heap.size, .int .i64 x, .int .i64 y) (by simp)).c1))
        | (have q2 := IB.out.new (.int .i64 0) (.int .i64 0) 23; go_split_ands; exact And.intro ((q2.2 (W.heap.size, .int .i64 x, .int .i64 y) (by simp)).c0) ((q2.2 (W.heap.size, .int .i64 x, .int .i64 y) (by simp)).c1))
        | (have q2 := IA.out.new (.int .i64 0) (.int .i64 0) 23; go_split_ands; exact And.intro ((q2.2 (W.heap.size, .int .i64 x, .int .i64 y) (by simp)).c0) ((q2.2 (W.heap.size, .int .i64 x, .int .i64 y) (by simp)).c1))
        | go_keep)
      ((first
        | ((first | with_reducible refine (H1.out _ _ JA0.out).mono ?_ | with_reducible refine (H1.out _ _ JB0.out).mono ?_ | with_reducible refine (H1.out _ _ JC0.out).mono ?_); rintro r vA ⟨⟨a1, cap1, rfl, hO⟩, hI⟩; have HO := Lib.hid hO; have IA := Lib.hid hI; have HCa := Lib.hid (And.intro ((hI.2 (W.heap.size, .int .i64 x, .int .i64 y) (by simp)).c0) ((hI.2 (W.heap.size, .int .i64 x, .int .i64 y) (by simp)).c1)); clear hO hI)
        | ((first | with_reducible refine (H2.out _ _ _ _ HO.out IA.out).mono ?_ | with_reducible refine (H2.out _ _ _ _ (HO.out.keep (Nat.le_refl _) (one_le _ _)) (IA.out.new (.int .i64 0) (.int .i64 0) 23)).mono ?_); rintro r vB ⟨rfl, hI⟩; have IB := Lib.hid hI; have HCb := Lib.hid (And.intro ((hI.2 (W.heap.size, .int .i64 x, .int .i64 y) (by simp)).c0) ((hI.2 (W.heap.size, .int .i64 x, .int .i64 y) (by simp)).c1)); obtain ⟨g0, g1, g2, g3⟩ := hI.at; have gl := hI.at.lt; clear hI)))
    all_goals
      go_wp2
      go_meet
    all_goals first
      | exact ⟨rfl, ⟨_, rfl, NewBox.last IB.out (.int .i64 0) (.int .i64 0) 23⟩, rfl, rfl⟩
      | exact ⟨rfl, ⟨_, rfl, NewBox.put IB.out I0.out.fresh.1 I0.out.fresh.2 (.int .i64 0) (.int .i64 0)⟩, rfl, rfl⟩
      | exact ⟨rfl, ⟨_, rfl, NewBox.put IB.out IA.out.fresh.1 IA.out.fresh.2 (.int .i64 0) (.int .i64 0)⟩, rfl, rfl⟩
  case rest =>
    obtain ⟨wc0, rfl⟩ : ∃ v, v = wc := ⟨_, rfl⟩
    obtain ⟨rfl, ⟨b0, rfl, hNew⟩, rfl, rfl⟩ := hcut
    have NB0 := Lib.hid hNew
    have IN0 := Lib.hid hNew.1
    clear hNew
    clear c0_0 c0_1 f0_0 f0_1 l0
    have l0 := ((IN0.out).at).lt
    obtain ⟨c0_0, c0_1, f0_0, f0_1⟩ := (IN0.out).at
    have l1 := (((IN0.out).drop).at).lt
    obtain ⟨c1_0, c1_1, f1_0, f1_1⟩ := ((IN0.out).drop).at
    have he := fun w => eql_arr 0 0 0 0 w
    simp only [beq_self_eq_true, Bool.and_self] at he
    clear H1 H2
    go_wp2_with fail
    refine (H3.out [(b0, .int .i64 0, .int .i64 0), (W.heap.size, .int .i64 x, .int .i64 y)] _ ?_).mono ?_
    · repeat' (first | exact IN0.out | with_reducible refine Inv.alloc ?_ _)
    rintro r w2 ⟨rfl, hI⟩
    have I2 := Lib.hid hI
    clear hI
    clear c0_0 c0_1 f0_0 f0_1 l0 c1_0 c1_1 f1_0 f1_1 l1
    have l0 := ((I2.out).at).lt
    obtain ⟨c0_0, c0_1, f0_0, f0_1⟩ := (I2.out).at
    have l1 := (((I2.out).drop).at).lt
    obtain ⟨c1_0, c1_1, f1_0, f1_1⟩ := ((I2.out).drop).at
    go_wp2_with fail
    refine (H4.out [(b0, .int .i64 0, .int .i64 0), (W.heap.size, .int .i64 x, .int .i64 y)] _ ?_).mono ?_
    · repeat' (first | exact I2.out | with_reducible refine Inv.alloc ?_ _)
    rintro r w3 ⟨rfl, hI⟩
    have I3 := Lib.hid hI
    clear hI
    clear c0_0 c0_1 f0_0 f0_1 l0 c1_0 c1_1 f1_0 f1_1 l1
    have l0 := ((I3.out).at).lt
    obtain ⟨c0_0, c0_1, f0_0, f0_1⟩ := (I3.out).at
    have l1 := (((I3.out).drop).at).lt
    obtain ⟨c1_0, c1_1, f1_0, f1_1⟩ := ((I3.out).drop).at
    go_wp2_with fail
    refine (H5.out [(b0, .int .i64 0, .int .i64 0), (W.heap.size, .int .i64 x, .int .i64 y)] _ ?_).mono ?_
    · repeat' (first | exact I3.out | with_reducible refine Inv.alloc ?_ _)
    rintro r w4 ⟨rfl, hI⟩
    have I4 := Lib.hid hI
    clear hI
    clear c0_0 c0_1 f0_0 f0_1 l0 c1_0 c1_1 f1_0 f1_1 l1
    have l0 := ((I4.out).at).lt
    obtain ⟨c0_0, c0_1, f0_0, f0_1⟩ := (I4.out).at
    have l1 := (((I4.out).drop).at).lt
    obtain ⟨c1_0, c1_1, f1_0, f1_1⟩ := ((I4.out).drop).at
    go_wp2
    go_ret
    exact ⟨rfl, I4.out.1⟩

set_option maxHeartbeats 8000000 in
set_option maxRecDepth 100000 in
theorem goes_bad3 (W : World) (a : Option Addr) (n cap : Nat) (M : Nat → Q) (hn8 : n ≤ 140737488351232) (hM : Ords W a n M) (x y st : Int) (h : isM n M = true) (h2 : jB x y = true) (h3 : st < 0) :
    Calls Try.prog 3 #[.slice a n cap, .agg #[.int .i64 x, .int .i64 y], .int .i64 st] W fun e W' => SomeB true W e W' := by
  have H1 : Hid (∀ l w, Inv W l w → Calls Try.prog 11 #[.slice a n cap] w fun e w' => (∃ a' cap', e = .returned (.slice a' (min n 11) cap') ∧ Ords w' a' (min n 11) M) ∧ Inv W l w') := fun l w hI => i_of hn8 hM w hI
  have H2 : Hid (∀ l w a' cap', Ords w a' (min n 11) M → Inv W l w → Calls Try.prog 10 #[.slice a' (min n 11) cap', .agg #[.int .i64 x, .int .i64 y], .int .i64 st] w fun r w' => r = .returned (.tuple #[.int .i64 0, .agg #[.int .i64 0, .int .i64 0], .int .i64 0, .int .i64 2]) ∧ Inv W l w') :=
    fun l w a' cap' hO hI => i_go_off (by omega) x y st (by rw [isM_min, h]; have hq := of_decide_eq_true h2; simp; omega) (by omega) w hO hI
  have H3 : Hid (∀ l w, Inv W l w → Calls Try.prog 12 #[.slice a n cap] w fun e w' => e = .returned (.bool true) ∧ Inv W l w') := fun l w hI => i_machine hn8 hM true h w hI
  have H4 : Hid (∀ l w, Inv W l w → Calls Try.prog 13 #[.agg #[.int .i64 x, .int .i64 y]] w fun e w' => e = .returned (.bool true) ∧ Inv W l w') := fun l w hI => i_jars x y true h2 w hI
  have H5 : Hid (∀ l w, Inv W l w → Calls Try.prog 14 #[] w fun e w' => e = .returned (.bool true) ∧ Inv W l w') := fun l w hI => i_awake w hI
  obtain ⟨W1, hW1⟩ : ∃ W1, W1 = W.alloc (.cells #[.int .i64 x, .int .i64 y] 23) := ⟨_, rfl⟩
  have I0 : Hid (Inv W [(W.heap.size, .int .i64 x, .int .i64 y)] W1) := by rw [hW1]; exact (Inv.refl W).new _ _ _
  have HW1 := Lib.hid hW1
  clear hW1
  have l0 := ((I0.out).at).lt
  obtain ⟨c0_0, c0_1, f0_0, f0_1⟩ := (I0.out).at
  clear hM h h2
  go_enter Try.func3, Try.ntmps3
  go_wp2_with fail
  rw [← HW1.out]
  have JA0 : Hid (Inv W [(W.heap.size, .int .i64 x, .int .i64 y)] W1.drew) := Inv.drew I0.out
  have JB0 : Hid (Inv W ((W1.heap.size, .int .i64 0, .int .i64 0) :: [(W.heap.size, .int .i64 x, .int .i64 y)]) (W1.drew.alloc (.cells #[.int .i64 0, .int .i64 0] 23))) := (Inv.drew I0.out).new _ _ _
  have JC0 : Hid (Inv W ((W1.heap.size, .int .i64 0, .int .i64 0) :: [(W.heap.size, .int .i64 x, .int .i64 y)]) (W1.alloc (.cells #[.int .i64 0, .int .i64 0] 23)).drew) := Inv.drew (I0.out.new _ _ _)
  have HCB0 := Lib.hid (And.intro ((JB0.out.2 (W.heap.size, .int .i64 x, .int .i64 y) (by simp)).c0) ((JB0.out.2 (W.heap.size, .int .i64 x, .int .i64 y) (by simp)).c1))
  have HCC0 := Lib.hid (And.intro ((JC0.out.2 (W.heap.size, .int .i64 x, .int .i64 y) (by simp)).c0) ((JC0.out.2 (W.heap.size, .int .i64 x, .int .i64 y) (by simp)).c1))
  go_cut [7, 8, 9, 10] (fun s7 s8 s9 s10 wc => s7 = .int .i64 0 ∧ (∃ b, s8 = .pointer (some ⟨b, 0, none⟩) ∧ NewBox W [(W.heap.size, .int .i64 x, .int .i64 y)] (.int .i64 0) (.int .i64 0) wc b) ∧ s9 = .int .i64 0 ∧ s10 = .int .i64 2)
  case first =>
    go_region_held3 (fun w' => w'.cell? ⟨W.heap.size, 0, none⟩ = some (.int .i64 x) ∧ w'.cell? ⟨W.heap.size, 1, none⟩ = some (.int .i64 y))
      (first
        | (go_split_ands; exact HCb.out)
        | (go_split_ands; exact HCa.out)
        | (go_split_ands; exact HCB0.out)
        | (go_split_ands; exact HCC0.out)
        | (have q2 := (NewBox.put IB.out I0.out.fresh.1 I0.out.fresh.2 (.int .i64 0) (.int .i64 0)).1; go_split_ands; exact And.intro ((q2.2 (W.heap.size, .int .i64 x, .int .i64 y) (by simp)).c0) ((q2.2 (W.heap.size, .int .i64 x, .int .i64 y) (by simp)).c1))
        | (have q2 := (NewBox.put IB.out IA.out.fresh.1 IA.out.fresh.2 (.int .i64 0) (.int .i64 0)).1; go_split_ands; exact And.intro ((q2.2 (W.heap.size, .int .i64 x, .int .i64 y) (by simp)).c0) ((q2.2 (W.heap.size, .int .i64 x, .int .i64 y) (by simp)).c1))
        | (have q2 := (NewBox.last IB.out (.int .i64 0) (.int .i64 0) 23).1; go_split_ands; exact And.intro ((q2.2 (W.heap.size, .int .i64 x, .int .i64 y) (by simp)).c0) ((q2.2 (W.heap.size, .int .i64 x, .int .i64 y) (by simp)).c1))
        | (have q2 := IB.out.new (.int .i64 0) (.int .i64 0) 23; go_split_ands; exact And.intro ((q2.2 (W.heap.size, .int .i64 x, .int .i64 y) (by simp)).c0) ((q2.2 (W.heap.size, .int .i64 x, .int .i64 y) (by simp)).c1))
        | (have q2 := IA.out.new (.int .i64 0) (.int .i64 0) 23; go_split_ands; exact And.intro ((q2.2 (W.heap.size, .int .i64 x, .int .i64 y) (by simp)).c0) ((q2.2 (W.heap.size, .int .i64 x, .int .i64 y) (by simp)).c1))
        | go_keep)
      ((first
        | ((first | with_reducible refine (H1.out _ _ JA0.out).mono ?_ | with_reducible refine (H1.out _ _ JB0.out).mono ?_ | with_reducible refine (H1.out _ _ JC0.out).mono ?_); rintro r vA ⟨⟨a1, cap1, rfl, hO⟩, hI⟩; have HO := Lib.hid hO; have IA := Lib.hid hI; have HCa := Lib.hid (And.intro ((hI.2 (W.heap.size, .int .i64 x, .int .i64 y) (by simp)).c0) ((hI.2 (W.heap.size, .int .i64 x, .int .i64 y) (by simp)).c1)); clear hO hI)
        | ((first | with_reducible refine (H2.out _ _ _ _ HO.out IA.out).mono ?_ | with_reducible refine (H2.out _ _ _ _ (HO.out.keep (Nat.le_refl _) (one_le _ _)) (IA.out.new (.int .i64 0) (.int .i64 0) 23)).mono ?_); rintro r vB ⟨rfl, hI⟩; have IB := Lib.hid hI; have HCb := Lib.hid (And.intro ((hI.2 (W.heap.size, .int .i64 x, .int .i64 y) (by simp)).c0) ((hI.2 (W.heap.size, .int .i64 x, .int .i64 y) (by simp)).c1)); obtain ⟨g0, g1, g2, g3⟩ := hI.at; have gl := hI.at.lt; clear hI)))
    all_goals
      go_wp2
      go_meet
    all_goals first
      | exact ⟨rfl, ⟨_, rfl, NewBox.last IB.out (.int .i64 0) (.int .i64 0) 23⟩, rfl, rfl⟩
      | exact ⟨rfl, ⟨_, rfl, NewBox.put IB.out I0.out.fresh.1 I0.out.fresh.2 (.int .i64 0) (.int .i64 0)⟩, rfl, rfl⟩
      | exact ⟨rfl, ⟨_, rfl, NewBox.put IB.out IA.out.fresh.1 IA.out.fresh.2 (.int .i64 0) (.int .i64 0)⟩, rfl, rfl⟩
  case rest =>
    obtain ⟨wc0, rfl⟩ : ∃ v, v = wc := ⟨_, rfl⟩
    obtain ⟨rfl, ⟨b0, rfl, hNew⟩, rfl, rfl⟩ := hcut
    have NB0 := Lib.hid hNew
    have IN0 := Lib.hid hNew.1
    clear hNew
    clear c0_0 c0_1 f0_0 f0_1 l0
    have l0 := ((IN0.out).at).lt
    obtain ⟨c0_0, c0_1, f0_0, f0_1⟩ := (IN0.out).at
    have l1 := (((IN0.out).drop).at).lt
    obtain ⟨c1_0, c1_1, f1_0, f1_1⟩ := ((IN0.out).drop).at
    have he := fun w => eql_arr 0 0 0 0 w
    simp only [beq_self_eq_true, Bool.and_self] at he
    clear H1 H2
    go_wp2_with fail
    refine (H3.out [(b0, .int .i64 0, .int .i64 0), (W.heap.size, .int .i64 x, .int .i64 y)] _ ?_).mono ?_
    · repeat' (first | exact IN0.out | with_reducible refine Inv.alloc ?_ _)
    rintro r w2 ⟨rfl, hI⟩
    have I2 := Lib.hid hI
    clear hI
    clear c0_0 c0_1 f0_0 f0_1 l0 c1_0 c1_1 f1_0 f1_1 l1
    have l0 := ((I2.out).at).lt
    obtain ⟨c0_0, c0_1, f0_0, f0_1⟩ := (I2.out).at
    have l1 := (((I2.out).drop).at).lt
    obtain ⟨c1_0, c1_1, f1_0, f1_1⟩ := ((I2.out).drop).at
    go_wp2_with fail
    refine (H4.out [(b0, .int .i64 0, .int .i64 0), (W.heap.size, .int .i64 x, .int .i64 y)] _ ?_).mono ?_
    · repeat' (first | exact I2.out | with_reducible refine Inv.alloc ?_ _)
    rintro r w3 ⟨rfl, hI⟩
    have I3 := Lib.hid hI
    clear hI
    clear c0_0 c0_1 f0_0 f0_1 l0 c1_0 c1_1 f1_0 f1_1 l1
    have l0 := ((I3.out).at).lt
    obtain ⟨c0_0, c0_1, f0_0, f0_1⟩ := (I3.out).at
    have l1 := (((I3.out).drop).at).lt
    obtain ⟨c1_0, c1_1, f1_0, f1_1⟩ := ((I3.out).drop).at
    go_wp2_with fail
    refine (H5.out [(b0, .int .i64 0, .int .i64 0), (W.heap.size, .int .i64 x, .int .i64 y)] _ ?_).mono ?_
    · repeat' (first | exact I3.out | with_reducible refine Inv.alloc ?_ _)
    rintro r w4 ⟨rfl, hI⟩
    have I4 := Lib.hid hI
    clear hI
    clear c0_0 c0_1 f0_0 f0_1 l0 c1_0 c1_1 f1_0 f1_1 l1
    have l0 := ((I4.out).at).lt
    obtain ⟨c0_0, c0_1, f0_0, f0_1⟩ := (I4.out).at
    have l1 := (((I4.out).drop).at).lt
    obtain ⟨c1_0, c1_1, f1_0, f1_1⟩ := ((I4.out).drop).at
    go_wp2
    go_ret
    exact ⟨rfl, I4.out.1⟩

set_option maxHeartbeats 8000000 in
set_option maxRecDepth 100000 in
theorem goes_bad4 (W : World) (a : Option Addr) (n cap : Nat) (M : Nat → Q) (hn8 : n ≤ 140737488351232) (hM : Ords W a n M) (x y st : Int) (h : isM n M = true) (h2 : jB x y = true) (h3 : 1000 < st) (h4 : 0 ≤ st) :
    Calls Try.prog 3 #[.slice a n cap, .agg #[.int .i64 x, .int .i64 y], .int .i64 st] W fun e W' => SomeB true W e W' := by
  have H1 : Hid (∀ l w, Inv W l w → Calls Try.prog 11 #[.slice a n cap] w fun e w' => (∃ a' cap', e = .returned (.slice a' (min n 11) cap') ∧ Ords w' a' (min n 11) M) ∧ Inv W l w') := fun l w hI => i_of hn8 hM w hI
  have H2 : Hid (∀ l w a' cap', Ords w a' (min n 11) M → Inv W l w → Calls Try.prog 10 #[.slice a' (min n 11) cap', .agg #[.int .i64 x, .int .i64 y], .int .i64 st] w fun r w' => r = .returned (.tuple #[.int .i64 0, .agg #[.int .i64 0, .int .i64 0], .int .i64 0, .int .i64 2]) ∧ Inv W l w') :=
    fun l w a' cap' hO hI => i_go_off (by omega) x y st (by rw [isM_min, h]; have hq := of_decide_eq_true h2; simp; omega) (by omega) w hO hI
  have H3 : Hid (∀ l w, Inv W l w → Calls Try.prog 12 #[.slice a n cap] w fun e w' => e = .returned (.bool true) ∧ Inv W l w') := fun l w hI => i_machine hn8 hM true h w hI
  have H4 : Hid (∀ l w, Inv W l w → Calls Try.prog 13 #[.agg #[.int .i64 x, .int .i64 y]] w fun e w' => e = .returned (.bool true) ∧ Inv W l w') := fun l w hI => i_jars x y true h2 w hI
  have H5 : Hid (∀ l w, Inv W l w → Calls Try.prog 14 #[] w fun e w' => e = .returned (.bool true) ∧ Inv W l w') := fun l w hI => i_awake w hI
  obtain ⟨W1, hW1⟩ : ∃ W1, W1 = W.alloc (.cells #[.int .i64 x, .int .i64 y] 23) := ⟨_, rfl⟩
  have I0 : Hid (Inv W [(W.heap.size, .int .i64 x, .int .i64 y)] W1) := by rw [hW1]; exact (Inv.refl W).new _ _ _
  have HW1 := Lib.hid hW1
  clear hW1
  have l0 := ((I0.out).at).lt
  obtain ⟨c0_0, c0_1, f0_0, f0_1⟩ := (I0.out).at
  clear hM h h2
  go_enter Try.func3, Try.ntmps3
  go_wp2_with fail
  rw [← HW1.out]
  have JA0 : Hid (Inv W [(W.heap.size, .int .i64 x, .int .i64 y)] W1.drew) := Inv.drew I0.out
  have JB0 : Hid (Inv W ((W1.heap.size, .int .i64 0, .int .i64 0) :: [(W.heap.size, .int .i64 x, .int .i64 y)]) (W1.drew.alloc (.cells #[.int .i64 0, .int .i64 0] 23))) := (Inv.drew I0.out).new _ _ _
  have JC0 : Hid (Inv W ((W1.heap.size, .int .i64 0, .int .i64 0) :: [(W.heap.size, .int .i64 x, .int .i64 y)]) (W1.alloc (.cells #[.int .i64 0, .int .i64 0] 23)).drew) := Inv.drew (I0.out.new _ _ _)
  have HCB0 := Lib.hid (And.intro ((JB0.out.2 (W.heap.size, .int .i64 x, .int .i64 y) (by simp)).c0) ((JB0.out.2 (W.heap.size, .int .i64 x, .int .i64 y) (by simp)).c1))
  have HCC0 := Lib.hid (And.intro ((JC0.out.2 (W.heap.size, .int .i64 x, .int .i64 y) (by simp)).c0) ((JC0.out.2 (W.heap.size, .int .i64 x, .int .i64 y) (by simp)).c1))
  go_cut [7, 8, 9, 10] (fun s7 s8 s9 s10 wc => s7 = .int .i64 0 ∧ (∃ b, s8 = .pointer (some ⟨b, 0, none⟩) ∧ NewBox W [(W.heap.size, .int .i64 x, .int .i64 y)] (.int .i64 0) (.int .i64 0) wc b) ∧ s9 = .int .i64 0 ∧ s10 = .int .i64 2)
  case first =>
    go_region_held3 (fun w' => w'.cell? ⟨W.heap.size, 0, none⟩ = some (.int .i64 x) ∧ w'.cell? ⟨W.heap.size, 1, none⟩ = some (.int .i64 y))
      (first
        | (go_split_ands; exact HCb.out)
        | (go_split_ands; exact HCa.out)
        | (go_split_ands; exact HCB0.out)
        | (go_split_ands; exact HCC0.out)
        | (have q2 := (NewBox.put IB.out I0.out.fresh.1 I0.out.fresh.2 (.int .i64 0) (.int .i64 0)).1; go_split_ands; exact And.intro ((q2.2 (W.heap.size, .int .i64 x, .int .i64 y) (by simp)).c0) ((q2.2 (W.heap.size, .int .i64 x, .int .i64 y) (by simp)).c1))
        | (have q2 := (NewBox.put IB.out IA.out.fresh.1 IA.out.fresh.2 (.int .i64 0) (.int .i64 0)).1; go_split_ands; exact And.intro ((q2.2 (W.heap.size, .int .i64 x, .int .i64 y) (by simp)).c0) ((q2.2 (W.heap.size, .int .i64 x, .int .i64 y) (by simp)).c1))
        | (have q2 := (NewBox.last IB.out (.int .i64 0) (.int .i64 0) 23).1; go_split_ands; exact And.intro ((q2.2 (W.heap.size, .int .i64 x, .int .i64 y) (by simp)).c0) ((q2.2 (W.heap.size, .int .i64 x, .int .i64 y) (by simp)).c1))
        | (have q2 := IB.out.new (.int .i64 0) (.int .i64 0) 23; go_split_ands; exact And.intro ((q2.2 (W.heap.size, .int .i64 x, .int .i64 y) (by simp)).c0) ((q2.2 (W.heap.size, .int .i64 x, .int .i64 y) (by simp)).c1))
        | (have q2 := IA.out.new (.int .i64 0) (.int .i64 0) 23; go_split_ands; exact And.intro ((q2.2 (W.heap.size, .int .i64 x, .int .i64 y) (by simp)).c0) ((q2.2 (W.heap.size, .int .i64 x, .int .i64 y) (by simp)).c1))
        | go_keep)
      ((first
        | ((first | with_reducible refine (H1.out _ _ JA0.out).mono ?_ | with_reducible refine (H1.out _ _ JB0.out).mono ?_ | with_reducible refine (H1.out _ _ JC0.out).mono ?_); rintro r vA ⟨⟨a1, cap1, rfl, hO⟩, hI⟩; have HO := Lib.hid hO; have IA := Lib.hid hI; have HCa := Lib.hid (And.intro ((hI.2 (W.heap.size, .int .i64 x, .int .i64 y) (by simp)).c0) ((hI.2 (W.heap.size, .int .i64 x, .int .i64 y) (by simp)).c1)); clear hO hI)
        | ((first | with_reducible refine (H2.out _ _ _ _ HO.out IA.out).mono ?_ | with_reducible refine (H2.out _ _ _ _ (HO.out.keep (Nat.le_refl _) (one_le _ _)) (IA.out.new (.int .i64 0) (.int .i64 0) 23)).mono ?_); rintro r vB ⟨rfl, hI⟩; have IB := Lib.hid hI; have HCb := Lib.hid (And.intro ((hI.2 (W.heap.size, .int .i64 x, .int .i64 y) (by simp)).c0) ((hI.2 (W.heap.size, .int .i64 x, .int .i64 y) (by simp)).c1)); obtain ⟨g0, g1, g2, g3⟩ := hI.at; have gl := hI.at.lt; clear hI)))
    all_goals
      go_wp2
      go_meet
    all_goals first
      | exact ⟨rfl, ⟨_, rfl, NewBox.last IB.out (.int .i64 0) (.int .i64 0) 23⟩, rfl, rfl⟩
      | exact ⟨rfl, ⟨_, rfl, NewBox.put IB.out I0.out.fresh.1 I0.out.fresh.2 (.int .i64 0) (.int .i64 0)⟩, rfl, rfl⟩
      | exact ⟨rfl, ⟨_, rfl, NewBox.put IB.out IA.out.fresh.1 IA.out.fresh.2 (.int .i64 0) (.int .i64 0)⟩, rfl, rfl⟩
  case rest =>
    obtain ⟨wc0, rfl⟩ : ∃ v, v = wc := ⟨_, rfl⟩
    obtain ⟨rfl, ⟨b0, rfl, hNew⟩, rfl, rfl⟩ := hcut
    have NB0 := Lib.hid hNew
    have IN0 := Lib.hid hNew.1
    clear hNew
    clear c0_0 c0_1 f0_0 f0_1 l0
    have l0 := ((IN0.out).at).lt
    obtain ⟨c0_0, c0_1, f0_0, f0_1⟩ := (IN0.out).at
    have l1 := (((IN0.out).drop).at).lt
    obtain ⟨c1_0, c1_1, f1_0, f1_1⟩ := ((IN0.out).drop).at
    have he := fun w => eql_arr 0 0 0 0 w
    simp only [beq_self_eq_true, Bool.and_self] at he
    clear H1 H2
    go_wp2_with fail
    refine (H3.out [(b0, .int .i64 0, .int .i64 0), (W.heap.size, .int .i64 x, .int .i64 y)] _ ?_).mono ?_
    · repeat' (first | exact IN0.out | with_reducible refine Inv.alloc ?_ _)
    rintro r w2 ⟨rfl, hI⟩
    have I2 := Lib.hid hI
    clear hI
    clear c0_0 c0_1 f0_0 f0_1 l0 c1_0 c1_1 f1_0 f1_1 l1
    have l0 := ((I2.out).at).lt
    obtain ⟨c0_0, c0_1, f0_0, f0_1⟩ := (I2.out).at
    have l1 := (((I2.out).drop).at).lt
    obtain ⟨c1_0, c1_1, f1_0, f1_1⟩ := ((I2.out).drop).at
    go_wp2_with fail
    refine (H4.out [(b0, .int .i64 0, .int .i64 0), (W.heap.size, .int .i64 x, .int .i64 y)] _ ?_).mono ?_
    · repeat' (first | exact I2.out | with_reducible refine Inv.alloc ?_ _)
    rintro r w3 ⟨rfl, hI⟩
    have I3 := Lib.hid hI
    clear hI
    clear c0_0 c0_1 f0_0 f0_1 l0 c1_0 c1_1 f1_0 f1_1 l1
    have l0 := ((I3.out).at).lt
    obtain ⟨c0_0, c0_1, f0_0, f0_1⟩ := (I3.out).at
    have l1 := (((I3.out).drop).at).lt
    obtain ⟨c1_0, c1_1, f1_0, f1_1⟩ := ((I3.out).drop).at
    go_wp2_with fail
    refine (H5.out [(b0, .int .i64 0, .int .i64 0), (W.heap.size, .int .i64 x, .int .i64 y)] _ ?_).mono ?_
    · repeat' (first | exact I3.out | with_reducible refine Inv.alloc ?_ _)
    rintro r w4 ⟨rfl, hI⟩
    have I4 := Lib.hid hI
    clear hI
    clear c0_0 c0_1 f0_0 f0_1 l0 c1_0 c1_1 f1_0 f1_1 l1
    have l0 := ((I4.out).at).lt
    obtain ⟨c0_0, c0_1, f0_0, f0_1⟩ := (I4.out).at
    have l1 := (((I4.out).drop).at).lt
    obtain ⟨c1_0, c1_1, f1_0, f1_1⟩ := ((I4.out).drop).at
    go_wp2
    go_ret
    exact ⟨rfl, I4.out.1⟩

end Go.Proofs.Ytiegingpmcloeaa
