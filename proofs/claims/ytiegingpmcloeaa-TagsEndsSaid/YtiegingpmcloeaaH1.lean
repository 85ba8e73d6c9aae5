import Derived.Test.YtiegingpmcloeaaC4
import Derived.Test.YtiegingpmcloeaaG1
namespace Go.Proofs.Ytiegingpmcloeaa
open Go.RowKit

theorem least (p : Nat → Bool) : ∀ k, p k = true → ∃ i, i ≤ k ∧ p i = true ∧ ∀ i', i' < i → p i' = false := by
  intro k
  induction k using Nat.strongRecOn with
  | ind k ih =>
    intro hk
    by_cases h : ∃ i', i' < k ∧ p i' = true
    · obtain ⟨i', h1, h2⟩ := h
      obtain ⟨i, g1, g2, g3⟩ := ih i' h1 h2
      exact ⟨i, by omega, g2, g3⟩
    · refine ⟨k, Nat.le_refl _, hk, fun i' hi => ?_⟩
      cases e : p i'
      · rfl
      · exact absurd ⟨i', hi, e⟩ h
theorem findC_exists (N : Nat → QN) (s : Pl) : ∀ m, ∃ ci cj e, FindC N s m ci cj e
  | 0 => ⟨0, 0, 4, Or.inr ⟨rfl, rfl, rfl, fun j' hj => absurd hj (Nat.not_lt_zero _)⟩⟩
  | m + 1 => by
    obtain ⟨ci, cj, e, h⟩ := findC_exists N s m
    rcases h with ⟨rfl, i, j, h1, h2, h3, h4, h5⟩ | ⟨rfl, rfl, rfl, h4⟩
    · exact ⟨ci, cj, 0, Or.inl ⟨rfl, i, j, h1, h2, h3, by omega, h5⟩⟩
    · by_cases hx : ∃ i, i < m ∧ isC N s i m = true
      · obtain ⟨i0, g1, g2⟩ := hx
        obtain ⟨i, g3, g4, g5⟩ := least (fun i => isC N s i m) i0 g2
        exact ⟨i, m, 0, Or.inl ⟨rfl, i, m, rfl, rfl, by omega, Nat.lt_succ_self _, g4, h4, g5⟩⟩
      · refine ⟨0, 0, 4, Or.inr ⟨rfl, rfl, rfl, fun j' hj i' hi => ?_⟩⟩
        by_cases e : j' = m
        · subst e
          cases e2 : isC N s i' j'
          · rfl
          · exact absurd ⟨i', hi, e2⟩ hx
        · exact h4 j' (by omega) i' hi
theorem findC_unique {N : Nat → QN} {s : Pl} {m : Nat} {a b e a' b' e' : Int} (h : FindC N s m a b e) (h' : FindC N s m a' b' e') : a = a' ∧ b = b' ∧ e = e' := by
  rcases h with ⟨rfl, i, j, rfl, rfl, h3, h4, h5, h6, h7⟩ | ⟨rfl, rfl, rfl, h4⟩ <;> rcases h' with ⟨rfl, i', j', rfl, rfl, g3, g4, g5, g6, g7⟩ | ⟨rfl, rfl, rfl, g4⟩
  · have ej : j = j' := by
      by_cases c1 : j < j'
      · rw [g6 j c1 i h3] at h5; cases h5
      · by_cases c2 : j' < j
        · rw [h6 j' c2 i' g3] at g5; cases g5
        · omega
    subst ej
    have ei : i = i' := by
      by_cases c1 : i < i'
      · rw [g7 i c1] at h5; cases h5
      · by_cases c2 : i' < i
        · rw [h7 i' c2] at g5; cases g5
        · omega
    subst ei
    exact ⟨rfl, rfl, rfl⟩
  · rw [g4 j h4 i h3] at h5; cases h5
  · rw [h4 j' g4 i' g3] at g5; cases g5
  · exact ⟨rfl, rfl, rfl⟩

theorem dn_mono {N : Nat → QN} {s : Pl} {k m : Nat} (h : k ≤ m) : dn N s k ≤ dn N s m := by
  induction m with
  | zero => rw [show k = 0 by omega]; exact Nat.le_refl _
  | succ m ih =>
    by_cases e : k = m + 1
    · rw [e]; exact Nat.le_refl _
    · have h1 := ih (by omega)
      have h2 := dn_le (N := N) (s := s) m
      simp only [dn]
      split <;> omega
/-- So many steps were done: none of the places before is an end. -/
theorem dn_before {N : Nat → QN} {s : Pl} : ∀ m k, k < dn N s m → isEnd N (pl N s k) = false
  | 0, k, h => absurd h (Nat.not_lt_zero _)
  | m + 1, k, h => by
    cases e : isEnd N (pl N s m)
    · simp only [dn, e, Bool.false_eq_true, if_false] at h
      cases e2 : isEnd N (pl N s k)
      · rfl
      · have := (pl_at e2 (show k ≤ m by omega)).1
        rw [this, e2] at e; cases e
    · simp only [dn, e, if_true] at h
      exact dn_before m k h

theorem i_circle {W : World} {l : List (Nat × Value × Value)} {a : Option Addr} {n cap : Nat} {N : Nat → QN} (hN : okN n N) (x y : Nat) (hx : x ≤ 100) (hy : y ≤ 100) (ci cj e : Int) (hF : FindC N ⟨0, x, y⟩ (dn N ⟨0, x, y⟩ 200 + 1) ci cj e) (w : World) (hM : Ords w a n (fun k => (N k).z)) (hI : Inv W l w) :
    Calls Try.prog 17 #[.slice a n cap, .agg #[.int .i64 x, .int .i64 y]] w fun r w' => r = .returned (.tuple #[.agg #[.int .i64 ci, .int .i64 cj], .int .i64 e]) ∧ Inv W l w' := by
  refine (circle_good N n cap a x y w hN hx hy hM).mono ?_
  rintro r w' ⟨⟨ci', cj', e', rfl, hF'⟩, hb⟩
  obtain ⟨rfl, rfl, rfl⟩ := findC_unique hF' hF
  exact ⟨rfl, hI.call hb⟩
theorem i_circle_bad {W : World} {l : List (Nat × Value × Value)} {a : Option Addr} {n cap : Nat} {M : Nat → Q} (hn : n ≤ 1000) (x y : Int) (h : (isM n M && decide ((0 ≤ x ∧ x ≤ 100) ∧ 0 ≤ y ∧ y ≤ 100)) = false) (w : World) (hM : Ords w a n M) (hI : Inv W l w) :
    Calls Try.prog 17 #[.slice a n cap, .agg #[.int .i64 x, .int .i64 y]] w fun r w' => r = .returned (.tuple #[.agg #[.int .i64 0, .int .i64 0], .int .i64 2]) ∧ Inv W l w' :=
  (circle_bad M n cap a x y w hn h hM).mono fun _ _ ⟨h1, h2⟩ => ⟨h1, hI.call h2⟩
theorem i_check {W : World} {l : List (Nat × Value × Value)} {a : Option Addr} {n cap : Nat} {N : Nat → QN} (hN : okN n N) (x y : Nat) (hx : x ≤ 100) (hy : y ≤ 100) (i j : Int) (r : Bool) (hr : ckB N ⟨0, x, y⟩ (dn N ⟨0, x, y⟩ 1000 + 1) i j = r) (w : World) (hM : Ords w a n (fun k => (N k).z)) (hI : Inv W l w) :
    Calls Try.prog 18 #[.slice a n cap, .agg #[.int .i64 x, .int .i64 y], .agg #[.int .i64 i, .int .i64 j]] w fun r' w' => r' = .returned (.tuple #[.bool r, .int .i64 0]) ∧ Inv W l w' := by
  subst hr
  exact (check_good N n cap a x y i j w hN hx hy hM).mono fun _ _ ⟨h1, h2⟩ => ⟨h1, hI.call h2⟩

set_option maxHeartbeats 8000000 in
set_option maxRecDepth 100000 in
theorem circ_bad1 (W : World) (a : Option Addr) (n cap : Nat) (M : Nat → Q) (hn8 : n ≤ 140737488351232) (hM : Ords W a n M) (x y i j : Int) (h : isM n M = false) :
    Calls Try.prog 6 #[.slice a n cap, .agg #[.int .i64 x, .int .i64 y], .int .i64 i, .int .i64 j] W fun e W' => SomeB true W e W' := by
  have H1 : Hid (∀ l w, Inv W l w → Calls Try.prog 11 #[.slice a n cap] w fun e w' => (∃ a' cap', e = .returned (.slice a' (min n 11) cap') ∧ Ords w' a' (min n 11) M) ∧ Inv W l w') := fun l w hI => i_of hn8 hM w hI
  have H2 : Hid (∀ l w a' cap', Ords w a' (min n 11) M → Inv W l w → Calls Try.prog 17 #[.slice a' (min n 11) cap', .agg #[.int .i64 x, .int .i64 y]] w fun r w' => r = .returned (.tuple #[.agg #[.int .i64 0, .int .i64 0], .int .i64 2]) ∧ Inv W l w') :=
    fun l w a' cap' hO hI => i_circle_bad (by omega) x y (by rw [isM_min, h]; rfl) w hO hI
  have H6 : Hid (∀ l w a' cap', Ords w a' (min n 11) M → Inv W l w → Calls Try.prog 16 #[.slice a' (min n 11) cap', .agg #[.int .i64 x, .int .i64 y]] w fun r w' => r = .returned (.tuple #[.int .i64 0, .int .i64 2]) ∧ Inv W l w') :=
    fun l w a' cap' hO hI => i_ends_bad (by omega) x y (by rw [isM_min, h]; rfl) w hO hI
  have H3 : Hid (∀ l w, Inv W l w → Calls Try.prog 12 #[.slice a n cap] w fun e w' => e = .returned (.bool false) ∧ Inv W l w') := fun l w hI => i_machine hn8 hM false h w hI
  have H5 : Hid (∀ l w, Inv W l w → Calls Try.prog 14 #[] w fun e w' => e = .returned (.bool true) ∧ Inv W l w') := fun l w hI => i_awake w hI
  obtain ⟨W1, hW1⟩ : ∃ W1, W1 = W.alloc (.cells #[.int .i64 x, .int .i64 y] 23) := ⟨_, rfl⟩
  have I0 : Hid (Inv W [(W.heap.size, .int .i64 x, .int .i64 y)] W1) := by rw [hW1]; exact (Inv.refl W).new _ _ _
  have HW1 := Lib.hid hW1
  clear hW1
  have l0 := ((I0.out).at).lt
  obtain ⟨c0_0, c0_1, f0_0, f0_1⟩ := (I0.out).at
  clear hM h
  go_enter Try.func6, Try.ntmps6
  try go_wp2_with fail
  rw [← HW1.out]
  have JA0 : Hid (Inv W [(W.heap.size, .int .i64 x, .int .i64 y)] W1.drew) := Inv.drew I0.out
  have JB0 : Hid (Inv W ((W1.heap.size, .int .i64 0, .int .i64 0) :: [(W.heap.size, .int .i64 x, .int .i64 y)]) (W1.drew.alloc (.cells #[.int .i64 0, .int .i64 0] 23))) := (Inv.drew I0.out).new _ _ _
  have JC0 : Hid (Inv W ((W1.heap.size, .int .i64 0, .int .i64 0) :: [(W.heap.size, .int .i64 x, .int .i64 y)]) (W1.alloc (.cells #[.int .i64 0, .int .i64 0] 23)).drew) := Inv.drew (I0.out.new _ _ _)
  have HCB0 := Lib.hid (And.intro ((JB0.out.2 (W.heap.size, .int .i64 x, .int .i64 y) (by simp)).c0) ((JB0.out.2 (W.heap.size, .int .i64 x, .int .i64 y) (by simp)).c1))
  have HCC0 := Lib.hid (And.intro ((JC0.out.2 (W.heap.size, .int .i64 x, .int .i64 y) (by simp)).c0) ((JC0.out.2 (W.heap.size, .int .i64 x, .int .i64 y) (by simp)).c1))
  go_cut [9, 10] (fun s9 s10 wc => (∃ b, s9 = .pointer (some ⟨b, 0, none⟩) ∧ NewBox W [(W.heap.size, .int .i64 x, .int .i64 y)] (.int .i64 0) (.int .i64 0) wc b) ∧ s10 = .int .i64 2)
  case first =>
    go_region_held3 (fun w' => w'.cell? ⟨W.heap.size, 0, none⟩ = some (.int .i64 x) ∧ w'.cell? ⟨W.heap.size, 1, none⟩ = some (.int .i64 y))
      (first
        | (go_split_ands; exact HCb.out)
        | (go_split_ands; exact HCa.out)
        | (go_split_ands; exact HCB0.out)
        | (go_split_ands; exact HCC0.out)
        | (have q2 := (NewBox.put IB.out I0.out.fresh.1 I0.out.fresh.2 (.int .i64 0) (.int .i64 0)).1; go_split_ands; exact And.intro ((q2.2 (W.heap.size, .int .i64 x, .int .i64 y) (by simp)).c0) ((q2.2 (W.heap.size, .int .i64 x, .int .i64 y) (by simp)).c1))
        | (have q2 := (NewBox.put IB.out IA.out.fresh.1 IA.out.fresh.2 (.int .i64 0) (.int .i64 0)).1; go_split_ands; exact And.intro ((q2.2 (W.heap.size, .int .i64 x, .int .i64 y) (by simp)).c0) ((q2.2 (W.heap.size, .int .i64 x, .int .i64 y) (by simp)).c1))
        | (have q2 := (NewBox.last IB.out (.int .i64 0) (.int .i64 0) 23).1; go_split_ands; exact And.intro ((q2.2 (W.heap.size, .int .i64 x, .int .i64 y) (by simp)).c0) ((q2.2 (W.heap.size, .int .i64 x, .int .i64 y) (by simp)).c1))
        | (have q2 := IB.out.new (.int .i64 0) (.int .i64 0) 23; go_split_ands; exact And.intro ((q2.2 (W.heap.size, .int .i64 x, .int .i64 y) (by simp)).c0) ((q2.2 (W.heap.size, .int .i64 x, .int .i64 y) (by simp)).c1))
        | (have q2 := IA.out.new (.int .i64 0) (.int .i64 0) 23; go_split_ands; exact And.intro ((q2.2 (W.heap.size, .int .i64 x, .int .i64 y) (by simp)).c0) ((q2.2 (W.heap.size, .int .i64 x, .int .i64 y) (by simp)).c1))
        | go_keep)
      ((first
        | ((first | with_reducible refine (H1.out _ _ JA0.out).mono ?_ | with_reducible refine (H1.out _ _ JB0.out).mono ?_ | with_reducible refine (H1.out _ _ JC0.out).mono ?_); rintro r vA ⟨⟨a1, cap1, rfl, hO⟩, hI⟩; have HO := Lib.hid hO; have IA := Lib.hid hI; have HCa := Lib.hid (And.intro ((hI.2 (W.heap.size, .int .i64 x, .int .i64 y) (by simp)).c0) ((hI.2 (W.heap.size, .int .i64 x, .int .i64 y) (by simp)).c1)); clear hO hI)
        | ((first | with_reducible refine (H2.out _ _ _ _ HO.out IA.out).mono ?_ | with_reducible refine (H2.out _ _ _ _ (HO.out.keep (Nat.le_refl _) (one_le _ _)) (IA.out.new (.int .i64 0) (.int .i64 0) 23)).mono ?_); rintro r vB ⟨rfl, hI⟩; have IB := Lib.hid hI; have HCb := Lib.hid (And.intro ((hI.2 (W.heap.size, .int .i64 x, .int .i64 y) (by simp)).c0) ((hI.2 (W.heap.size, .int .i64 x, .int .i64 y) (by simp)).c1)); obtain ⟨g0, g1, g2, g3⟩ := hI.at; have gl := hI.at.lt; clear hI)))
    all_goals
      go_wp2
      go_meet
    all_goals first
      | exact ⟨⟨_, rfl, NewBox.last IB.out (.int .i64 0) (.int .i64 0) 23⟩, rfl⟩
      | exact ⟨⟨_, rfl, NewBox.put IB.out I0.out.fresh.1 I0.out.fresh.2 (.int .i64 0) (.int .i64 0)⟩, rfl⟩
      | exact ⟨⟨_, rfl, NewBox.put IB.out IA.out.fresh.1 IA.out.fresh.2 (.int .i64 0) (.int .i64 0)⟩, rfl⟩
  case rest =>
    obtain ⟨wc0, rfl⟩ : ∃ v, v = wc := ⟨_, rfl⟩
    obtain ⟨⟨b0, rfl, hNew⟩, rfl⟩ := hcut
    have NB0 := Lib.hid hNew
    have IN0 := Lib.hid hNew.1
    clear hNew
    clear c0_0 c0_1 f0_0 f0_1 l0
    have l0 := ((IN0.out).at).lt
    obtain ⟨c0_0, c0_1, f0_0, f0_1⟩ := (IN0.out).at
    have l1 := (((IN0.out).drop).at).lt
    obtain ⟨c1_0, c1_1, f1_0, f1_1⟩ := ((IN0.out).drop).at
    go_wp2_with fail
    have J1 := Lib.hid (Inv.drew IN0.out)
    go_region_held3 (fun w' => w'.cell? ⟨b0, 0, none⟩ = some (.int .i64 0) ∧ w'.cell? ⟨b0, 1, none⟩ = some (.int .i64 0) ∧ w'.cell? ⟨W.heap.size, 0, none⟩ = some (.int .i64 x) ∧ w'.cell? ⟨W.heap.size, 1, none⟩ = some (.int .i64 y))
      (first
          | (go_split_ands; exact HC3.out)
          | (go_split_ands; exact HC2.out)
          | go_keep)
      ((first
          | ((with_reducible refine (H1.out _ _ J1.out).mono ?_); rintro r w2 ⟨⟨a5, cap5, rfl, hO⟩, hI⟩; have HO := Lib.hid hO; clear hO; have I2 := Lib.hid hI; have HC2 := Lib.hid (And.intro ((I2.out).at.c0) (And.intro ((I2.out).at.c1) (And.intro (((I2.out).drop).at.c0) (((I2.out).drop).at.c1)))); clear hI)
          | ((with_reducible refine (H6.out _ _ _ _ HO.out I2.out).mono ?_); rintro r w3 ⟨rfl, hI⟩; have I3 := Lib.hid hI; have HC3 := Lib.hid (And.intro ((I3.out).at.c0) (And.intro ((I3.out).at.c1) (And.intro (((I3.out).drop).at.c0) (((I3.out).drop).at.c1)))); clear hI)))
    clear c0_0 c0_1 f0_0 f0_1 l0 c1_0 c1_1 f1_0 f1_1 l1
    have l0 := ((I3.out).at).lt
    obtain ⟨c0_0, c0_1, f0_0, f0_1⟩ := (I3.out).at
    have l1 := (((I3.out).drop).at).lt
    obtain ⟨c1_0, c1_1, f1_0, f1_1⟩ := ((I3.out).drop).at
    go_wp2_with fail
    refine (H3.out [(b0, .int .i64 0, .int .i64 0), (W.heap.size, .int .i64 x, .int .i64 y)] _ ?_).mono ?_
    · repeat' (first | exact I3.out | with_reducible refine Inv.alloc ?_ _)
    rintro r w4 ⟨rfl, hI⟩
    have I4 := Lib.hid hI
    clear hI
    clear c0_0 c0_1 f0_0 f0_1 l0 c1_0 c1_1 f1_0 f1_1 l1
    have l0 := ((I4.out).at).lt
    obtain ⟨c0_0, c0_1, f0_0, f0_1⟩ := (I4.out).at
    have l1 := (((I4.out).drop).at).lt
    obtain ⟨c1_0, c1_1, f1_0, f1_1⟩ := ((I4.out).drop).at
    go_wp2_with fail
    refine (H5.out [(b0, .int .i64 0, .int .i64 0), (W.heap.size, .int .i64 x, .int .i64 y)] _ ?_).mono ?_
    · repeat' (first | exact I4.out | with_reducible refine Inv.alloc ?_ _)
    rintro r w5 ⟨rfl, hI⟩
    have I5 := Lib.hid hI
    clear hI
    clear c0_0 c0_1 f0_0 f0_1 l0 c1_0 c1_1 f1_0 f1_1 l1
    have l0 := ((I5.out).at).lt
    obtain ⟨c0_0, c0_1, f0_0, f0_1⟩ := (I5.out).at
    have l1 := (((I5.out).drop).at).lt
    obtain ⟨c1_0, c1_1, f1_0, f1_1⟩ := ((I5.out).drop).at
    go_wp2
    go_ret
    exact ⟨rfl, I5.out.1⟩

set_option maxHeartbeats 8000000 in
set_option maxRecDepth 100000 in
theorem circ_bad2 (W : World) (a : Option Addr) (n cap : Nat) (M : Nat → Q) (hn8 : n ≤ 140737488351232) (hM : Ords W a n M) (x y i j : Int) (h : isM n M = true) (h2 : jB x y = false) :
    Calls Try.prog 6 #[.slice a n cap, .agg #[.int .i64 x, .int .i64 y], .int .i64 i, .int .i64 j] W fun e W' => SomeB true W e W' := by
  have H1 : Hid (∀ l w, Inv W l w → Calls Try.prog 11 #[.slice a n cap] w fun e w' => (∃ a' cap', e = .returned (.slice a' (min n 11) cap') ∧ Ords w' a' (min n 11) M) ∧ Inv W l w') := fun l w hI => i_of hn8 hM w hI
  have H2 : Hid (∀ l w a' cap', Ords w a' (min n 11) M → Inv W l w → Calls Try.prog 17 #[.slice a' (min n 11) cap', .agg #[.int .i64 x, .int .i64 y]] w fun r w' => r = .returned (.tuple #[.agg #[.int .i64 0, .int .i64 0], .int .i64 2]) ∧ Inv W l w') :=
    fun l w a' cap' hO hI => i_circle_bad (by omega) x y (by rw [isM_min, h]; have hq := of_decide_eq_false h2; simp; omega) w hO hI
  have H6 : Hid (∀ l w a' cap', Ords w a' (min n 11) M → Inv W l w → Calls Try.prog 16 #[.slice a' (min n 11) cap', .agg #[.int .i64 x, .int .i64 y]] w fun r w' => r = .returned (.tuple #[.int .i64 0, .int .i64 2]) ∧ Inv W l w') :=
    fun l w a' cap' hO hI => i_ends_bad (by omega) x y (by rw [isM_min, h]; have hq := of_decide_eq_false h2; simp; omega) w hO hI
  have H3 : Hid (∀ l w, Inv W l w → Calls Try.prog 12 #[.slice a n cap] w fun e w' => e = .returned (.bool true) ∧ Inv W l w') := fun l w hI => i_machine hn8 hM true h w hI
  have H4 : Hid (∀ l w, Inv W l w → Calls Try.prog 13 #[.agg #[.int .i64 x, .int .i64 y]] w fun e w' => e = .returned (.bool false) ∧ Inv W l w') := fun l w hI => i_jars x y false h2 w hI
  have H5 : Hid (∀ l w, Inv W l w → Calls Try.prog 14 #[] w fun e w' => e = .returned (.bool true) ∧ Inv W l w') := fun l w hI => i_awake w hI
  obtain ⟨W1, hW1⟩ : ∃ W1, W1 = W.alloc (.cells #[.int .i64 x, .int .i64 y] 23) := ⟨_, rfl⟩
  have I0 : Hid (Inv W [(W.heap.size, .int .i64 x, .int .i64 y)] W1) := by rw [hW1]; exact (Inv.refl W).new _ _ _
  have HW1 := Lib.hid hW1
  clear hW1
  have l0 := ((I0.out).at).lt
  obtain ⟨c0_0, c0_1, f0_0, f0_1⟩ := (I0.out).at
  clear hM h h2
  go_enter Try.func6, Try.ntmps6
  try go_wp2_with fail
  rw [← HW1.out]
  have JA0 : Hid (Inv W [(W.heap.size, .int .i64 x, .int .i64 y)] W1.drew) := Inv.drew I0.out
  have JB0 : Hid (Inv W ((W1.heap.size, .int .i64 0, .int .i64 0) :: [(W.heap.size, .int .i64 x, .int .i64 y)]) (W1.drew.alloc (.cells #[.int .i64 0, .int .i64 0] 23))) := (Inv.drew I0.out).new _ _ _
  have JC0 : Hid (Inv W ((W1.heap.size, .int .i64 0, .int .i64 0) :: [(W.heap.size, .int .i64 x, .int .i64 y)]) (W1.alloc (.cells #[.int .i64 0, .int .i64 0] 23)).drew) := Inv.drew (I0.out.new _ _ _)
  have HCB0 := Lib.hid (And.intro ((JB0.out.2 (W.heap.size, .int .i64 x, .int .i64 y) (by simp)).c0) ((JB0.out.2 (W.heap.size, .int .i64 x, .int .i64 y) (by simp)).c1))
  have HCC0 := Lib.hid (And.intro ((JC0.out.2 (W.heap.size, .int .i64 x, .int .i64 y) (by simp)).c0) ((JC0.out.2 (W.heap.size, .int .i64 x, .int .i64 y) (by simp)).c1))
  go_cut [9, 10] (fun s9 s10 wc => (∃ b, s9 = .pointer (some ⟨b, 0, none⟩) ∧ NewBox W [(W.heap.size, .int .i64 x, .int .i64 y)] (.int .i64 0) (.int .i64 0) wc b) ∧ s10 = .int .i64 2)
  case first =>
    go_region_held3 (fun w' => w'.cell? ⟨W.heap.size, 0, none⟩ = some (.int .i64 x) ∧ w'.cell? ⟨W.heap.size, 1, none⟩ = some (.int .i64 y))
      (first
        | (go_split_ands; exact HCb.out)
        | (go_split_ands; exact HCa.out)
        | (go_split_ands; exact HCB0.out)
        | (go_split_ands; exact HCC0.out)
        | (have q2 := (NewBox.put IB.out I0.out.fresh.1 I0.out.fresh.2 (.int .i64 0) (.int .i64 0)).1; go_split_ands; exact And.intro ((q2.2 (W.heap.size, .int .i64 x, .int .i64 y) (by simp)).c0) ((q2.2 (W.heap.size, .int .i64 x, .int .i64 y) (by simp)).c1))
        | (have q2 := (NewBox.put IB.out IA.out.fresh.1 IA.out.fresh.2 (.int .i64 0) (.int .i64 0)).1; go_split_ands; exact And.intro ((q2.2 (W.heap.size, .int .i64 x, .int .i64 y) (by simp)).c0) ((q2.2 (W.heap.size, .int .i64 x, .int .i64 y) (by simp)).c1))
        | (have q2 := (NewBox.last IB.out (.int .i64 0) (.int .i64 0) 23).1; go_split_ands; exact And.intro ((q2.2 (W.heap.size, .int .i64 x, .int .i64 y) (by simp)).c0) ((q2.2 (W.heap.size, .int .i64 x, .int .i64 y) (by simp)).c1))
        | (have q2 := IB.out.new (.int .i64 0) (.int .i64 0) 23; go_split_ands; exact And.intro ((q2.2 (W.heap.size, .int .i64 x, .int .i64 y) (by simp)).c0) ((q2.2 (W.heap.size, .int .i64 x, .int .i64 y) (by simp)).c1))
        | (have q2 := IA.out.new (.int .i64 0) (.int .i64 0) 23; go_split_ands; exact And.intro ((q2.2 (W.heap.size, .int .i64 x, .int .i64 y) (by simp)).c0) ((q2.2 (W.heap.size, .int .i64 x, .int .i64 y) (by simp)).c1))
        | go_keep)
      ((first
        | ((first | with_reducible refine (H1.out _ _ JA0.out).mono ?_ | with_reducible refine (H1.out _ _ JB0.out).mono ?_ | with_reducible refine (H1.out _ _ JC0.out).mono ?_); rintro r vA ⟨⟨a1, cap1, rfl, hO⟩, hI⟩; have HO := Lib.hid hO; have IA := Lib.hid hI; have HCa := Lib.hid (And.intro ((hI.2 (W.heap.size, .int .i64 x, .int .i64 y) (by simp)).c0) ((hI.2 (W.heap.size, .int .i64 x, .int .i64 y) (by simp)).c1)); clear hO hI)
        | ((first | with_reducible refine (H2.out _ _ _ _ HO.out IA.out).mono ?_ | with_reducible refine (H2.out _ _ _ _ (HO.out.keep (Nat.le_refl _) (one_le _ _)) (IA.out.new (.int .i64 0) (.int .i64 0) 23)).mono ?_); rintro r vB ⟨rfl, hI⟩; have IB := Lib.hid hI; have HCb := Lib.hid (And.intro ((hI.2 (W.heap.size, .int .i64 x, .int .i64 y) (by simp)).c0) ((hI.2 (W.heap.size, .int .i64 x, .int .i64 y) (by simp)).c1)); obtain ⟨g0, g1, g2, g3⟩ := hI.at; have gl := hI.at.lt; clear hI)))
    all_goals
      go_wp2
      go_meet
    all_goals first
      | exact ⟨⟨_, rfl, NewBox.last IB.out (.int .i64 0) (.int .i64 0) 23⟩, rfl⟩
      | exact ⟨⟨_, rfl, NewBox.put IB.out I0.out.fresh.1 I0.out.fresh.2 (.int .i64 0) (.int .i64 0)⟩, rfl⟩
      | exact ⟨⟨_, rfl, NewBox.put IB.out IA.out.fresh.1 IA.out.fresh.2 (.int .i64 0) (.int .i64 0)⟩, rfl⟩
  case rest =>
    obtain ⟨wc0, rfl⟩ : ∃ v, v = wc := ⟨_, rfl⟩
    obtain ⟨⟨b0, rfl, hNew⟩, rfl⟩ := hcut
    have NB0 := Lib.hid hNew
    have IN0 := Lib.hid hNew.1
    clear hNew
    clear c0_0 c0_1 f0_0 f0_1 l0
    have l0 := ((IN0.out).at).lt
    obtain ⟨c0_0, c0_1, f0_0, f0_1⟩ := (IN0.out).at
    have l1 := (((IN0.out).drop).at).lt
    obtain ⟨c1_0, c1_1, f1_0, f1_1⟩ := ((IN0.out).drop).at
    go_wp2_with fail
    have J1 := Lib.hid (Inv.drew IN0.out)
    go_region_held3 (fun w' => w'.cell? ⟨b0, 0, none⟩ = some (.int .i64 0) ∧ w'.cell? ⟨b0, 1, none⟩ = some (.int .i64 0) ∧ w'.cell? ⟨W.heap.size, 0, none⟩ = some (.int .i64 x) ∧ w'.cell? ⟨W.heap.size, 1, none⟩ = some (.int .i64 y))
      (first
          | (go_split_ands; exact HC3.out)
          | (go_split_ands; exact HC2.out)
          | go_keep)
      ((first
          | ((with_reducible refine (H1.out _ _ J1.out).mono ?_); rintro r w2 ⟨⟨a5, cap5, rfl, hO⟩, hI⟩; have HO := Lib.hid hO; clear hO; have I2 := Lib.hid hI; have HC2 := Lib.hid (And.intro ((I2.out).at.c0) (And.intro ((I2.out).at.c1) (And.intro (((I2.out).drop).at.c0) (((I2.out).drop).at.c1)))); clear hI)
          | ((with_reducible refine (H6.out _ _ _ _ HO.out I2.out).mono ?_); rintro r w3 ⟨rfl, hI⟩; have I3 := Lib.hid hI; have HC3 := Lib.hid (And.intro ((I3.out).at.c0) (And.intro ((I3.out).at.c1) (And.intro (((I3.out).drop).at.c0) (((I3.out).drop).at.c1)))); clear hI)))
    clear c0_0 c0_1 f0_0 f0_1 l0 c1_0 c1_1 f1_0 f1_1 l1
    have l0 := ((I3.out).at).lt
    obtain ⟨c0_0, c0_1, f0_0, f0_1⟩ := (I3.out).at
    have l1 := (((I3.out).drop).at).lt
    obtain ⟨c1_0, c1_1, f1_0, f1_1⟩ := ((I3.out).drop).at
    go_wp2_with fail
    refine (H3.out [(b0, .int .i64 0, .int .i64 0), (W.heap.size, .int .i64 x, .int .i64 y)] _ ?_).mono ?_
    · repeat' (first | exact I3.out | with_reducible refine Inv.alloc ?_ _)
    rintro r w4 ⟨rfl, hI⟩
    have I4 := Lib.hid hI
    clear hI
    clear c0_0 c0_1 f0_0 f0_1 l0 c1_0 c1_1 f1_0 f1_1 l1
    have l0 := ((I4.out).at).lt
    obtain ⟨c0_0, c0_1, f0_0, f0_1⟩ := (I4.out).at
    have l1 := (((I4.out).drop).at).lt
    obtain ⟨c1_0, c1_1, f1_0, f1_1⟩ := ((I4.out).drop).at
    go_wp2_with fail
    refine (H4.out [(b0, .int .i64 0, .int .i64 0), (W.heap.size, .int .i64 x, .int .i64 y)] _ ?_).mono ?_
    · repeat' (first | exact I4.out | with_reducible refine Inv.alloc ?_ _)
    rintro r w5 ⟨rfl, hI⟩
    have I5 := Lib.hid hI
    clear hI
    clear c0_0 c0_1 f0_0 f0_1 l0 c1_0 c1_1 f1_0 f1_1 l1
    have l0 := ((I5.out).at).lt
    obtain ⟨c0_0, c0_1, f0_0, f0_1⟩ := (I5.out).at
    have l1 := (((I5.out).drop).at).lt
    obtain ⟨c1_0, c1_1, f1_0, f1_1⟩ := ((I5.out).drop).at
    go_wp2_with fail
    refine (H5.out [(b0, .int .i64 0, .int .i64 0), (W.heap.size, .int .i64 x, .int .i64 y)] _ ?_).mono ?_
    · repeat' (first | exact I5.out | with_reducible refine Inv.alloc ?_ _)
    rintro r w6 ⟨rfl, hI⟩
    have I6 := Lib.hid hI
    clear hI
    clear c0_0 c0_1 f0_0 f0_1 l0 c1_0 c1_1 f1_0 f1_1 l1
    have l0 := ((I6.out).at).lt
    obtain ⟨c0_0, c0_1, f0_0, f0_1⟩ := (I6.out).at
    have l1 := (((I6.out).drop).at).lt
    obtain ⟨c1_0, c1_1, f1_0, f1_1⟩ := ((I6.out).drop).at
    go_wp2
    go_ret
    exact ⟨rfl, I6.out.1⟩

end Go.Proofs.Ytiegingpmcloeaa
