import Derived.Test.YtiegingpmcloeaaC1
namespace Go.Proofs.Ytiegingpmcloeaa
open Go.RowKit

/-- A list of places. -/
def PlsAt (w : World) (a : Option Addr) (m : Nat) (P : Nat → Pl) : Prop :=
  ∀ k, k < m → ∃ b o, a = some ⟨b, o, none⟩ ∧ w.cell? ⟨b, o + k * 3, none⟩ = some (.int .i64 (P k).o) ∧ w.cell? ⟨b, o + k * 3 + 1, none⟩ = some (.int .i64 (P k).x) ∧ w.cell? ⟨b, o + k * 3 + 2, none⟩ = some (.int .i64 (P k).y)
theorem PlsAt.keep {w w' : World} {a : Option Addr} {m : Nat} {P : Nat → Pl} (h : PlsAt w a m P) {B : Nat} (hB : w.heap.size ≤ B) (hb : Below B w w') : PlsAt w' a m P := by
  intro j hj
  obtain ⟨b, o, ha, c0, c1, c2⟩ := h j hj
  have hlt := Nat.lt_of_lt_of_le (World.block_lt_of_cell? _ _ c0) hB
  exact ⟨b, o, ha, by rw [hb.cell (p := ⟨b, o + j * 3, none⟩) hlt]; exact c0, by rw [hb.cell (p := ⟨b, o + j * 3 + 1, none⟩) hlt]; exact c1, by rw [hb.cell (p := ⟨b, o + j * 3 + 2, none⟩) hlt]; exact c2⟩
theorem own_pls {w : World} {base : Nat} {v : Value} {m : Nat} {P : Nat → Pl} (h : OwnC w base 62 3 v m (fun i => ppcell (P i))) : ∃ a cap, v = .slice a m cap ∧ m ≤ cap ∧ cap ≤ maxLen ∧ PlsAt w a m P := by
  obtain ⟨a, cap, rfl, hC, h1, h2⟩ := OwnC.read (c := fun i => ppcell (P i)) (fun k => ppcell_len _) h
  refine ⟨a, cap, rfl, h1, h2, fun k hk => ?_⟩
  obtain ⟨b, o, ha, hc⟩ := hC k hk
  exact ⟨b, o, ha, by have := hc 0 _ rfl; simpa using this, hc 1 _ rfl, hc 2 _ rfl⟩

theorem At3.drew {w : World} {b : Nat} {v0 v1 v2 : Value} (h : At3 w b v0 v1 v2) : At3 w.drew b v0 v1 v2 := ⟨h.c0, h.c1, h.c2, h.f0, h.f1, h.f2⟩

theorem cells3_keep {w w' : World} {b : Nat} {v0 v1 v2 : Value} (h : w.cell? ⟨b, 0, none⟩ = some v0 ∧ w.cell? ⟨b, 1, none⟩ = some v1 ∧ w.cell? ⟨b, 2, none⟩ = some v2) (hb : Below w.heap.size w w') :
    w'.cell? ⟨b, 0, none⟩ = some v0 ∧ w'.cell? ⟨b, 1, none⟩ = some v1 ∧ w'.cell? ⟨b, 2, none⟩ = some v2 := by
  obtain ⟨h0, h1, h2⟩ := h
  have hlt := World.block_lt_of_cell? _ _ h0
  exact ⟨by rw [hb.cell (p := ⟨b, 0, none⟩) hlt]; exact h0, by rw [hb.cell (p := ⟨b, 1, none⟩) hlt]; exact h1, by rw [hb.cell (p := ⟨b, 2, none⟩) hlt]; exact h2⟩

theorem iscircle_out (n cap : Nat) (a : Option Addr) (w : World) (al : Option Addr) (m cl : Nat) (i j : Int) (_hm : m ≤ 2000) (h : ¬ (0 ≤ i ∧ i < j ∧ j < m)) :
    Calls Try.prog 36 #[.slice a n cap, .slice al m cl, .int .i64 i, .int .i64 j] w fun r w' => SomeB false w r w' := by
  by_cases h1 : i < 0
  · go_enter Try.func36, Try.ntmps36
    go_wp2
    go_ret
    exact ⟨rfl, Below.refl _ _⟩
  · by_cases h2 : j ≤ i
    · have h1' : 0 ≤ i := by omega
      clear h
      go_enter Try.func36, Try.ntmps36
      go_wp2
      go_ret
      exact ⟨rfl, Below.refl _ _⟩
    · have h3 : (m : Int) ≤ j := by omega
      have h1' : decide (i < 0) = false := by simpa using h1
      have h2' : decide (j ≤ i) = false := by simpa using h2
      clear h h1 h2
      go_enter Try.func36, Try.ntmps36
      go_wp2
      go_ret
      exact ⟨rfl, Below.refl _ _⟩

set_option maxHeartbeats 8000000 in
set_option maxRecDepth 100000 in
theorem iscircle_in (N : Nat → QN) (P : Nat → Pl) (n cap : Nat) (a : Option Addr) (w : World) (al : Option Addr) (m cl : Nat) (i j : Nat) (hm : m ≤ 2000) (hcl : m ≤ cl) (_hcm : cl ≤ maxLen) (hij : i < j) (hjm : j < m) (hN : okN n N) (hM : Ords w a n (fun k => (N k).z)) (hP : PlsAt w al m P) (ho : ∀ k, (P k).o < n) :
    Calls Try.prog 36 #[.slice a n cap, .slice al m cl, .int .i64 i, .int .i64 j] w fun r w' => SomeB (decide (circR N P i j)) w r w' := by
  have HP := Lib.hid hP
  have HM := Lib.hid hM
  obtain ⟨b, o, rfl, c0, c1, c2⟩ := hP i (by omega)
  obtain ⟨b', o', he, d0, d1, d2⟩ := hP j (by omega)
  cases he
  have hbl : b < w.heap.size := World.block_lt_of_cell? _ _ c0
  have n1 : w.heap.size ≠ b := by omega
  have n2 : w.heap.size + 1 ≠ b := by omega
  have e1 : (0 : Int) ≤ (i : Int) := by omega
  have e2 : (i : Int) < (m : Int) := by omega
  have e3 : (0 : Int) ≤ (j : Int) := by omega
  have e4 : (j : Int) < (m : Int) := by omega
  clear hP hM
  go_enter Try.func36, Try.ntmps36
  go_wp2_with fail
  go_cut [9, 10] (fun s9 s10 wc => ∃ bf bt, s9 = .pointer (some ⟨bf, 0, none⟩) ∧ s10 = .pointer (some ⟨bt, 0, none⟩) ∧ At3 wc bf (.int .i64 (P i).o) (.int .i64 (P i).x) (.int .i64 (P i).y) ∧ At3 wc bt (.int .i64 (P j).o) (.int .i64 (P j).x) (.int .i64 (P j).y) ∧ Below w.heap.size w wc)
  case first =>
    go_region_held3 (fun w' => w'.cell? ⟨b, o + i * 3, none⟩ = some (.int .i64 (P i).o) ∧ w'.cell? ⟨b, o + i * 3 + 1, none⟩ = some (.int .i64 (P i).x) ∧ w'.cell? ⟨b, o + i * 3 + 2, none⟩ = some (.int .i64 (P i).y) ∧ w'.cell? ⟨b, o + j * 3, none⟩ = some (.int .i64 (P j).o) ∧ w'.cell? ⟨b, o + j * 3 + 1, none⟩ = some (.int .i64 (P j).x) ∧ w'.cell? ⟨b, o + j * 3 + 2, none⟩ = some (.int .i64 (P j).y))
      (go_keep)
      (fail)
    all_goals
      go_wp2
      go_meet
    all_goals first
      | exact ⟨_, _, rfl, rfl, (At3.of (heap_two1 w _ _)).drew, (At3.of (heap_two2 w _ _)).drew, (two_le w _ _).drew⟩
      | exact ⟨_, _, rfl, rfl, (At3.of (heap_two2 w _ _)).drew, (At3.of (heap_two1 w _ _)).drew, (two_le w _ _).drew⟩
  case rest =>
    obtain ⟨bf, bt, rfl, rfl, hf, ht, hb⟩ := hcut
    have HF := Lib.hid hf
    have HT := Lib.hid ht
    have HB := Lib.hid hb
    have hlf := hf.lt
    have hlt := ht.lt
    obtain ⟨f0, f1, f2, _, _, _⟩ := hf
    obtain ⟨t0, t1, t2, _, _, _⟩ := ht
    clear hb n1 n2 c0 c1 c2 d0 d1 d2
    by_cases h1 : (P i).o = (P j).o
    · have K1 : (((P i).o : Int) != ((P j).o : Int)) = false := by simp [h1]
      by_cases h2 : (P i).x ≤ (P j).x
      · have K2 : decide ((P j).x < (P i).x) = false := by simp; omega
        by_cases h3 : (P i).y ≤ (P j).y
        · have K3 : decide ((P j).y < (P i).y) = false := by simp; omega
          have H123 := Lib.hid (And.intro h1 (And.intro h2 h3))
          have K4 : decide ((i : Int) < 0) = false := by simp
          have K5 : decide (j ≤ i) = false := by simp; omega
          have K6 : decide (m ≤ j) = false := by simp; omega
          clear h1 h2 h3
          go_wp2
          clear K1 K2 K3 K4 K5 K6
          go_loopw [12, 13, 63] (fun _ _ t wr => ∃ k : Nat, k ≤ j - i ∧ t = .int .i64 k ∧ Below w.heap.size w wr ∧ At3 wr bf (.int .i64 (P i).o) (.int .i64 (P i).x) (.int .i64 (P i).y) ∧ At3 wr bt (.int .i64 (P j).o) (.int .i64 (P j).x) (.int .i64 (P j).y) ∧ Hid (∀ q, q < k → noB N (P (i + q)) = true → (P i).jar (N (P (i + q)).o).j = (P j).jar (N (P (i + q)).o).j)) (fun _ _ t _ => j - i - (intOf t).toNat)
          case atStart => exact ⟨0, Nat.zero_le _, rfl, HB.out, HF.out, HT.out, fun q hq => absurd hq (Nat.not_lt_zero _)⟩
          case round =>
            obtain ⟨k, hk, rfl, hBr, hfr, htr, hjars⟩ := hrel
            have HBr := Lib.hid hBr
            have HFr := Lib.hid hfr
            have HTr := Lib.hid htr
            have hsz := hBr.size
            have hlf2 := hfr.lt
            have hlt2 := htr.lt
            clear hBr hfr htr f0 f1 f2 t0 t1 t2 hlf hlt
            by_cases hkj : k < j - i
            · obtain ⟨bb, oo, he, g0, g1, g2⟩ := (HP.out.keep (Nat.le_refl _) HBr.out) (i + k) (by omega)
              cases he
              rw [show o + (i + k) * 3 = o + i * 3 + k * 3 by omega] at g0 g1 g2
              have hbl2 : b < wr.heap.size := by omega
              have hoo := ho (i + k)
              obtain ⟨Wp, hWp⟩ : ∃ Wp, Wp = wr.alloc (.cells #[.int .i64 (P (i + k)).o, .int .i64 (P (i + k)).x, .int .i64 (P (i + k)).y] 62) := ⟨_, rfl⟩
              have HBp : Hid (Below wr.heap.size wr Wp) := by rw [hWp]; exact one_le _ _
              have HPC : Hid (Wp.cell? ⟨wr.heap.size, 0, none⟩ = some (.int .i64 (P (i + k)).o) ∧ Wp.cell? ⟨wr.heap.size, 1, none⟩ = some (.int .i64 (P (i + k)).x) ∧ Wp.cell? ⟨wr.heap.size, 2, none⟩ = some (.int .i64 (P (i + k)).y)) := by
                rw [hWp]
                have h := heap_alloc_new wr (.cells #[.int .i64 (P (i + k)).o, .int .i64 (P (i + k)).x, .int .i64 (P (i + k)).y] 62)
                exact ⟨block_cell h 0, block_cell h 1, block_cell h 2⟩
              have HPB : Hid (Wp.drew.cell? ⟨wr.heap.size, 0, none⟩ = some (.int .i64 (P (i + k)).o) ∧ Wp.drew.cell? ⟨wr.heap.size, 1, none⟩ = some (.int .i64 (P (i + k)).x) ∧ Wp.drew.cell? ⟨wr.heap.size, 2, none⟩ = some (.int .i64 (P (i + k)).y)) := HPC.out
              have HBr2 : Hid (∀ v, Below Wp.heap.size Wp v → Below w.heap.size w v) := fun v hv => band HBr.out (band HBp.out hv)
              have HFr2 : Hid (∀ v, Below Wp.heap.size Wp v → At3 v bf (.int .i64 (P i).o) (.int .i64 (P i).x) (.int .i64 (P i).y)) := fun v hv => HFr.out.keep (band HBp.out hv)
              have HTr2 : Hid (∀ v, Below Wp.heap.size Wp v → At3 v bt (.int .i64 (P j).o) (.int .i64 (P j).x) (.int .i64 (P j).y)) := fun v hv => HTr.out.keep (band HBp.out hv)
              have HBd : Hid (Below w.heap.size w Wp.drew) := (HBr2.out _ (Below.refl _ _)).drew
              have HEm := Lib.hid (fun W (hW : Below w.heap.size w W) => empty_any N n cap a (P (i + k)) W (show n ≤ 1000 by have := hN.few; omega) hoo hN (HM.out.keep (Nat.le_refl _) hW))
              obtain ⟨ma, mo, rfl, m0, m1, m2, m3⟩ := (HM.out.keep (Nat.le_refl _) HBr.out).at hoo
              have hml : ma < wr.heap.size := World.block_lt_of_cell? _ _ m0
              have HWp := Lib.hid hWp
              have hj1 := hN.j _ hoo
              clear hWp
              cases hnb : noB N (P (i + k))
              · have hstep : Hid (∀ q, q < k + 1 → noB N (P (i + q)) = true → (P i).jar (N (P (i + q)).o).j = (P j).jar (N (P (i + q)).o).j) := by
                  intro q hq hb
                  by_cases e : q = k
                  · subst e; rw [hnb] at hb; cases hb
                  · exact hjars.out q (by omega) hb
                have HNB := Lib.hid hnb
                clear hnb
                go_wp2_with fail
                rw [← HWp.out]
                refine wp_region_held_drew (S := fun w' => w'.cell? ⟨wr.heap.size, 0, none⟩ = some (.int .i64 (P (i + k)).o) ∧ w'.cell? ⟨wr.heap.size, 1, none⟩ = some (.int .i64 (P (i + k)).x) ∧ w'.cell? ⟨wr.heap.size, 2, none⟩ = some (.int .i64 (P (i + k)).y)) (by kernel_rfl) ?_ (fun hHeld => ?_)
                · exact HPB.out
                refine wpAnyH_take (i := 0) (oi := ⟨some 73, _, _, _, _, _⟩) (v := .slice (some ⟨ma, mo, none⟩) n cap) rfl (by kernel_rfl) (by kernel_rfl) (by kernel_rfl) (fun _ _ _ h => h) (Or.inl ⟨by rfl, fun w2 hSw => ?_⟩) (by assumption) ?_
                · go_simp
                try simp only [Act.put, List.setIfInBounds_toArray, List.set_cons_zero, List.set_cons_succ]
                refine wpAnyH_take (i := 1) (oi := ⟨some 74, _, _, _, _, _⟩) (v := .agg #[.int .i64 (P (i + k)).o, .int .i64 (P (i + k)).x, .int .i64 (P (i + k)).y]) rfl (by kernel_rfl) (by kernel_rfl) (by kernel_rfl) (fun _ _ _ h => h) (Or.inl ⟨by rfl, fun w2 hSw => ?_⟩) (by assumption) ?_
                · obtain ⟨s0, s1, s2⟩ := hSw; go_simp
                try simp only [Act.put, List.setIfInBounds_toArray, List.set_cons_zero, List.set_cons_succ]
                refine wpAnyH_ready (rs := [2]) (by kernel_rfl) (by simp) ?_
                refine AllReadyH.cons (o := ⟨some 75, _, _, _, _, _⟩) rfl (fun K hK => ?_) AllReadyH.nil
                go_simp
                refine (HEm.out _ HBd.out).mono ?_
                rintro r w1 ⟨rfl, hb1⟩
                rw [HNB.out]
                have HB1 := Lib.hid (below_drew1 hb1)
                clear hb1 hHeld
                go_wp2_with fail
                refine hK.out _ _ ?_ (fun hHeld => ?_)
                · exact cells3_keep HPC.out HB1.out
                clear hK K
                try simp only [Act.put, List.setIfInBounds_toArray, List.set_cons_zero, List.set_cons_succ]
                refine wpAnyH_take (i := 3) (oi := ⟨some 76, _, _, _, _, _⟩) (v := .bool false) rfl (by kernel_rfl) (by kernel_rfl) (by kernel_rfl) (fun _ _ _ h => h) (Or.inl ⟨by rfl, fun w2 hSw => ?_⟩) (by assumption) ?_
                · go_simp
                try simp only [Act.put, List.setIfInBounds_toArray, List.set_cons_zero, List.set_cons_succ]
                refine wpAnyH_take (i := 4) (oi := ⟨some 77, _, _, _, _, _⟩) (v := undef) rfl (by kernel_rfl) (by kernel_rfl) (by kernel_rfl) (fun _ _ _ h => h) (Or.inr ⟨by rfl, rfl⟩) (by assumption) ?_
                try simp only [Act.put, List.setIfInBounds_toArray, List.set_cons_zero, List.set_cons_succ]
                refine wpAnyH_take (i := 5) (oi := ⟨some 78, _, _, _, _, _⟩) (v := undef) rfl (by kernel_rfl) (by kernel_rfl) (by kernel_rfl) (fun _ _ _ h => h) (Or.inr ⟨by rfl, rfl⟩) (by assumption) ?_
                try simp only [Act.put, List.setIfInBounds_toArray, List.set_cons_zero, List.set_cons_succ]
                refine wpAnyH_take (i := 6) (oi := ⟨some 79, _, _, _, _, _⟩) (v := undef) rfl (by kernel_rfl) (by kernel_rfl) (by kernel_rfl) (fun _ _ _ h => h) (Or.inr ⟨by rfl, rfl⟩) (by assumption) ?_
                try simp only [Act.put, List.setIfInBounds_toArray, List.set_cons_zero, List.set_cons_succ]
                refine wpAnyH_take (i := 7) (oi := ⟨some 80, _, _, _, _, _⟩) (v := undef) rfl (by kernel_rfl) (by kernel_rfl) (by kernel_rfl) (fun _ _ _ h => h) (Or.inr ⟨by rfl, rfl⟩) (by assumption) ?_
                try simp only [Act.put, List.setIfInBounds_toArray, List.set_cons_zero, List.set_cons_succ]
                refine wpAnyH_take (i := 8) (oi := ⟨some 81, _, _, _, _, _⟩) (v := undef) rfl (by kernel_rfl) (by kernel_rfl) (by kernel_rfl) (fun _ _ _ h => h) (Or.inr ⟨by rfl, rfl⟩) (by assumption) ?_
                try simp only [Act.put, List.setIfInBounds_toArray, List.set_cons_zero, List.set_cons_succ]
                refine wpAnyH_take (i := 9) (oi := ⟨some 82, _, _, _, _, _⟩) (v := undef) rfl (by kernel_rfl) (by kernel_rfl) (by kernel_rfl) (fun _ _ _ h => h) (Or.inr ⟨by rfl, rfl⟩) (by assumption) ?_
                try simp only [Act.put, List.setIfInBounds_toArray, List.set_cons_zero, List.set_cons_succ]
                refine wpAnyH_take (i := 10) (oi := ⟨some 83, _, _, _, _, _⟩) (v := undef) rfl (by kernel_rfl) (by kernel_rfl) (by kernel_rfl) (fun _ _ _ h => h) (Or.inr ⟨by rfl, rfl⟩) (by assumption) ?_
                try simp only [Act.put, List.setIfInBounds_toArray, List.set_cons_zero, List.set_cons_succ]
                refine wpAnyH_take (i := 11) (oi := ⟨some 84, _, _, _, _, _⟩) (v := undef) rfl (by kernel_rfl) (by kernel_rfl) (by kernel_rfl) (fun _ _ _ h => h) (Or.inr ⟨by rfl, rfl⟩) (by assumption) ?_
                try simp only [Act.put, List.setIfInBounds_toArray, List.set_cons_zero, List.set_cons_succ]
                refine wpAnyH_take (i := 12) (oi := ⟨some 85, _, _, _, _, _⟩) (v := undef) rfl (by kernel_rfl) (by kernel_rfl) (by kernel_rfl) (fun _ _ _ h => h) (Or.inr ⟨by rfl, rfl⟩) (by assumption) ?_
                try simp only [Act.put, List.setIfInBounds_toArray, List.set_cons_zero, List.set_cons_succ]
                refine wpAnyH_take (i := 13) (oi := ⟨some 86, _, _, _, _, _⟩) (v := .bool false) rfl (by kernel_rfl) (by kernel_rfl) (by kernel_rfl) (fun _ _ _ h => h) (Or.inl ⟨by rfl, fun w2 hSw => ?_⟩) (by assumption) ?_
                · go_simp
                try simp only [Act.put, List.setIfInBounds_toArray, List.set_cons_zero, List.set_cons_succ]
                refine wpAnyH_done (by kernel_rfl) ?_ _
                go_wp2
                go_roundw
                case rel => exact ⟨k + 1, by omega, by go_num, HBr2.out _ HB1.out, HFr2.out _ HB1.out, HTr2.out _ HB1.out, hstep⟩
                case measure => simp [intOf]; omega
              · have hj2 : (N (P (i + k)).o).j = 0 ∨ (N (P (i + k)).o).j = 1 := by omega
                have HNB := Lib.hid hnb
                have hall : Hid ((P i).jar (N (P (i + k)).o).j = (P j).jar (N (P (i + k)).o).j → ∀ q, q < k + 1 → noB N (P (i + q)) = true → (P i).jar (N (P (i + q)).o).j = (P j).jar (N (P (i + q)).o).j) := by
                  intro h q hq hb
                  by_cases e : q = k
                  · subst e; exact h
                  · exact hjars.out q (by omega) hb
                have hnone : Hid (¬ (P i).jar (N (P (i + k)).o).j = (P j).jar (N (P (i + k)).o).j → decide (circR N P i j) = false) := fun h => decide_eq_false (fun hc => h (hc.2.2.2 k hkj hnb))
                clear hnb
                rcases hj2 with hj | hj
                · have e1' : ((N (P (i + k)).o).j : Int) = 0 := by omega
                  rw [e1'] at m1
                  rw [hj] at hall hnone
                  clear e1'
                  by_cases hq : (P i).x = (P j).x
                  · have hstep := Lib.hid (hall.out (by simp [Pl.jar, hq]))
                    have K : (((P i).x : Int) != ((P j).x : Int)) = false := by simp [hq]
                    clear hq hj
                    go_wp2_with fail
                    rw [← HWp.out]
                    have HS0 := Lib.hid (And.intro HPB.out.1 (And.intro HPB.out.2.1 (And.intro HPB.out.2.2 (And.intro (HFr2.out _ (Below.refl _ _)).c1 (HTr2.out _ (Below.refl _ _)).c1))))
                    go_region_held3 (fun w' => w'.cell? ⟨wr.heap.size, 0, none⟩ = some (.int .i64 (P (i + k)).o) ∧ w'.cell? ⟨wr.heap.size, 1, none⟩ = some (.int .i64 (P (i + k)).x) ∧ w'.cell? ⟨wr.heap.size, 2, none⟩ = some (.int .i64 (P (i + k)).y) ∧ w'.cell? ⟨bf, 1, none⟩ = some (.int .i64 (P i).x) ∧ w'.cell? ⟨bt, 1, none⟩ = some (.int .i64 (P j).x))
                      (first
                        | (go_split_ands; exact HS1.out)
                        | (go_split_ands; exact HS0.out)
                        | go_keep)
                      ((first
                        | ((with_reducible refine (HEm.out _ HBd.out).mono ?_); rintro r w1 ⟨rfl, hb1⟩; (rw [HNB.out]); have HB1 := Lib.hid (below_drew1 hb1); have HPC1 := cells3_keep HPC.out HB1.out; have HS1 := Lib.hid (And.intro HPC1.1 (And.intro HPC1.2.1 (And.intro HPC1.2.2 (And.intro (HFr2.out _ HB1.out).c1 (HTr2.out _ HB1.out).c1)))); clear hb1 HPC1)))
                    all_goals
                      go_wp2
                      go_roundw
                      case rel => exact ⟨k + 1, by omega, by go_num, HBr2.out _ HB1.out, HFr2.out _ HB1.out, HTr2.out _ HB1.out, hstep⟩
                      case measure => simp [intOf]; omega
                  · have hno := Lib.hid (hnone.out (by simp [Pl.jar, hq]))
                    have K : (((P i).x : Int) != ((P j).x : Int)) = true := by simp; omega
                    clear hq hj
                    go_wp2_with fail
                    rw [← HWp.out]
                    have HS0 := Lib.hid (And.intro HPB.out.1 (And.intro HPB.out.2.1 (And.intro HPB.out.2.2 (And.intro (HFr2.out _ (Below.refl _ _)).c1 (HTr2.out _ (Below.refl _ _)).c1))))
                    go_region_held3 (fun w' => w'.cell? ⟨wr.heap.size, 0, none⟩ = some (.int .i64 (P (i + k)).o) ∧ w'.cell? ⟨wr.heap.size, 1, none⟩ = some (.int .i64 (P (i + k)).x) ∧ w'.cell? ⟨wr.heap.size, 2, none⟩ = some (.int .i64 (P (i + k)).y) ∧ w'.cell? ⟨bf, 1, none⟩ = some (.int .i64 (P i).x) ∧ w'.cell? ⟨bt, 1, none⟩ = some (.int .i64 (P j).x))
                      (first
                        | (go_split_ands; exact HS1.out)
                        | (go_split_ands; exact HS0.out)
                        | go_keep)
                      ((first
                        | ((with_reducible refine (HEm.out _ HBd.out).mono ?_); rintro r w1 ⟨rfl, hb1⟩; (rw [HNB.out]); have HB1 := Lib.hid (below_drew1 hb1); have HPC1 := cells3_keep HPC.out HB1.out; have HS1 := Lib.hid (And.intro HPC1.1 (And.intro HPC1.2.1 (And.intro HPC1.2.2 (And.intro (HFr2.out _ HB1.out).c1 (HTr2.out _ HB1.out).c1)))); clear hb1 HPC1)))
                    all_goals
                      go_wp2
                      go_ret
                      exact ⟨by rw [hno.out]; rfl, HBr2.out _ HB1.out⟩
                · have e1' : ((N (P (i + k)).o).j : Int) = 1 := by omega
                  rw [e1'] at m1
                  rw [hj] at hall hnone
                  clear e1'
                  by_cases hq : (P i).y = (P j).y
                  · have hstep := Lib.hid (hall.out (by simp [Pl.jar, hq]))
                    have K : (((P i).y : Int) != ((P j).y : Int)) = false := by simp [hq]
                    clear hq hj
                    go_wp2_with fail
                    rw [← HWp.out]
                    have HS0 := Lib.hid (And.intro HPB.out.1 (And.intro HPB.out.2.1 (And.intro HPB.out.2.2 (And.intro (HFr2.out _ (Below.refl _ _)).c2 (HTr2.out _ (Below.refl _ _)).c2))))
                    go_region_held3 (fun w' => w'.cell? ⟨wr.heap.size, 0, none⟩ = some (.int .i64 (P (i + k)).o) ∧ w'.cell? ⟨wr.heap.size, 1, none⟩ = some (.int .i64 (P (i + k)).x) ∧ w'.cell? ⟨wr.heap.size, 2, none⟩ = some (.int .i64 (P (i + k)).y) ∧ w'.cell? ⟨bf, 2, none⟩ = some (.int .i64 (P i).y) ∧ w'.cell? ⟨bt, 2, none⟩ = some (.int .i64 (P j).y))
                      (first
                        | (go_split_ands; exact HS1.out)
                        | (go_split_ands; exact HS0.out)
                        | go_keep)
                      ((first
                        | ((with_reducible refine (HEm.out _ HBd.out).mono ?_); rintro r w1 ⟨rfl, hb1⟩; (rw [HNB.out]); have HB1 := Lib.hid (below_drew1 hb1); have HPC1 := cells3_keep HPC.out HB1.out; have HS1 := Lib.hid (And.intro HPC1.1 (And.intro HPC1.2.1 (And.intro HPC1.2.2 (And.intro (HFr2.out _ HB1.out).c2 (HTr2.out _ HB1.out).c2)))); clear hb1 HPC1)))
                    all_goals
                      go_wp2
                      go_roundw
                      case rel => exact ⟨k + 1, by omega, by go_num, HBr2.out _ HB1.out, HFr2.out _ HB1.out, HTr2.out _ HB1.out, hstep⟩
                      case measure => simp [intOf]; omega
                  · have hno := Lib.hid (hnone.out (by simp [Pl.jar, hq]))
                    have K : (((P i).y : Int) != ((P j).y : Int)) = true := by simp; omega
                    clear hq hj
                    go_wp2_with fail
                    rw [← HWp.out]
                    have HS0 := Lib.hid (And.intro HPB.out.1 (And.intro HPB.out.2.1 (And.intro HPB.out.2.2 (And.intro (HFr2.out _ (Below.refl _ _)).c2 (HTr2.out _ (Below.refl _ _)).c2))))
                    go_region_held3 (fun w' => w'.cell? ⟨wr.heap.size, 0, none⟩ = some (.int .i64 (P (i + k)).o) ∧ w'.cell? ⟨wr.heap.size, 1, none⟩ = some (.int .i64 (P (i + k)).x) ∧ w'.cell? ⟨wr.heap.size, 2, none⟩ = some (.int .i64 (P (i + k)).y) ∧ w'.cell? ⟨bf, 2, none⟩ = some (.int .i64 (P i).y) ∧ w'.cell? ⟨bt, 2, none⟩ = some (.int .i64 (P j).y))
                      (first
                        | (go_split_ands; exact HS1.out)
                        | (go_split_ands; exact HS0.out)
                        | go_keep)
                      ((first
                        | ((with_reducible refine (HEm.out _ HBd.out).mono ?_); rintro r w1 ⟨rfl, hb1⟩; (rw [HNB.out]); have HB1 := Lib.hid (below_drew1 hb1); have HPC1 := cells3_keep HPC.out HB1.out; have HS1 := Lib.hid (And.intro HPC1.1 (And.intro HPC1.2.1 (And.intro HPC1.2.2 (And.intro (HFr2.out _ HB1.out).c2 (HTr2.out _ HB1.out).c2)))); clear hb1 HPC1)))
                    all_goals
                      go_wp2
                      go_ret
                      exact ⟨by rw [hno.out]; rfl, HBr2.out _ HB1.out⟩
            · have e : k = j - i := by omega
              have hr : Hid (decide (circR N P i j) = true) := decide_eq_true ⟨H123.out.1, H123.out.2.1, H123.out.2.2, fun q hq => hjars.out q (by omega)⟩
              have hge : ¬ ((k : Int) < ((j - i : Nat) : Int)) := by omega
              clear e
              go_wp2
              go_ret
              exact ⟨by rw [hr.out]; rfl, HBr.out⟩
        · have hr : Hid (decide (circR N P i j) = false) := decide_eq_false (fun h => h3 h.2.2.1)
          have K3 : decide ((P j).y < (P i).y) = true := by simp; omega
          clear h1 h2 h3
          go_wp2
          go_ret
          exact ⟨by rw [hr.out]; rfl, HB.out⟩
      · have hr : Hid (decide (circR N P i j) = false) := decide_eq_false (fun h => h2 h.2.1)
        have K2 : decide ((P j).x < (P i).x) = true := by simp; omega
        clear h1 h2
        go_wp2
        go_ret
        exact ⟨by rw [hr.out]; rfl, HB.out⟩
    · have hr : Hid (decide (circR N P i j) = false) := decide_eq_false (fun h => h1 h.1)
      have K1 : (((P i).o : Int) != ((P j).o : Int)) = true := by simp; omega
      clear h1
      go_wp2
      go_ret
      exact ⟨by rw [hr.out]; rfl, HB.out⟩

end Go.Proofs.Ytiegingpmcloeaa
