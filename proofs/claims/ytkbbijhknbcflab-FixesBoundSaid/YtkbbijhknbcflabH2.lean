import Derived.Test.YtkbbijhknbcflabH1
/-
  The program's Steps.
-/
namespace Go.Proofs.Ytkbbijhknbcflab
open Go.RowKit Go.Shelf

theorem isFixed_r (r : Bool) (x : UInt8) (w : World) (hr : (x == 109 || x == 103) = r) : Calls Try.prog 21 #[.int .u8 (x.toNat : Int)] w fun e w' => e = .returned (.bool r) ∧ w' = w := by
  by_cases h1 : x = 109
  · subst h1
    obtain rfl : true = r := by rw [← hr]; rfl
    clear hr
    show Calls Try.prog 21 #[.int .u8 109] w _
    go_enter Try.func21, Try.ntmps21
    go_wp2
    go_ret
    exact ⟨rfl, rfl⟩
  · by_cases h2 : x = 103
    · subst h2
      obtain rfl : true = r := by rw [← hr]; rfl
      clear hr
      show Calls Try.prog 21 #[.int .u8 103] w _
      go_enter Try.func21, Try.ntmps21
      go_wp2
      go_ret
      exact ⟨rfl, rfl⟩
    · obtain rfl : false = r := by rw [← hr]; simp [h1, h2]
      have g1 : ((x.toNat : Int) == 109) = false := by rw [beq_eq_false_iff_ne]; intro e; exact h1 (UInt8.toNat_inj.1 (by have e2 : (109 : UInt8).toNat = 109 := rfl; omega))
      have g2 : ((x.toNat : Int) == 103) = false := by rw [beq_eq_false_iff_ne]; intro e; exact h2 (UInt8.toNat_inj.1 (by have e2 : (103 : UInt8).toNat = 103 := rfl; omega))
      have hx := UInt8.toNat_lt x
      generalize (x.toNat : Int) = Y at *
      clear hr h1 h2
      go_enter Try.func21, Try.ntmps21
      go_wp2
      go_ret
      exact ⟨rfl, rfl⟩

/-- The same as a works that is valid: its cells. -/
theorem st_drop2 (x y : UInt8) (t : List UInt8) : (st (x :: y :: t)).extract 2 (st (x :: y :: t)).size = st t := by
  rw [st_of ((st (x :: y :: t)).extract 2 (st (x :: y :: t)).size), extract_data, st_size, st_data]
  simp
theorem st_mid (x y : UInt8) (t : List UInt8) : (st (x :: y :: t)).extract 1 2 = st [y] := by
  rw [st_of ((st (x :: y :: t)).extract 1 2), extract_data, st_data]
  simp

set_option maxHeartbeats 4000000 in
set_option maxRecDepth 100000 in
theorem fSteps_good (g : Bool) (c : Nat) (F : Fm) (aN : Option Addr) (n cN : Nat) (aM : Option Addr) (m cM : Nat) (T L : Nat → Int) (k : Nat) (w : World) (hv : isWk n m T L = true) (h40 : (str (.fix g c F)).length ≤ 40) (hw : wf (fun _ => false) (.fix g c F)) (hT : Ints w aN n T) (hL : Ints w aM m L)
    (hkn : k ≤ n) (hF : First (fun X => den n (nat T) (nat L) F (upd (fun _ => 0) c X)) (beg g n) k) :
    Calls Try.prog 13 #[wkV aN n cN aM m cM, .string (st (str (.fix g c F)))] w fun e w' => NumOut ((k : Int) + 1) 0 w e w' := by
  obtain ⟨h1, h6, hmn, _⟩ := isWk_iff.1 hv
  subst hmn
  have hI := VInv.start aN m cN aM m cM w
  have hT1 := hT.keep (Nat.le_refl _) hI.bel
  have hL1 := hL.keep (Nat.le_refl _) hI.bel
  have HV := Lib.hid (valid_r true aN m cN aM m cM T L _ hv (by omega) (by omega) hT1 hL1)
  have HI := Lib.hid hI
  have HS := Lib.hid (fun W => is_yes _ W ⟨h40, _, rfl, hw⟩)
  have HK := Lib.hid (wk_of hv hT1 hL1)
  have hlF : (str F).length ≤ 40 := by simp only [str, List.length_cons] at h40; omega
  have HRd := Lib.hid (fun W => read_any (str F) [lett c] W (by simp; omega))
  have hc := hw.1.1
  have hmo : Hid (∀ i, i < 3 → mOf [lett c] i = more (fun _ => false) c i) := fun i hi => by
    have := more_of (o := []) hc i hi
    rw [List.nil_append] at this
    rw [this]; rfl
  have HDr : Hid ((st (str (.fix g c F))).extract 2 (st (str (.fix g c F))).size = st (str F)) := st_drop2 _ _ _
  have HMi : Hid ((st (str (.fix g c F))).extract 1 2 = st [lett c]) := st_mid _ _ _
  have hsz : (st (str (.fix g c F))).size ≤ 40 := by rw [st_size]; exact h40
  have hsz2 : 2 ≤ (st (str (.fix g c F))).size := by rw [st_size]; simp [str]
  have hg0 : ∀ h : 0 < (st (str (.fix g c F))).size, ((st (str (.fix g c F)))[0].toNat : Int) = if g then 103 else 109 := fun h => by cases g <;> rfl
  have hg1 : ∀ h : 1 < (st (str (.fix g c F))).size, ((st (str (.fix g c F)))[1].toNat : Int) = (120 + c : Nat) := fun h => lett_nat hc
  have HX := Lib.hid (fun f1 k1 b W hM hk hS en1 => wfixed_any g c F (ev_all F) (fun _ => false) aN m cN aM cM (nat T) (nat L) b (fun _ => 0) f1 k1 k W hc hM hw.2 rfl hk hS (EnvOk.zero m) hkn hF en1)
  have HFx := Lib.hid (fun W => isFixed_r true (if g then 103 else 109) W (by cases g <;> rfl))
  have HWf := Lib.hid hw
  rw [← HDr.out, ← HMi.out] at HRd
  obtain ⟨q0, q1⟩ := hI.cells
  generalize st (str (.fix g c F)) = S at *
  have HZ2 := Lib.hid hsz2
  have hszI : (2 : Int) ≤ (S.size : Int) := by omega
  have hg0' := hg0 (by omega)
  have hg1' := hg1 (by omega)
  generalize hG : (if g = true then (103 : Int) else 109) = G at *
  have HFx2 : Hid (∀ W, Calls Try.prog 21 #[.int .u8 G] W fun e w' => e = .returned (.bool true) ∧ w' = W) := by
    intro W
    have := HFx.out W
    rw [show (((if g then 103 else 109 : UInt8)).toNat : Int) = G by rw [← hG]; cases g <;> rfl] at this
    exact this
  generalize hYc : ((120 + c : Nat) : Int) = Y at *
  clear hT hL hv hI hT1 hL1 hF hw hG hYc
  go_enter Try.func13, Try.ntmps13
  go_wp2_with fail
  refine HV.out.mono ?_
  rintro e w1 ⟨rfl, hb1⟩
  have HI1 := Lib.hid (HI.out.keep hb1)
  have HB1 := Lib.hid hb1
  clear hb1 q0 q1
  go_wp2_with fail
  refine (HS.out _).mono ?_
  rintro e w2 ⟨rfl, hb2⟩
  have HI2 := Lib.hid (HI1.out.keep hb2)
  have HB2 := Lib.hid (band HB1.out hb2)
  clear hb2
  go_wp2_with fail
  refine (HFx2.out _).mono ?_
  rintro e wq ⟨rfl, rfl⟩
  obtain ⟨q0, q1⟩ := HI2.out.cells
  go_wp2
  go_region_held3 (fun w' => w'.cell? ⟨w.heap.size, 0, none⟩ = some (.slice aN m cN) ∧ w'.cell? ⟨w.heap.size, 1, none⟩ = some (.slice aM m cM))
    (first
      | go_keep
      | (go_split_ands; exact HI3.out.cells))
    ((first
      | ((with_reducible refine (HRd.out _).mono ?_); rintro e w3 ⟨v, rfl, hm, hb3⟩; have hm3 := hm; have HI3 := Lib.hid (HI2.out.keep (below_drew1 hb3)); have HB3 := Lib.hid (band HB2.out (below_drew1 hb3)); clear hb3 hm)))
  all_goals
    have hFw : isF (mOf [lett c]) (str F) F := ⟨rfl, wf_congr F (fun i hi => (hmo.out i hi).symm) HWf.out.2⟩
    have hM : Means w3 F v := by
      rcases hm3 with ⟨F', h1, h2⟩ | ⟨_, h2⟩
      · obtain rfl := h1.uniq hFw; exact h2
      · exact absurd hFw (h2 F)
    obtain ⟨f1, k1, rfl, en1⟩ := hM.fn
    have HM := Lib.hid hM
    have HKw := Lib.hid (HK.out.keep (Nat.le_refl _) HB3.out)
    clear hm3 hFw hM q0 q1
    generalize iter (fun X => den m (nat T) (nat L) F (upd (fun _ => 0) c X)) (beg g m) k = X at HX
    go_wp2
    refine wp_region_held_drew (S := (fun w' => w'.cell? ⟨w.heap.size, 0, none⟩ = some (.slice aN m cN) ∧ w'.cell? ⟨w.heap.size, 1, none⟩ = some (.slice aM m cM))) (by kernel_rfl) ?_ (fun hHeld => ?_)
    · exact HI3.out.cells
    refine wpAnyH_take (i := 0) (oi := ⟨some 27, _, _, _, _, _⟩) (v := wkV aN m cN aM m cM) rfl (by kernel_rfl) (by kernel_rfl) (by kernel_rfl) (fun _ _ _ h => h) (Or.inl ⟨by rfl, fun w2 hSw => ?_⟩) (by assumption) ?_
    · (obtain ⟨s0, s1⟩ := hSw; go_simp; try rfl; try (intro h; exfalso; have hz := HZ2.out; first | omega | (rw [h] at hz; exact absurd hz (by decide))))
    try simp only [Act.put, List.setIfInBounds_toArray, List.set_cons_zero, List.set_cons_succ]
    refine wpAnyH_take (i := 1) (oi := ⟨some 28, _, _, _, _, _⟩) (v := .string S) rfl (by kernel_rfl) (by kernel_rfl) (by kernel_rfl) (fun _ _ _ h => h) (Or.inl ⟨by rfl, fun w2 hSw => ?_⟩) (by assumption) ?_
    · (go_simp; try rfl; try (intro h; exfalso; have hz := HZ2.out; first | omega | (rw [h] at hz; exact absurd hz (by decide))))
    try simp only [Act.put, List.setIfInBounds_toArray, List.set_cons_zero, List.set_cons_succ]
    refine wpAnyH_take (i := 2) (oi := ⟨some 29, _, _, _, _, _⟩) (v := .int .u8 G) rfl (by kernel_rfl) (by kernel_rfl) (by kernel_rfl) (fun _ _ _ h => h) (Or.inl ⟨by rfl, fun w2 hSw => ?_⟩) (by assumption) ?_
    · go_simp
      intro h
      exfalso
      have hz := HZ2.out
      rw [h] at hz
      exact absurd hz (by decide)
    try simp only [Act.put, List.setIfInBounds_toArray, List.set_cons_zero, List.set_cons_succ]
    refine wpAnyH_take (i := 3) (oi := ⟨some 30, _, _, _, _, _⟩) (v := .string S) rfl (by kernel_rfl) (by kernel_rfl) (by kernel_rfl) (fun _ _ _ h => h) (Or.inl ⟨by rfl, fun w2 hSw => ?_⟩) (by assumption) ?_
    · (go_simp; try rfl; try (intro h; exfalso; have hz := HZ2.out; first | omega | (rw [h] at hz; exact absurd hz (by decide))))
    try simp only [Act.put, List.setIfInBounds_toArray, List.set_cons_zero, List.set_cons_succ]
    refine wpAnyH_take (i := 4) (oi := ⟨some 31, _, _, _, _, _⟩) (v := .int .u8 Y) rfl (by kernel_rfl) (by kernel_rfl) (by kernel_rfl) (fun _ _ _ h => h) (Or.inl ⟨by rfl, fun w2 hSw => ?_⟩) (by assumption) ?_
    · go_simp
      intro h
      exfalso
      have hz := HZ2.out
      omega
    try simp only [Act.put, List.setIfInBounds_toArray, List.set_cons_zero, List.set_cons_succ]
    refine wpAnyH_take (i := 5) (oi := ⟨some 32, _, _, _, _, _⟩) (v := .func (.func f1) #[] k1) rfl (by kernel_rfl) (by kernel_rfl) (by kernel_rfl) (fun _ _ _ h => h) (Or.inl ⟨by rfl, fun w2 hSw => ?_⟩) (by assumption) ?_
    · (go_simp; try rfl; try (intro h; exfalso; have hz := HZ2.out; first | omega | (rw [h] at hz; exact absurd hz (by decide))))
    try simp only [Act.put, List.setIfInBounds_toArray, List.set_cons_zero, List.set_cons_succ]
    refine wpAnyH_ready (rs := [6]) (by kernel_rfl) (by simp) ?_
    refine AllReadyH.cons (o := ⟨some 33, _, _, _, _, _⟩) rfl (fun K hK => ?_) AllReadyH.nil
    go_simp
    rw [mkMap]
    go_simp
    have hbm := below_one (w3.drew) (.map #[] 0)
    have HI4 := Lib.hid (HI3.out.keep (below_drew1 hbm))
    have HC := Lib.hid (HX.out f1 k1 w3.heap.size _ (HM.out.keep (below_drew1 hbm)) (HKw.out.keep (Nat.le_refl _) (below_drew1 hbm)) (sets_made w3.drew) en1)
    have hsz3 : w.heap.size < w3.heap.size := (Array.getElem?_eq_some_iff.1 HI3.out.box).1
    clear hHeld hbm
    refine hK.out _ _ ?_ (fun hHeld => ?_)
    · exact HI4.out.cells
    clear hK K
    try simp only [Act.put, List.setIfInBounds_toArray, List.set_cons_zero, List.set_cons_succ]
    refine wpAnyH_ready (rs := [7]) (by kernel_rfl) (by simp) ?_
    refine AllReadyH.cons (o := ⟨some 34, _, _, _, _, _⟩) rfl (fun K hK => ?_) AllReadyH.nil
    go_simp
    refine HC.out.mono ?_
    rintro e w9 ⟨rfl, kp9, _⟩
    have HI9 := Lib.hid (HI4.out.kp kp9 hsz3)
    clear kp9 hHeld
    go_wp2_with fail
    refine hK.out _ _ ?_ (fun hHeld => ?_)
    · exact HI9.out.cells
    clear hK K
    try simp only [Act.put, List.setIfInBounds_toArray, List.set_cons_zero, List.set_cons_succ]
    refine wpAnyH_take (i := 8) (oi := ⟨some 26, _, _, _, _, _⟩) (v := .tuple #[.int .i64 (X : Nat), .int .i64 ((k : Int) + 1)]) rfl (by kernel_rfl) (by kernel_rfl) (by kernel_rfl) (fun _ _ _ h => h) (Or.inl ⟨by rfl, fun w2 hSw => ?_⟩) (by assumption) ?_
    · (go_simp; try rfl; try (intro h; exfalso; have hz := HZ2.out; first | omega | (rw [h] at hz; exact absurd hz (by decide))))
    try simp only [Act.put, List.setIfInBounds_toArray, List.set_cons_zero, List.set_cons_succ]
    refine wpAnyH_take (i := 9) (oi := ⟨some 35, _, _, _, _, _⟩) (v := .int .i64 (X : Nat)) rfl (by kernel_rfl) (by kernel_rfl) (by kernel_rfl) (fun _ _ _ h => h) (Or.inl ⟨by rfl, fun w2 hSw => ?_⟩) (by assumption) ?_
    · (go_simp; try rfl; try (intro h; exfalso; have hz := HZ2.out; first | omega | (rw [h] at hz; exact absurd hz (by decide))))
    try simp only [Act.put, List.setIfInBounds_toArray, List.set_cons_zero, List.set_cons_succ]
    refine wpAnyH_take (i := 10) (oi := ⟨some 36, _, _, _, _, _⟩) (v := .int .i64 ((k : Int) + 1)) rfl (by kernel_rfl) (by kernel_rfl) (by kernel_rfl) (fun _ _ _ h => h) (Or.inl ⟨by rfl, fun w2 hSw => ?_⟩) (by assumption) ?_
    · (go_simp; try rfl; try (intro h; exfalso; have hz := HZ2.out; first | omega | (rw [h] at hz; exact absurd hz (by decide))))
    try simp only [Act.put, List.setIfInBounds_toArray, List.set_cons_zero, List.set_cons_succ]
    refine wpAnyH_take (i := 11) (oi := ⟨some 7, _, _, _, _, _⟩) (v := .int .i64 (X : Nat)) rfl (by kernel_rfl) (by kernel_rfl) (by kernel_rfl) (fun _ _ _ h => h) (Or.inl ⟨by rfl, fun w2 hSw => ?_⟩) (by assumption) ?_
    · (go_simp; try rfl; try (intro h; exfalso; have hz := HZ2.out; first | omega | (rw [h] at hz; exact absurd hz (by decide))))
    try simp only [Act.put, List.setIfInBounds_toArray, List.set_cons_zero, List.set_cons_succ]
    refine wpAnyH_take (i := 12) (oi := ⟨some 8, _, _, _, _, _⟩) (v := .int .i64 ((k : Int) + 1)) rfl (by kernel_rfl) (by kernel_rfl) (by kernel_rfl) (fun _ _ _ h => h) (Or.inl ⟨by rfl, fun w2 hSw => ?_⟩) (by assumption) ?_
    · (go_simp; try rfl; try (intro h; exfalso; have hz := HZ2.out; first | omega | (rw [h] at hz; exact absurd hz (by decide))))
    try simp only [Act.put, List.setIfInBounds_toArray, List.set_cons_zero, List.set_cons_succ]
    refine wpAnyH_done (by kernel_rfl) ?_ _
    go_wp2
    exact bodyPost_ret (v := .tuple #[.int .i64 ((k : Int) + 1), .int .i64 0]) (by simp [results, Try.results13, go_sem]) rfl ⟨rfl, HI9.out.bel⟩

set_option maxHeartbeats 4000000 in
set_option maxRecDepth 100000 in
theorem fSteps_arg (aN : Option Addr) (n cN : Nat) (aM : Option Addr) (m cM : Nat) (T L : Nat → Int) (s : ByteArray) (w : World) (hn : n ≤ 9) (hm : m ≤ 9) (hv : isWk n m T L = false) (hT : Ints w aN n T) (hL : Ints w aM m L) :
    Calls Try.prog 13 #[wkV aN n cN aM m cM, .string s] w fun e w' => NumOut 0 2 w e w' := by
  have hI := VInv.start aN n cN aM m cM w
  have HV := Lib.hid (valid_r false aN n cN aM m cM T L _ hv hn hm (hT.keep (Nat.le_refl _) hI.bel) (hL.keep (Nat.le_refl _) hI.bel))
  have HI := Lib.hid hI
  obtain ⟨q0, q1⟩ := hI.cells
  clear hT hL hv hI
  go_enter Try.func13, Try.ntmps13
  go_wp2_with fail
  refine HV.out.mono ?_
  rintro e w1 ⟨rfl, hb1⟩
  have HB1 := Lib.hid (HI.out.keep hb1).bel
  clear hb1 q0 q1
  go_wp2
  exact bodyPost_ret (v := .tuple #[.int .i64 0, .int .i64 2]) (by simp [results, Try.results13, go_sem]) rfl ⟨rfl, HB1.out⟩

/-- A text that is a formula and begins with m or g. -/
def isFx (l : List UInt8) : Prop := l.length ≤ 40 ∧ ∃ g c F, isF (fun _ => false) l (.fix g c F)
theorem isFx_head {l : List UInt8} {F : Fm} (h : isF (fun _ => false) l F) (hn : ¬ ∃ g c G, F = .fix g c G) : ∃ x t, l = x :: t ∧ x ≠ 109 ∧ x ≠ 103 := by
  obtain ⟨x, t, e, k⟩ := kind_str h.2 []
  rw [List.append_nil, ← h.1] at e
  refine ⟨x, t, e, ?_, ?_⟩
  · rintro rfl
    cases F <;> first | (simp [kd, kind] at k; done) | exact hn ⟨_, _, _, rfl⟩
  · rintro rfl
    cases F <;> first | (simp [kd, kind] at k; done) | exact hn ⟨_, _, _, rfl⟩

set_option maxHeartbeats 4000000 in
set_option maxRecDepth 100000 in
theorem fSteps_form (aN : Option Addr) (n cN : Nat) (aM : Option Addr) (m cM : Nat) (T L : Nat → Int) (l : List UInt8) (w : World) (hl : l.length ≤ 4900) (hv : isWk n m T L = true) (hB : ¬ isFx l) (hT : Ints w aN n T) (hL : Ints w aM m L) :
    Calls Try.prog 13 #[wkV aN n cN aM m cM, .string (st l)] w fun e w' => NumOut 0 3 w e w' := by
  obtain ⟨h1, h6, hmn, _⟩ := isWk_iff.1 hv
  subst hmn
  have hI := VInv.start aN m cN aM m cM w
  have HV := Lib.hid (valid_r true aN m cN aM m cM T L _ hv (by omega) (by omega) (hT.keep (Nat.le_refl _) hI.bel) (hL.keep (Nat.le_refl _) hI.bel))
  have HI := Lib.hid hI
  obtain ⟨q0, q1⟩ := hI.cells
  by_cases hb : isB l
  · have HS := Lib.hid (fun W => is_yes l W hb)
    obtain ⟨h40, F, hF⟩ := hb
    obtain ⟨x, t, e, hx1, hx2⟩ := isFx_head hF (by rintro ⟨g, c, G, rfl⟩; exact hB ⟨h40, g, c, G, hF⟩)
    have HFx := Lib.hid (fun W => isFixed_r false x W (by simp [hx1, hx2]))
    subst e
    have hsz : 0 < (st (x :: t)).size := by rw [st_size]; simp
    have hsz2 : (st (x :: t)).size ≤ 40 := by rw [st_size]; exact h40
    have hg : ∀ h : 0 < (st (x :: t)).size, ((st (x :: t))[0].toNat : Int) = (x.toNat : Int) := fun _ => rfl
    generalize st (x :: t) = S at *
    have hg' := hg hsz
    generalize (x.toNat : Int) = Y at *
    clear hT hL hv hI hB hF h40 hx1 hx2 hl
    go_enter Try.func13, Try.ntmps13
    go_wp2_with fail
    refine HV.out.mono ?_
    rintro e w1 ⟨rfl, hb1⟩
    have HI1 := Lib.hid (HI.out.keep hb1)
    clear hb1 q0 q1
    go_wp2_with fail
    refine (HS.out _).mono ?_
    rintro e w2 ⟨rfl, hb2⟩
    have HI2 := Lib.hid (HI1.out.keep hb2)
    clear hb2
    go_wp2_with fail
    refine (HFx.out _).mono ?_
    rintro e wq ⟨rfl, rfl⟩
    go_wp2
    exact bodyPost_ret (v := .tuple #[.int .i64 0, .int .i64 3]) (by simp [results, Try.results13, go_sem]) rfl ⟨rfl, HI2.out.bel⟩
  · have HS := Lib.hid (fun W => is_no l W hl hb)
    generalize st l = S at *
    clear hT hL hv hI hB hb
    go_enter Try.func13, Try.ntmps13
    go_wp2_with fail
    refine HV.out.mono ?_
    rintro e w1 ⟨rfl, hb1⟩
    have HI1 := Lib.hid (HI.out.keep hb1)
    clear hb1 q0 q1
    go_wp2_with fail
    refine (HS.out _).mono ?_
    rintro e w2 ⟨rfl, hb2⟩
    have HI2 := Lib.hid (HI1.out.keep hb2)
    clear hb2
    go_wp2
    exact bodyPost_ret (v := .tuple #[.int .i64 0, .int .i64 3]) (by simp [results, Try.results13, go_sem]) rfl ⟨rfl, HI2.out.bel⟩
end Go.Proofs.Ytkbbijhknbcflab
