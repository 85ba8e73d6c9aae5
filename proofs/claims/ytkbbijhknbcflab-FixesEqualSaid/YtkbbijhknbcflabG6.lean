import Derived.Test.YtkbbijhknbcflabG5
/-
  The program's read, Is, where.
-/
namespace Go.Proofs.Ytkbbijhknbcflab
open Go.RowKit Go.Shelf

theorem neq_fn (w : World) (f : Fn) (a c : Array Value) : (binOp .neq 45 (.func f a c) .nilFunc).run Try.prog w = .ok (.bool true) w := by
  simp only [binOp, Op.equal, Op.maxDepth]
  rw [show (10000 : Nat) = 9999 + 1 from rfl, Op.equalIn]
  simp only [Sem.run_bind, run_underlying Try.underlying45, Result.andThen_ok]
  go_simp
theorem neq_nf (w : World) : (binOp .neq 45 .nilFunc .nilFunc).run Try.prog w = .ok (.bool false) w := by
  simp only [binOp, Op.equal, Op.maxDepth]
  rw [show (10000 : Nat) = 9999 + 1 from rfl, Op.equalIn]
  simp only [Sem.run_bind, run_underlying Try.underlying45, Result.andThen_ok]
  go_simp
attribute [local go_sem] eql_fn eql_nf neq_fn neq_nf

/-- A value means the formula that a text is, or it is nil, and the text is none. -/
def Mt (m : Nat → Bool) (l : List UInt8) (W : World) (v : Value) : Prop := (∃ F, isF m l F ∧ Means W F v) ∨ (v = .nilFunc ∧ ∀ F, ¬ isF m l F)
theorem mt_fn {m : Nat → Bool} {l : List UInt8} {W : World} {v : Value} (h : Mt m l W v) : (∃ f k, v = .func (.func f) #[] k) ∨ v = .nilFunc := by
  rcases h with ⟨F, _, h⟩ | ⟨h, _⟩
  · obtain ⟨f, c, e, _⟩ := h.fn; exact Or.inl ⟨f, c, e⟩
  · exact Or.inr h

set_option maxHeartbeats 4000000 in
set_option maxRecDepth 100000 in
theorem read_any (l o : List UInt8) (w : World) (hz : l.length + o.length ≤ 5000) :
    Calls Try.prog 22 #[.string (st l), .string (st o)] w fun e w' => ∃ v, e = .returned v ∧ Mt (mOf o) l w' v ∧ Below w.heap.size w w' := by
  have hr0 : RdAt w.heap.size l o (w.alloc (.cells #[.string (st l), .string (st o)] 56)) := RdAt.of (heap_alloc_new w _)
  have H := Lib.hid (fc_all l.length w.heap.size l o _ (Nat.le_refl _) hz hr0)
  have HB0 := Lib.hid (below_one w (.cells #[.string (st l), .string (st o)] 56))
  clear hr0
  generalize hL : st l = L at *
  generalize hO : st o = O at *
  clear hL hO
  go_enter Try.func22, Try.ntmps22
  go_wp2_with fail
  refine H.out.mono ?_
  rintro e w1 ⟨v, r, rfl, hr1, kp1, hl1, hm1⟩
  have HB1 := Lib.hid (HB0.out.trans (kp1.below (Nat.le_refl _) (by simp)))
  have hv := fn_or hm1
  obtain ⟨q0, q1, _, _⟩ := hr1
  cases r with
  | nil =>
    have HM : Hid (Mt (mOf o) l w1 v) := by
      rcases hm1 with ⟨F, h1, h2⟩ | ⟨h1, h2⟩
      · exact Or.inl ⟨F, h1.isF, h2⟩
      · exact Or.inr ⟨h1, fun F h => h2 F [] h.begins⟩
    rw [show st [] = ByteArray.empty from rfl] at q0
    clear hm1 kp1
    rcases hv with ⟨f, k, rfl⟩ | rfl
    all_goals
      go_wp2
      go_ret
      exact ⟨_, rfl, HM.out, HB1.out⟩
  | cons x r =>
    have HM : Hid (Mt (mOf o) l w1 .nilFunc) := by
      refine Or.inr ⟨rfl, fun F h => ?_⟩
      rcases hm1 with ⟨G, h1, h2⟩ | ⟨h1, h2⟩
      · have := (h1.uniq h.begins).2
        cases this
      · exact h2 F [] h.begins
    have hne : (st (x :: r)).toList.isEmpty = false := by rw [ByteArray.toList_eq]; rfl
    generalize st (x :: r) = S at *
    clear hm1 kp1
    rcases hv with ⟨f, k, rfl⟩ | rfl
    all_goals
      go_wp2
      go_ret
      exact ⟨_, rfl, HM.out, HB1.out⟩
theorem mOf_nil : mOf [] = fun _ => false := rfl

/-- Is a text a formula? -/
def isB (l : List UInt8) : Prop := l.length ≤ 40 ∧ ∃ F, isF (fun _ => false) l F

set_option maxHeartbeats 4000000 in
set_option maxRecDepth 100000 in
theorem is_yes (l : List UInt8) (w : World) (h : isB l) : Calls Try.prog 15 #[.string (st l)] w fun e w' => SomeB true w e w' := by
  have hr := read_any l [] w (by have := h.1; simp; omega)
  rw [show st [] = ByteArray.empty from rfl, mOf_nil] at hr
  obtain ⟨h40, F0, hF0⟩ := h
  have HR := Lib.hid hr
  have hsz : (st l).size ≤ 40 := by rw [st_size]; exact h40
  have HF := Lib.hid hF0
  clear hr hF0
  generalize st l = L at *
  go_enter Try.func15, Try.ntmps15
  go_wp2_with fail
  refine HR.out.mono ?_
  rintro e w1 ⟨v, rfl, hm, hb⟩
  have HB := Lib.hid hb
  rcases hm with ⟨F, h1, h2⟩ | ⟨h1, h2⟩
  · obtain ⟨f, k, rfl, _⟩ := h2.fn
    clear h1 h2 hb
    go_wp2
    go_ret
    exact ⟨rfl, HB.out⟩
  · exact absurd HF.out (h2 F0)

set_option maxHeartbeats 4000000 in
set_option maxRecDepth 100000 in
theorem is_no (l : List UInt8) (w : World) (hl : l.length ≤ 4900) (h : ¬ isB l) : Calls Try.prog 15 #[.string (st l)] w fun e w' => SomeB false w e w' := by
  have hr := read_any l [] w (by simp; omega)
  rw [show st [] = ByteArray.empty from rfl, mOf_nil] at hr
  have HR := Lib.hid hr
  have hsz : (st l).size = l.length := st_size l
  have HH := Lib.hid h
  clear hr h
  by_cases h40 : l.length ≤ 40
  · have hs2 : (st l).size ≤ 40 := by omega
    clear hsz
    generalize st l = L at *
    go_enter Try.func15, Try.ntmps15
    go_wp2_with fail
    refine HR.out.mono ?_
    rintro e w1 ⟨v, rfl, hm, hb⟩
    have HB := Lib.hid hb
    rcases hm with ⟨F, h1, h2⟩ | ⟨rfl, h2⟩
    · exact absurd ⟨h40, F, h1⟩ HH.out
    · clear h2 hb
      go_wp2
      go_ret
      exact ⟨rfl, HB.out⟩
  · have hs2 : 40 < (st l).size := by omega
    have hs3 : (st l).size ≤ 4900 := by omega
    clear hsz
    generalize st l = L at *
    go_enter Try.func15, Try.ntmps15
    go_wp2
    go_ret
    exact ⟨rfl, Below.refl _ _⟩

theorem mkMap (w : World) : (Instr.makeMap 48 none).run Try.prog w = .ok (.map (some w.heap.size)) (w.alloc (.map #[] 0)) := rfl
theorem VInv.kp {aN : Option Addr} {n cN : Nat} {aM : Option Addr} {m cM : Nat} {w wr wr' : World} (h : VInv aN n cN aM m cM w wr) {b : Nat} (hb : Kp b wr wr') (hne : w.heap.size < b) : VInv aN n cN aM m cM w wr' :=
  ⟨(hb.block _ (Array.getElem?_eq_some_iff.1 h.box).1 (by omega)).trans h.box, h.bel.trans (hb.below (by omega) (by have := h.bel.size; omega))⟩

set_option maxHeartbeats 4000000 in
set_option maxRecDepth 100000 in
theorem where_any (l : List UInt8) (F : Fm) (hF : isF (fun _ => false) l F) (hl : l.length ≤ 4900) (aN : Option Addr) (n cN : Nat) (aM : Option Addr) (cM : Nat) (nx mk : Nat → Nat) (w : World) (hk : Wk w aN n aM nx mk) :
    Calls Try.prog 19 #[wkV aN n cN aM n cM, .string (st l)] w fun e w' => e = .returned (.int .i64 (holds n nx mk F : Nat)) ∧ Below w.heap.size w w' := by
  have HRd := Lib.hid (fun w' => read_any l [] w' (by simp; omega))
  have hbx := below_one w (.cells #[.slice aN n cN, .slice aM n cM] 33)
  have HV := Lib.hid (VInv.start aN n cN aM n cM w)
  have HK := Lib.hid hk
  have HF := Lib.hid hF
  clear hk hF hbx
  rw [show st [] = (⟨#[]⟩ : ByteArray) from rfl, mOf_nil] at HRd
  generalize st l = L at *
  go_enter Try.func19, Try.ntmps19
  go_wp2
  refine wp_region_held_drew (S := (fun w' => w'.cell? ⟨w.heap.size, 0, none⟩ = some (.slice aN n cN) ∧ w'.cell? ⟨w.heap.size, 1, none⟩ = some (.slice aM n cM))) (by kernel_rfl) ?_ (fun hHeld => ?_)
  · exact HV.out.cells
  refine wpAnyH_take (i := 0) (oi := ⟨some 5, _, _, _, _, _⟩) (v := .string L) rfl (by kernel_rfl) (by kernel_rfl) (by kernel_rfl) (fun _ _ _ h => h) (Or.inl ⟨by rfl, fun w2 hSw => ?_⟩) (by assumption) ?_
  · obtain ⟨s0, s1⟩ := hSw; go_simp
  try simp only [Act.put, List.setIfInBounds_toArray, List.set_cons_zero, List.set_cons_succ]
  refine wpAnyH_take (i := 2) (oi := ⟨some 7, _, _, _, _, _⟩) (v := wkV aN n cN aM n cM) rfl (by kernel_rfl) (by kernel_rfl) (by kernel_rfl) (fun _ _ _ h => h) (Or.inl ⟨by rfl, fun w2 hSw => ?_⟩) (by assumption) ?_
  · obtain ⟨s0, s1⟩ := hSw; go_simp
  try simp only [Act.put, List.setIfInBounds_toArray, List.set_cons_zero, List.set_cons_succ]
  refine wpAnyH_ready (rs := [1, 3]) (by kernel_rfl) (by simp) ?_
  refine AllReadyH.cons (o := ⟨some 6, _, _, _, _, _⟩) rfl (fun K hK => ?_) (AllReadyH.cons (o := ⟨some 8, _, _, _, _, _⟩) rfl (fun K hK => ?_) AllReadyH.nil)
  · go_simp
    refine (HRd.out _).mono ?_
    rintro e w1 ⟨v, rfl, hm, hb⟩
    have hm2 : Means w1 F v := by
      rcases hm with ⟨F', h1, h2⟩ | ⟨_, h2⟩
      · obtain rfl := h1.uniq HF.out; exact h2
      · exact absurd HF.out (h2 F)
    obtain ⟨f, k, rfl, en⟩ := hm2.fn
    have hV1 := HV.out.keep (below_drew1 hb)
    have hK1 := (HK.out.keep (Nat.le_refl _) HV.out.bel).keep (Nat.le_refl _) (below_drew1 hb)
    have hsz1 : w.heap.size < w1.heap.size := (Array.getElem?_eq_some_iff.1 hV1.box).1
    have hbm := below_one w1 (.map #[] 0)
    have HV1 := Lib.hid hV1
    have HV2 := Lib.hid (hV1.keep hbm)
    have HC := Lib.hid (ev_all F (fun _ => false) aN n cN aM cM nx mk w1.heap.size (fun _ => 0) f k _ (hm2.keep hbm) HF.out.2 (hK1.keep (Nat.le_refl _) hbm) (sets_made w1) (EnvOk.zero n))
    clear hm hb hm2 hV1 hK1 hbm hHeld
    go_wp2_with fail
    refine hK.out _ _ ?_ (fun hHeld => ?_)
    · exact HV1.out.cells
    clear hK K
    try simp only [Act.put, List.setIfInBounds_toArray, List.set_cons_zero, List.set_cons_succ]
    refine wpAnyH_ready (rs := [3]) (by kernel_rfl) (by simp) ?_
    refine AllReadyH.cons (o := ⟨some 8, _, _, _, _, _⟩) rfl (fun K hK => ?_) AllReadyH.nil
    go_simp
    rw [mkMap]
    go_simp
    clear hHeld
    refine hK.out _ _ ?_ (fun hHeld => ?_)
    · exact HV2.out.cells
    clear hK K
    try simp only [Act.put, List.setIfInBounds_toArray, List.set_cons_zero, List.set_cons_succ]
    refine wpAnyH_ready (rs := [4]) (by kernel_rfl) (by simp) ?_
    refine AllReadyH.cons (o := ⟨some 9, _, _, _, _, _⟩) rfl (fun K hK => ?_) AllReadyH.nil
    go_simp
    refine HC.out.mono ?_
    rintro e w9 ⟨rfl, kp9, _⟩
    have HV9 := Lib.hid (HV2.out.kp kp9 (by omega))
    clear kp9 hHeld
    go_wp2_with fail
    refine hK.out _ _ ?_ (fun hHeld => ?_)
    · exact HV9.out.cells
    clear hK K
    try simp only [Act.put, List.setIfInBounds_toArray, List.set_cons_zero, List.set_cons_succ]
    refine wpAnyH_take (i := 5) (oi := ⟨some 4, _, _, _, _, _⟩) (v := .int .i64 (holds n nx mk F : Nat)) rfl (by kernel_rfl) (by kernel_rfl) (by kernel_rfl) (fun _ _ _ h => h) (Or.inl ⟨by rfl, fun w2 hSw => ?_⟩) (by assumption) ?_
    · (go_simp; try rfl)
    try simp only [Act.put, List.setIfInBounds_toArray, List.set_cons_zero, List.set_cons_succ]
    refine wpAnyH_done (by kernel_rfl) ?_ _
    go_wp2
    go_ret
    exact ⟨rfl, HV9.out.bel⟩
  · go_simp
    rw [mkMap]
    go_simp
    have hbm := below_one ((w.alloc (.cells #[.slice aN n cN, .slice aM n cM] 33)).drew) (.map #[] 0)
    have HV0 := Lib.hid (HV.out.keep (below_drew1 hbm))
    have HK0 := Lib.hid ((HK.out.keep (Nat.le_refl _) HV.out.bel).keep (Nat.le_refl _) (below_drew1 hbm))
    have HS0 := Lib.hid (sets_made ((w.alloc (.cells #[.slice aN n cN, .slice aM n cM] 33)).drew))
    have hsz0 : ((w.alloc (.cells #[.slice aN n cN, .slice aM n cM] 33)).drew).heap.size = w.heap.size + 1 := by simp
    clear hHeld hbm
    refine hK.out _ _ ?_ (fun hHeld => ?_)
    · exact HV0.out.cells
    clear hK K
    try simp only [Act.put, List.setIfInBounds_toArray, List.set_cons_zero, List.set_cons_succ]
    refine wpAnyH_ready (rs := [1]) (by kernel_rfl) (by simp) ?_
    refine AllReadyH.cons (o := ⟨some 6, _, _, _, _, _⟩) rfl (fun K hK => ?_) AllReadyH.nil
    go_simp
    refine (HRd.out _).mono ?_
    rintro e w1 ⟨v, rfl, hm, hb⟩
    have hm2 : Means w1 F v := by
      rcases hm with ⟨F', h1, h2⟩ | ⟨_, h2⟩
      · obtain rfl := h1.uniq HF.out; exact h2
      · exact absurd HF.out (h2 F)
    obtain ⟨f, k, rfl, en⟩ := hm2.fn
    have hV1 := HV0.out.keep hb
    have hK1 := HK0.out.keep (Nat.le_refl _) hb
    have hS1 := HS0.out.keep hb
    rw [hsz0] at hS1
    have HV2 := Lib.hid hV1
    have HC := Lib.hid (ev_all F (fun _ => false) aN n cN aM cM nx mk (w.heap.size + 1) (fun _ => 0) f k _ hm2 HF.out.2 hK1 hS1 (EnvOk.zero n))
    clear hm hb hm2 hV1 hK1 hS1 hHeld
    go_wp2_with fail
    refine hK.out _ _ ?_ (fun hHeld => ?_)
    · exact HV2.out.cells
    clear hK K
    try simp only [Act.put, List.setIfInBounds_toArray, List.set_cons_zero, List.set_cons_succ]
    refine wpAnyH_ready (rs := [4]) (by kernel_rfl) (by simp) ?_
    refine AllReadyH.cons (o := ⟨some 9, _, _, _, _, _⟩) rfl (fun K hK => ?_) AllReadyH.nil
    go_simp
    refine HC.out.mono ?_
    rintro e w9 ⟨rfl, kp9, _⟩
    have HV9 := Lib.hid (HV2.out.kp kp9 (by omega))
    clear kp9 hHeld
    go_wp2_with fail
    refine hK.out _ _ ?_ (fun hHeld => ?_)
    · exact HV9.out.cells
    clear hK K
    try simp only [Act.put, List.setIfInBounds_toArray, List.set_cons_zero, List.set_cons_succ]
    refine wpAnyH_take (i := 5) (oi := ⟨some 4, _, _, _, _, _⟩) (v := .int .i64 (holds n nx mk F : Nat)) rfl (by kernel_rfl) (by kernel_rfl) (by kernel_rfl) (fun _ _ _ h => h) (Or.inl ⟨by rfl, fun w2 hSw => ?_⟩) (by assumption) ?_
    · (go_simp; try rfl)
    try simp only [Act.put, List.setIfInBounds_toArray, List.set_cons_zero, List.set_cons_succ]
    refine wpAnyH_done (by kernel_rfl) ?_ _
    go_wp2
    go_ret
    exact ⟨rfl, HV9.out.bel⟩
end Go.Proofs.Ytkbbijhknbcflab
