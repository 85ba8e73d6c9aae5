import Derived.Test.YtkbbijhknbcflabF3
/-
  What a function value that the reader makes means: fixed points.
-/
namespace Go.Proofs.Ytkbbijhknbcflab
open Go.RowKit Go.Shelf

/-- The boxes of 'fixed': the works, the letter, the formula within, the map. -/
structure FxAt (aN : Option Addr) (n cN : Nat) (aM : Option Addr) (cM c : Nat) (v : Value) (b : Nat) (W w : World) : Prop where
  c0 : w.cell? ⟨W.heap.size, 0, none⟩ = some (.slice aN n cN)
  c1 : w.cell? ⟨W.heap.size, 1, none⟩ = some (.slice aM n cM)
  c2 : w.cell? ⟨W.heap.size + 1, 0, none⟩ = some (.int .u8 (120 + c : Nat))
  c3 : w.cell? ⟨W.heap.size + 1 + 1, 0, none⟩ = some v
  c4 : w.cell? ⟨W.heap.size + 1 + 1 + 1, 0, none⟩ = some (.map (some b))
theorem FxAt.move {aN : Option Addr} {n cN : Nat} {aM : Option Addr} {cM c : Nat} {v : Value} {b : Nat} {W w w' : World} (h : FxAt aN n cN aM cM c v b W w) (k : ∀ p u, w.cell? p = some u → w'.cell? p = some u) : FxAt aN n cN aM cM c v b W w' :=
  ⟨k _ _ h.c0, k _ _ h.c1, k _ _ h.c2, k _ _ h.c3, k _ _ h.c4⟩
theorem FxAt.kp {aN : Option Addr} {n cN : Nat} {aM : Option Addr} {cM c : Nat} {v : Value} {b : Nat} {W w w' : World} {e : Nat → Nat} (h : FxAt aN n cN aM cM c v b W w) (hs : SetsAt w b e) (hb : Kp b w w') : FxAt aN n cN aM cM c v b W w' :=
  h.move fun _ _ hc => hb.cell hc (hs.noCell hc)
theorem FxAt.keep {aN : Option Addr} {n cN : Nat} {aM : Option Addr} {cM c : Nat} {v : Value} {b : Nat} {W w w' : World} (h : FxAt aN n cN aM cM c v b W w) (hb : Below w.heap.size w w') : FxAt aN n cN aM cM c v b W w' :=
  h.move fun _ _ hc => (hb.cell (World.block_lt_of_cell? _ _ hc)).trans hc
theorem heap_four (w : World) (o1 o2 o3 o4 : Obj) : ((((w.alloc o1).alloc o2).alloc o3).alloc o4).heap[w.heap.size]? = some o1 ∧ ((((w.alloc o1).alloc o2).alloc o3).alloc o4).heap[w.heap.size + 1]? = some o2 ∧
    ((((w.alloc o1).alloc o2).alloc o3).alloc o4).heap[w.heap.size + 1 + 1]? = some o3 ∧ ((((w.alloc o1).alloc o2).alloc o3).alloc o4).heap[w.heap.size + 1 + 1 + 1]? = some o4 := by
  refine ⟨?_, ?_, ?_, ?_⟩
  · rw [Below.heap_alloc _ _ _ (by simp <;> omega), Below.heap_alloc _ _ _ (by simp <;> omega)]; exact heap_two1 w _ _
  · rw [Below.heap_alloc _ _ _ (by simp <;> omega), Below.heap_alloc _ _ _ (by simp <;> omega)]; exact heap_two2 w _ _
  · rw [Below.heap_alloc _ _ _ (by simp)]; exact heap_two2 (w.alloc o1) _ _ |> fun h => by simpa using h
  · have := heap_two2 ((w.alloc o1).alloc o2) o3 o4; simpa using this
theorem below_four (w : World) (o1 o2 o3 o4 : Obj) : Below w.heap.size w ((((w.alloc o1).alloc o2).alloc o3).alloc o4) := (((below_two w o1 o2).alloc (by simp; omega) _).alloc (by simp; omega) _)
theorem FxAt.start (aN : Option Addr) (n cN : Nat) (aM : Option Addr) (cM c : Nat) (v : Value) (b : Nat) (W : World) :
    FxAt aN n cN aM cM c v b W ((((W.alloc (.cells #[.slice aN n cN, .slice aM n cM] 33)).alloc (.cells #[.int .u8 (120 + c : Nat)] 5)).alloc (.cells #[v] 45)).alloc (.cells #[.map (some b)] 48)) := by
  obtain ⟨h1, h2, h3, h4⟩ := heap_four W (.cells #[.slice aN n cN, .slice aM n cM] 33) (.cells #[.int .u8 (120 + c : Nat)] 5) (.cells #[v] 45) (.cells #[.map (some b)] 48)
  exact ⟨block_cell h1 0, block_cell h1 1, block_cell h2 0, block_cell h3 0, block_cell h4 0⟩

/-- The letters that may be used within. -/
def more (m : Nat → Bool) (c : Nat) : Nat → Bool := fun i => m i || i == c

set_option maxHeartbeats 4000000 in
set_option maxRecDepth 100000 in
theorem fixed1_any (c : Nat) (l : Fm) (ih : Ev l) (m : Nat → Bool) (aN : Option Addr) (n cN : Nat) (aM : Option Addr) (cM : Nat) (nx mk : Nat → Nat) (b : Nat) (e : Nat → Nat) (f1 : Nat) (k1 : Array Value) (X : Nat) (W W0 : World) (hc : c < 3)
    (hF : FxAt aN n cN aM cM c (.func (.func f1) #[] k1) b W0 W) (hM : Means W l (.func (.func f1) #[] k1)) (hw : wf (more m c) l) (hk : Wk W aN n aM nx mk) (hS : SetsAt W b e) (hE : EnvOk n e) (hX : X < 2 ^ n)
    (en1 : ∀ (args : Array Value) (w : World), (callFunc f1 args).run Try.prog w = .ok (.enter f1 args) w) :
    Calls Try.prog 34 #[.int .i64 (X : Nat), .pointer (some ⟨W0.heap.size + 1 + 1 + 1, 0, none⟩), .pointer (some ⟨W0.heap.size + 1, 0, none⟩), .pointer (some ⟨W0.heap.size + 1 + 1, 0, none⟩), .pointer (some ⟨W0.heap.size, 0, none⟩)] W fun r W' =>
      EvOut b n (more m c) (upd e c X) (den n nx mk l (upd e c X)) W r W' := by
  have h64 := lt64 hX hk.n6
  have HF := Lib.hid hF
  have HM := Lib.hid hM
  have Hw := Lib.hid hw
  have HK := Lib.hid hk
  have HS := Lib.hid hS
  have HE := Lib.hid (hE.upd c hX)
  have HC3 := Lib.hid hc
  obtain ⟨q0, q1, q2, q3, q4⟩ := hF
  have HX := Lib.hid h64
  have HI := Lib.hid ih
  generalize hY : ((120 + c : Nat) : Int) = Y at q2
  have HY := Lib.hid hY
  clear hM hw hk hS hE hc hX hY ih h64
  go_enter Try.func34, Try.ntmps34
  go_wp2_with (at_mapUpdate; refine wpList_update_sets _ rfl _ _ _ rfl b e rfl HS.out c HC3.out (by simp [HY.out, Act.eval]) X HX.out rfl ?_)
  intro w1 hs1 hg1
  have kp1 := Kp.grown hg1
  have HF1 := Lib.hid (HF.out.kp HS.out kp1)
  have H1 := Lib.hid (HI.out (more m c) aN n cN aM cM nx mk b (upd e c X) f1 k1 w1 (HM.out.kp HS.out kp1) Hw.out (HK.out.kp HS.out kp1) hs1 HE.out)
  have HKp := Lib.hid kp1
  obtain ⟨r0, r1, r2, r3, r4⟩ := HF1.out
  clear kp1 hs1 hg1 q0 q1 q2 q3 q4 r2
  go_wp2_with (go_at_fn f1; refine H1.out.mono ?_)
  rintro z w2 ⟨rfl, kp2, e2, hs2, he2, ha2⟩
  have HEnd : Hid (Kp b W w2 ∧ ∃ e', SetsAt w2 b e' ∧ EnvOk n e' ∧ ∀ i, i < 3 → more m c i = true → e' i = upd e c X i) := ⟨HKp.out.trans kp2, e2, hs2, he2, ha2⟩
  clear kp2 hs2 he2 ha2 r0 r1 r3 r4
  go_wp2
  go_ret
  exact ⟨rfl, HEnd.out⟩

/-- What 'fixed' of a works hands back. -/
def FxOut (b n : Nat) (m : Nat → Bool) (e : Nat → Nat) (x : Nat) (k : Nat) (W : World) (r : Ending) (W' : World) : Prop :=
  r = .returned (.tuple #[.int .i64 (x : Nat), .int .i64 ((k : Int) + 1)]) ∧ Kp b W W' ∧ ∃ e', SetsAt W' b e' ∧ EnvOk n e' ∧ ∀ i, i < 3 → m i = true → e' i = e i

set_option maxHeartbeats 4000000 in
set_option maxRecDepth 100000 in
theorem wfixed_any (g : Bool) (c : Nat) (l : Fm) (ih : Ev l) (m : Nat → Bool) (aN : Option Addr) (n cN : Nat) (aM : Option Addr) (cM : Nat) (nx mk : Nat → Nat) (b : Nat) (e : Nat → Nat) (f1 : Nat) (k1 : Array Value) (k : Nat) (W : World) (hc : c < 3)
    (hM : Means W l (.func (.func f1) #[] k1)) (hw : wf (more m c) l) (hmc : m c = false) (hk : Wk W aN n aM nx mk) (hS : SetsAt W b e) (hE : EnvOk n e) (hkn : k ≤ n) (hF : First (fun X => den n nx mk l (upd e c X)) (beg g n) k)
    (en1 : ∀ (args : Array Value) (w : World), (callFunc f1 args).run Try.prog w = .ok (.enter f1 args) w) :
    Calls Try.prog 23 #[wkV aN n cN aM n cM, .int .u8 (if g then 103 else 109), .int .u8 (120 + c : Nat), .func (.func f1) #[] k1, .map (some b)] W fun r W' =>
      FxOut b n m e (iter (fun X => den n nx mk l (upd e c X)) (beg g n) k) k W r W' := by
  have h6 := hk.n6
  obtain ⟨W4, hW4⟩ : ∃ W4, W4 = (((W.alloc (.cells #[.slice aN n cN, .slice aM n cM] 33)).alloc (.cells #[.int .u8 (120 + c : Nat)] 5)).alloc (.cells #[.func (.func f1) #[] k1] 45)).alloc (.cells #[.map (some b)] 48) := ⟨_, rfl⟩
  have hb0 : Below W.heap.size W W4 := by rw [hW4]; exact below_four _ _ _ _ _
  have hF0 : FxAt aN n cN aM cM c (.func (.func f1) #[] k1) b W W4 := by rw [hW4]; exact FxAt.start _ _ _ _ _ _ _ _ _
  have hS4 := hS.keep hb0
  have step : ∀ W5, Below W4.heap.size W4 W5 → Calls Try.prog 33 #[.int .i64 ((beg g n : Nat) : Int), .func (.func 34) #[] #[.pointer (some ⟨W.heap.size + 1 + 1 + 1, 0, none⟩), .pointer (some ⟨W.heap.size + 1, 0, none⟩), .pointer (some ⟨W.heap.size + 1 + 1, 0, none⟩), .pointer (some ⟨W.heap.size, 0, none⟩)]] W5 fun r W' =>
      FxOut b n m e (iter (fun X => den n nx mk l (upd e c X)) (beg g n) k) k W r W' := by
    intro W5 hb5
    have hM5 := (hM.keep hb0).keep hb5
    have hk5 := (hk.keep (Nat.le_refl _) hb0).keep (Nat.le_refl _) hb5
    have hS5 := hS4.keep hb5
    have hF5 := hF0.keep hb5
    refine (settle_any (fun X => den n nx mk l (upd e c X)) n (beg g n) k 34 _ (fun _ w => Kp b W5 w ∧ ∃ e', SetsAt w b e' ∧ EnvOk n e' ∧ ∀ i, i < 3 → m i = true → e' i = e i) W5 h6
      (fun X hX => den_lt l (hE.upd c hX)) (beg_lt g n) hF hkn (enters_of Try.func34 (by kernel_rfl) rfl) ?_ ⟨Kp.refl _ _, e, hS5, hE, fun _ _ _ => rfl⟩).mono ?_
    · rintro X hX i w ⟨kp, e', hs', he', ha'⟩
      have hden : den n nx mk l (upd e' c X) = den n nx mk l (upd e c X) := den_congr l hw fun i h3 hm => by
        simp only [upd]
        split
        · rfl
        · rename_i hne
          refine ha' i h3 ?_
          simpa [more, hne] using hm
      have h1 := fixed1_any c l ih m aN n cN aM cM nx mk b e' f1 k1 X w W hc (hF5.kp hS5 kp) (hM5.kp hS5 kp) hw (hk5.kp hS5 kp) hs' he' hX en1
      rw [hden] at h1
      refine h1.mono ?_
      rintro r w' ⟨hr, kp', e2, hs2, he2, ha2⟩
      refine ⟨hr, kp.trans kp', e2, hs2, he2, fun i h3 hm => ?_⟩
      have hic : i ≠ c := by rintro rfl; rw [hmc] at hm; cases hm
      rw [ha2 i h3 (by simp [more, hm]), upd_other _ _ hic]
      exact ha' i h3 hm
    · rintro r w' ⟨hr, kp, hrest⟩
      exact ⟨hr, (Kp.of (hb0.trans (hb5.mono hb0.size))).trans kp, hrest⟩
  have HStep := Lib.hid step
  have HW4 := Lib.hid hW4
  have hF0' := hF0
  obtain ⟨q0, q1, q2, q3, q4⟩ := hF0'
  have HCg : Hid (beg true n = 2 ^ n - 1 ∧ beg false n = 0) := ⟨rfl, rfl⟩
  generalize hY : ((120 + c : Nat) : Int) = Y at *
  generalize iter (fun X => den n nx mk l (upd e c X)) (beg g n) k = Z at *
  clear step hM hw hk hS hE hF hF0 hS4 hb0 hW4 ih q2 q3 q4
  cases g
  · simp only [Bool.false_eq_true, if_false]
    have HS0 := Lib.hid (HStep.out W4 (Below.refl _ _))
    go_enter Try.func23, Try.ntmps23
    go_wp2_with fail
    rw [← HW4.out]
    refine HS0.out.mono ?_
    rintro r w1 ⟨rfl, hrest⟩
    have HR := Lib.hid hrest
    clear hrest q0 q1
    go_wp2
    exact bodyPost_ret (v := .tuple #[.int .i64 (Z : Int), .int .i64 ((k : Int) + 1)]) (by simp [results, Try.results23, go_sem]) rfl ⟨rfl, HR.out⟩
  · simp only [if_true]
    go_enter Try.func23, Try.ntmps23
    go_wp2_with fail
    rw [← HW4.out]
    refine (all_any aN n cN aM n cM W4 (by omega)).mono ?_
    rintro r w1 ⟨rfl, hb1⟩
    have HS0 := Lib.hid (HStep.out w1 hb1)
    clear hb1 q0 q1
    go_wp2_with fail
    refine HS0.out.mono ?_
    rintro r w1 ⟨rfl, hrest⟩
    have HR := Lib.hid hrest
    clear hrest
    go_wp2
    exact bodyPost_ret (v := .tuple #[.int .i64 (Z : Int), .int .i64 ((k : Int) + 1)]) (by simp [results, Try.results23, go_sem]) rfl ⟨rfl, HR.out⟩
end Go.Proofs.Ytkbbijhknbcflab
