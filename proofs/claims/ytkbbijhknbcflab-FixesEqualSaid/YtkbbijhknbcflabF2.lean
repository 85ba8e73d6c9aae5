import Derived.Test.YtkbbijhknbcflabM1
import Derived.Test.YtkbbijhknbcflabB1
/-
  What a function value that the reader makes means: the closures and what they hold.
-/
namespace Go.Proofs.Ytkbbijhknbcflab
open Go.RowKit Go.Shelf

/-- A function value means a formula. -/
def Means (W : World) : Fm → Value → Prop
  | .mark k, v => ∃ b, v = .func (.func 39) #[] #[.pointer (some ⟨b, 0, none⟩)] ∧ W.cell? ⟨b, 0, none⟩ = some (.int .u8 (48 + k : Nat))
  | .unm k, v => ∃ b, v = .func (.func 52) #[] #[.pointer (some ⟨b, 0, none⟩)] ∧ W.cell? ⟨b, 0, none⟩ = some (.int .u8 (48 + k : Nat))
  | .tt, v => v = .func (.func 42) #[] #[]
  | .ff, v => v = .func (.func 43) #[] #[]
  | .two a l r, v => ∃ b1 b2 b3 v1 v2, v = .func (.func 53) #[] #[.pointer (some ⟨b1, 0, none⟩), .pointer (some ⟨b2, 0, none⟩), .pointer (some ⟨b3, 0, none⟩)] ∧
      W.cell? ⟨b1, 0, none⟩ = some v1 ∧ W.cell? ⟨b2, 0, none⟩ = some v2 ∧ W.cell? ⟨b3, 0, none⟩ = some (.int .u8 (if a then 38 else 124)) ∧ Means W l v1 ∧ Means W r v2
  | .ahead d l, v => ∃ b1 b2 v1, v = .func (.func 54) #[] #[.pointer (some ⟨b1, 0, none⟩), .pointer (some ⟨b2, 0, none⟩)] ∧
      W.cell? ⟨b1, 0, none⟩ = some v1 ∧ W.cell? ⟨b2, 0, none⟩ = some (.int .u8 (if d then 60 else 91)) ∧ Means W l v1
  | .var c, v => ∃ b, v = .func (.func 56) #[] #[.pointer (some ⟨b, 0, none⟩)] ∧ W.cell? ⟨b, 0, none⟩ = some (.int .u8 (120 + c : Nat))
  | .fix g c l, v => ∃ b1 b2 b3 v1, v = .func (.func 58) #[] #[.pointer (some ⟨b1, 0, none⟩), .pointer (some ⟨b2, 0, none⟩), .pointer (some ⟨b3, 0, none⟩)] ∧
      W.cell? ⟨b1, 0, none⟩ = some (.int .u8 (if g then 103 else 109)) ∧ W.cell? ⟨b2, 0, none⟩ = some (.int .u8 (120 + c : Nat)) ∧ W.cell? ⟨b3, 0, none⟩ = some v1 ∧ Means W l v1

theorem Means.move {W W' : World} (h : ∀ p v, W.cell? p = some v → W'.cell? p = some v) : ∀ {F : Fm} {v : Value}, Means W F v → Means W' F v := by
  intro F
  induction F with
  | mark k => rintro v ⟨b, e, c⟩; exact ⟨b, e, h _ _ c⟩
  | unm k => rintro v ⟨b, e, c⟩; exact ⟨b, e, h _ _ c⟩
  | tt => intro v e; exact e
  | ff => intro v e; exact e
  | two a l r ih1 ih2 => rintro v ⟨b1, b2, b3, v1, v2, e, c1, c2, c3, m1, m2⟩; exact ⟨b1, b2, b3, v1, v2, e, h _ _ c1, h _ _ c2, h _ _ c3, ih1 m1, ih2 m2⟩
  | ahead d l ih => rintro v ⟨b1, b2, v1, e, c1, c2, m1⟩; exact ⟨b1, b2, v1, e, h _ _ c1, h _ _ c2, ih m1⟩
  | var c => rintro v ⟨b, e, c⟩; exact ⟨b, e, h _ _ c⟩
  | fix g c l ih => rintro v ⟨b1, b2, b3, v1, e, c1, c2, c3, m1⟩; exact ⟨b1, b2, b3, v1, e, h _ _ c1, h _ _ c2, h _ _ c3, ih m1⟩
theorem Means.keep {W W' : World} {F : Fm} {v : Value} (h : Means W F v) (hb : Below W.heap.size W W') : Means W' F v :=
  h.move fun _ _ hc => (hb.cell (World.block_lt_of_cell? _ _ hc)).trans hc
theorem Means.kp {W W' : World} {F : Fm} {v : Value} (h : Means W F v) {b : Nat} {e : Nat → Nat} (hs : SetsAt W b e) (hb : Kp b W W') : Means W' F v :=
  h.move fun _ _ hc => hb.cell hc (hs.noCell hc)
/-- It is a function that can be entered. -/
theorem Means.fn {W : World} {F : Fm} {v : Value} (h : Means W F v) : ∃ f c, v = .func (.func f) #[] c ∧ ∀ args w, (callFunc f args).run Try.prog w = .ok (.enter f args) w := by
  cases F with
  | mark k => obtain ⟨b, e, _⟩ := h; exact ⟨_, _, e, enters_of Try.func39 (by kernel_rfl) rfl⟩
  | unm k => obtain ⟨b, e, _⟩ := h; exact ⟨_, _, e, enters_of Try.func52 (by kernel_rfl) rfl⟩
  | tt => exact ⟨_, _, h, enters_of Try.func42 (by kernel_rfl) rfl⟩
  | ff => exact ⟨_, _, h, enters_of Try.func43 (by kernel_rfl) rfl⟩
  | two a l r => obtain ⟨b1, b2, b3, v1, v2, e, _⟩ := h; exact ⟨_, _, e, enters_of Try.func53 (by kernel_rfl) rfl⟩
  | ahead d l => obtain ⟨b1, b2, v1, e, _⟩ := h; exact ⟨_, _, e, enters_of Try.func54 (by kernel_rfl) rfl⟩
  | var c => obtain ⟨b, e, _⟩ := h; exact ⟨_, _, e, enters_of Try.func56 (by kernel_rfl) rfl⟩
  | fix g c l => obtain ⟨b1, b2, b3, v1, e, _⟩ := h; exact ⟨_, _, e, enters_of Try.func58 (by kernel_rfl) rfl⟩

theorem Wk.kp {W W' : World} {aN : Option Addr} {n : Nat} {aM : Option Addr} {nx mk : Nat → Nat} (h : Wk W aN n aM nx mk) {b : Nat} {e : Nat → Nat} (hs : SetsAt W b e) (hb : Kp b W W') : Wk W' aN n aM nx mk := by
  refine ⟨h.n6, fun j hj => ?_, fun j hj => ?_, h.nx_lt, h.mk_lt⟩
  · obtain ⟨b, o, ha, hc⟩ := h.N j hj; exact ⟨b, o, ha, hb.cell hc (hs.noCell hc)⟩
  · obtain ⟨b, o, ha, hc⟩ := h.M j hj; exact ⟨b, o, ha, hb.cell hc (hs.noCell hc)⟩

/-- What an evaluation hands back: a set; the map has the sets of the letters that may be used as before. -/
def EvOut (b n : Nat) (m : Nat → Bool) (e : Nat → Nat) (x : Nat) (W : World) (r : Ending) (W' : World) : Prop :=
  r = .returned (.int .i64 (x : Nat)) ∧ Kp b W W' ∧ ∃ e', SetsAt W' b e' ∧ EnvOk n e' ∧ ∀ i, i < 3 → m i = true → e' i = e i
/-- An evaluation's contract. -/
def Ev (F : Fm) : Prop := ∀ (m : Nat → Bool) (aN : Option Addr) (n cN : Nat) (aM : Option Addr) (cM : Nat) (nx mk : Nat → Nat) (b : Nat) (e : Nat → Nat) (f : Nat) (c : Array Value) (W : World),
  Means W F (.func (.func f) #[] c) → wf m F → Wk W aN n aM nx mk → SetsAt W b e → EnvOk n e →
  Calls Try.prog f (#[wkV aN n cN aM n cM, .map (some b)] ++ c) W fun r W' => EvOut b n m e (den n nx mk F e) W r W'


theorem alloc_cell {w : World} {p : Addr} {v : Value} (h : w.cell? p = some v) (o : Obj) : (w.alloc o).cell? p = some v := by
  have hb := below_one w o
  exact (hb.cell (World.block_lt_of_cell? _ _ h)).trans h
theorem u8_sub {k : Nat} (h : k < 4) : IntKind.u8.wrap (((48 + k : Nat) : Int) - 48) = (k : Int) := by rcases cases4 h with rfl | rfl | rfl | rfl <;> rfl

set_option maxHeartbeats 4000000 in
set_option maxRecDepth 100000 in
theorem ev_mark (k : Nat) : Ev (.mark k) := by
  intro m aN n cN aM cM nx mk b e f c W hM hw hk hS hE
  obtain ⟨q, he, hc⟩ := hM
  injection he with hf _ hc'
  injection hf with hf
  subst hf hc'
  have h4 : k < 4 := hw
  have HMk := Lib.hid (fun W' (hb : Below W.heap.size W W') => (hk.keep (Nat.le_refl _) hb).marked cN cM k (by omega))
  have HE := Lib.hid hE
  have HS := Lib.hid hS
  have hd := u8_sub h4
  have hq := alloc_cell hc (.cells #[.slice aN n cN, .slice aM n cM] 33)
  have HB := Lib.hid (below_one W (.cells #[.slice aN n cN, .slice aM n cM] 33))
  generalize hY : ((48 + k : Nat) : Int) = Y at hd hq
  have hk1 : (0 : Int) ≤ k := by omega
  have hk2 : (k : Int) < 4 := by omega
  clear hE hS hk hw hc hY
  show Calls Try.prog 39 #[wkV aN n cN aM n cM, .map (some b), .pointer (some ⟨q, 0, none⟩)] W _
  go_enter Try.func39, Try.ntmps39
  go_wp2_with fail
  refine (HMk.out _ HB.out).mono ?_
  rintro r w1 ⟨rfl, hb1⟩
  have HB1 := Lib.hid (band HB.out hb1)
  clear hb1
  go_wp2
  go_ret
  exact ⟨rfl, Kp.of HB1.out, e, HS.out.keep HB1.out, HE.out, fun _ _ _ => rfl⟩

set_option maxHeartbeats 4000000 in
set_option maxRecDepth 100000 in
theorem ev_tt : Ev .tt := by
  intro m aN n cN aM cM nx mk b e f c W hM hw hk hS hE
  injection hM with hf _ hc'
  injection hf with hf
  subst hf hc'
  have HE := Lib.hid hE
  have HS := Lib.hid hS
  have HB := Lib.hid (below_one W (.cells #[.slice aN n cN, .slice aM n cM] 33))
  have h6 := hk.n6
  clear hE hS hk hw
  show Calls Try.prog 42 #[wkV aN n cN aM n cM, .map (some b)] W _
  go_enter Try.func42, Try.ntmps42
  go_wp2_with fail
  refine (all_any aN n cN aM n cM _ (by omega)).mono ?_
  rintro r w1 ⟨rfl, hb1⟩
  have HB1 := Lib.hid (band HB.out hb1)
  clear hb1
  go_wp2
  go_ret
  exact ⟨rfl, Kp.of HB1.out, e, HS.out.keep HB1.out, HE.out, fun _ _ _ => rfl⟩

set_option maxHeartbeats 4000000 in
set_option maxRecDepth 100000 in
theorem ev_ff : Ev .ff := by
  intro m aN n cN aM cM nx mk b e f c W hM hw hk hS hE
  injection hM with hf _ hc'
  injection hf with hf
  subst hf hc'
  have HE := Lib.hid hE
  have HS := Lib.hid hS
  have HB := Lib.hid (below_one W (.cells #[.slice aN n cN, .slice aM n cM] 33))
  clear hE hS hk hw
  show Calls Try.prog 43 #[wkV aN n cN aM n cM, .map (some b)] W _
  go_enter Try.func43, Try.ntmps43
  go_wp2
  go_ret
  exact ⟨rfl, Kp.of HB.out, e, HS.out.keep HB.out, HE.out, fun _ _ _ => rfl⟩

/-- The box of a works, and another cell. -/
structure WC (aN : Option Addr) (n cN : Nat) (aM : Option Addr) (cM : Nat) (q : Addr) (u : Value) (W w : World) : Prop where
  inv : VInv aN n cN aM n cM W w
  c : w.cell? q = some u
theorem WC.keep {aN : Option Addr} {n cN : Nat} {aM : Option Addr} {cM : Nat} {q : Addr} {u : Value} {W w w' : World} (h : WC aN n cN aM cM q u W w) (hb : Below w.heap.size w w') : WC aN n cN aM cM q u W w' :=
  ⟨h.inv.keep hb, (hb.cell (World.block_lt_of_cell? _ _ h.c)).trans h.c⟩
theorem WC.all {aN : Option Addr} {n cN : Nat} {aM : Option Addr} {cM : Nat} {q : Addr} {u : Value} {W w : World} (h : WC aN n cN aM cM q u W w) :
    w.cell? ⟨W.heap.size, 0, none⟩ = some (.slice aN n cN) ∧ w.cell? ⟨W.heap.size, 1, none⟩ = some (.slice aM n cM) ∧ w.cell? q = some u := ⟨h.inv.cells.1, h.inv.cells.2, h.c⟩

set_option maxHeartbeats 4000000 in
set_option maxRecDepth 100000 in
theorem ev_unm (k : Nat) : Ev (.unm k) := by
  intro m aN n cN aM cM nx mk b e f c W hM hw hk hS hE
  obtain ⟨q, he, hc⟩ := hM
  injection he with hf _ hc'
  injection hf with hf
  subst hf hc'
  have h4 : k < 4 := hw
  have HMk := Lib.hid (fun W' (hb : Below W.heap.size W W') => (hk.keep (Nat.le_refl _) hb).marked cN cM k (by omega))
  have HE := Lib.hid hE
  have HS := Lib.hid hS
  have h6 := hk.n6
  have HA := Lib.hid (fun W' => all_any aN n cN aM n cM W' (show n ≤ 9 by omega))
  have hd := u8_sub h4
  have HC0 : Hid (WC aN n cN aM cM ⟨q, 0, none⟩ (.int .u8 (48 + k : Nat)) W (W.alloc (.cells #[.slice aN n cN, .slice aM n cM] 33))) := ⟨VInv.start aN n cN aM n cM W, alloc_cell hc _⟩
  obtain ⟨q0, q1, hq⟩ := HC0.out.all
  have HO : Hid (bits .andNot .i64 ((2 ^ n - 1 : Nat) : Int) ((mkd mk k n : Nat) : Int) = ((sdf (2 ^ n - 1) (mkd mk k n) : Nat) : Int)) := andNot_nat (lt64 (all_lt n) h6) (lt64 (mkd_lt mk k n) h6)
  generalize hY : ((48 + k : Nat) : Int) = Y at hd hq HC0
  have hk1 : (0 : Int) ≤ k := by omega
  have hk2 : (k : Int) < 4 := by omega
  have hkw : IntKind.i64.wrap (k : Int) = k := IntWalk.i64_in _ (by omega)
  generalize hWb : W.alloc (.cells #[.slice aN n cN, .slice aM n cM] 33) = Wb at *
  have HWb := Lib.hid hWb
  clear hE hS hk hw hc hY hWb
  show Calls Try.prog 52 #[wkV aN n cN aM n cM, .map (some b), .pointer (some ⟨q, 0, none⟩)] W _
  go_enter Try.func52, Try.ntmps52
  go_wp2
  rw [HWb.out]
  go_region_held3 (fun w' => w'.cell? ⟨W.heap.size, 0, none⟩ = some (.slice aN n cN) ∧ w'.cell? ⟨W.heap.size, 1, none⟩ = some (.slice aM n cM) ∧ w'.cell? ⟨q, 0, none⟩ = some (.int .u8 Y))
    (first
      | go_keep
      | (go_split_ands; exact HC1.out.all)
      | (go_split_ands; exact HC2.out.all))
    ((first
      | ((with_reducible refine (HA.out _).mono ?_); rintro r w1 ⟨rfl, hb1⟩; have HC1 := Lib.hid (HC0.out.keep (below_drew1 hb1)); clear hb1)
      | ((with_reducible refine (HMk.out _ HC1.out.inv.bel).mono ?_); rintro r w2 ⟨rfl, hb2⟩; have HC2 := Lib.hid (HC1.out.keep hb2); clear hb2)))
  all_goals
    go_wp2
    go_ret
    exact ⟨by rw [HO.out]; rfl, Kp.of HC2.out.inv.bel, e, HS.out.keep HC2.out.inv.bel, HE.out, fun _ _ _ => rfl⟩

set_option maxHeartbeats 4000000 in
set_option maxRecDepth 100000 in
theorem ev_var (d : Nat) : Ev (.var d) := by
  intro m aN n cN aM cM nx mk b e f c W hM hw hk hS hE
  obtain ⟨q, he, hc⟩ := hM
  injection he with hf _ hc'
  injection hf with hf
  subst hf hc'
  have h3 : d < 3 := hw.1
  have HE := Lib.hid hE
  have HS := Lib.hid hS
  have HB := Lib.hid (below_one W (.cells #[.slice aN n cN, .slice aM n cM] 33))
  have HS1 := Lib.hid (hS.keep HB.out)
  have hq := alloc_cell hc (.cells #[.slice aN n cN, .slice aM n cM] 33)
  have HD := Lib.hid h3
  generalize hY : ((120 + d : Nat) : Int) = Y at hq
  have HY := Lib.hid hY
  clear hE hS hk hw hY hc
  show Calls Try.prog 56 #[wkV aN n cN aM n cM, .map (some b), .pointer (some ⟨q, 0, none⟩)] W _
  go_enter Try.func56, Try.ntmps56
  go_wp2_with (at_lookup; refine wpList_lookup_sets _ rfl _ _ rfl b e rfl HS1.out d HD.out (by simp [HY.out, Act.eval]) ?_)
  go_wp2
  go_ret
  exact ⟨rfl, Kp.of HB.out, e, HS1.out, HE.out, fun _ _ _ => rfl⟩
end Go.Proofs.Ytkbbijhknbcflab
