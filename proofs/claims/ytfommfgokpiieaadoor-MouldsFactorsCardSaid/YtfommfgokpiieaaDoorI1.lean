/-
  A range over a function by a contract that iterators made of iterators can keep: the rounds may turn the blocks from 'lo' on that lay when the iterator was called; all else lies as it lay.
-/
import Derived.RangeFuncBox
import Derived.RangeFuncCalls
import Derived.RangeFuncLeaves
import Derived.RangeFuncBound
import Derived.WalkKit
import Derived.BigQuiet
import Derived.Deep.QuietTactic
namespace Go.Proofs.YtfommfgokpiieaaDoor
open Go.RowKit

/-- Nothing turns but blocks of T, and new ones. -/
structure Keep (T : Nat → Prop) (w w' : World) : Prop where
  os : w'.os = w.os
  tape : w'.tape = w.tape
  output : w'.output = w.output
  size : w.heap.size ≤ w'.heap.size
  block : ∀ k, k < w.heap.size → ¬ T k → w'.heap[k]? = w.heap[k]?

theorem Keep.refl (T : Nat → Prop) (w : World) : Keep T w w := ⟨rfl, rfl, rfl, Nat.le_refl _, fun _ _ _ => rfl⟩
theorem Keep.trans {T : Nat → Prop} {a b c : World} (h : Keep T a b) (k : Keep T b c) : Keep T a c :=
  ⟨k.os.trans h.os, k.tape.trans h.tape, k.output.trans h.output, Nat.le_trans h.size k.size, fun i hi' ho => (k.block i (Nat.lt_of_lt_of_le hi' h.size) ho).trans (h.block i hi' ho)⟩
theorem Keep.mono {T T' : Nat → Prop} {a b : World} (h : Keep T a b) (hT : ∀ k, T k → T' k) : Keep T' a b :=
  ⟨h.os, h.tape, h.output, h.size, fun k hk ho => h.block k hk (fun x => ho (hT k x))⟩
theorem Keep.of {T : Nat → Prop} {a b : World} (h : Below a.heap.size a b) : Keep T a b := ⟨h.os, h.tape, h.output, h.size, fun k hk _ => h.block k hk⟩
theorem Keep.below {T : Nat → Prop} {lo : Nat} {a b : World} (h : Keep T a b) (hT : ∀ k, k < lo → ¬ T k) (hl : lo ≤ a.heap.size) : Below lo a b :=
  ⟨h.os, h.tape, h.output, h.size, fun k hk => h.block k (Nat.lt_of_lt_of_le hk hl) (hT k hk)⟩
theorem Keep.alloc {T : Nat → Prop} {a b : World} (h : Keep T a b) (o : Obj) : Keep T a (b.alloc o) := h.trans (Keep.of ((Below.refl _ _).alloc (Nat.le_refl _) _))
theorem Keep.drew {T : Nat → Prop} {a b : World} (h : Keep T a b) : Keep T a b.drew := ⟨h.os, h.tape, h.output, h.size, h.block⟩
theorem Keep.drewN {T : Nat → Prop} {a b : World} (h : Keep T a b) (n : Nat) : Keep T a (b.drewN n) := ⟨h.os, h.tape, h.output, h.size, h.block⟩
theorem Keep.setCell {T : Nat → Prop} {a b : World} (h : Keep T a b) {p : Addr} (h1 : T p.block) (u : Value) : Keep T a (b.setCell p u) :=
  h.trans ⟨rfl, rfl, rfl, by simp [World.setCell], fun k _ ho => Below.heap_setCell _ _ _ _ (fun e => ho (by rw [e]; exact h1))⟩
theorem Keep.putObj {T : Nat → Prop} {a b : World} (h : Keep T a b) {l : Nat} (h1 : T l) (o : Obj) : Keep T a (b.putObj l o) :=
  h.trans ⟨rfl, rfl, rfl, by simp, fun k _ ho => World.putObj_heap_other (fun e => ho (by rw [e]; exact h1))⟩
theorem Keep.cell {T : Nat → Prop} {a b : World} (h : Keep T a b) {p : Addr} {v : Value} (hc : a.cell? p = some v) (ho : ¬ T p.block) : b.cell? p = some v :=
  (World.cell?_of_block (h.block p.block (World.block_lt_of_cell? a p hc) ho)).trans hc
/-- A new block at or behind 'hi' is turned. -/
theorem Keep.putNew {T : Nat → Prop} {a b : World} (h : Keep T a b) {l : Nat} (h1 : a.heap.size ≤ l) (o : Obj) : Keep T a (b.putObj l o) :=
  ⟨h.os, h.tape, h.output, by simpa using h.size, fun k hk ho => (World.putObj_heap_other (by omega)).trans (h.block k hk ho)⟩

theorem ownFrom_mono {β : Type} {B B' : Nat} {I : β → World → Prop} (h : OwnFrom B I) (hB : B ≤ B') : OwnFrom B' I :=
  fun s W W' row hs hg hr => h s W W' row hs hg (fun r e => ⟨Nat.le_trans hB (hr r e).1, (hr r e).2⟩)
/-- What is the caller's own abides a call that makes memory of its own. -/
theorem ownFrom_call {β : Type} {B : Nat} {I : β → World → Prop} (h : OwnFrom B I) {s : β} {W W' : World} (hs : I s W) (hb : Below W.heap.size W W') : I s W' :=
  h s W W' none hs ⟨hb.os, hb.tape, hb.output, hb.size, fun k hk _ => hb.block k hk⟩ (fun r e => by cases e)
theorem ownFrom_drewN {β : Type} {B : Nat} {I : β → World → Prop} (h : OwnFrom B I) {s : β} {W : World} (hs : I s W) (n : Nat) : I s (W.drewN n) :=
  h s W _ none hs ⟨rfl, rfl, rfl, Nat.le_refl _, fun _ _ _ => rfl⟩ (fun r e => by cases e)

/-- A slice that lies in no block of T. -/
def Avoid (T : Nat → Prop) (v : Value) : Prop := ∀ b o s n c, v = .slice (some ⟨b, o, s⟩) n c → ¬ T b

/-- An iterator: it hands over the xs, one after the other, each as a value that E tells of; the rounds may turn whatever lay when it was called but the blocks of Pr. -/
def Iter {α : Type} (P : Program) (gf : Nat) (lb : Array Value) (E : α → Value → World → Prop) (Pr : Nat → Prop) (xs : List α) (w0 : World) : Prop :=
  ∀ (T : Nat → Prop) (l : Nat) (J Jx : List α → World → Prop) (W : World), Below w0.heap.size w0 W → (∀ k, Pr k → ¬ T k) → (∀ k, T k → k < W.heap.size) → OwnFrom W.heap.size J → OwnFrom W.heap.size Jx →
    (∀ pre x v W1, pre ++ [x] <+: xs → W.heap.size ≤ W1.heap.size → J pre W1 → E x v W1 → Avoid T v → YieldAt Fence.wide 0 P l #[v] W1 fun e W' =>
      Keep T W1 W' ∧ ((e = .returned (.bool true) ∧ J (pre ++ [x]) W') ∨ (e = .returned (.bool false) ∧ Jx (pre ++ [x]) W'))) →
    J [] W →
    Calls P gf (#[.func (.yield l) #[] #[]] ++ lb) W fun e W' => (∃ v, e = .returned v) ∧ Keep T W W' ∧ (J xs W' ∨ ∃ pre, pre <+: xs ∧ Jx pre W')

/-- How the body of a round may be left. -/
def roundEnd {α : Type} (T : Nat → Prop) (I Ix : List α → World → Prop) (ys : List α) (W : World) : Exit → Act → World → Prop
  | .normal, _, W' => Keep T W W' ∧ I ys W'
  | .ret, _, W' => Keep T W W' ∧ Ix ys W'
  | _, _, _ => False

set_option maxHeartbeats 1000000 in
/-- The statement 'for v := range g'. -/
theorem wp_range {α : Type} {P : Program} {g : Operand} {p : Tmp} {assign body : Code} {Q : Exit → Act → World → Prop} {a : Act} {w : World} {gf : Nat} {lb : Array Value}
    (hg : a.eval g = .func (.func gf) #[] lb) (eg : ∀ args w, (callFunc gf args).run P w = .ok (.enter gf args) w)
    {E : α → Value → World → Prop} {Pr : Nat → Prop} {xs : List α} {w0 : World} (hit : Iter P gf lb E Pr xs w0) (hb0 : Below w0.heap.size w0 w) (T : Nat → Prop) (hPr : ∀ k, Pr k → ¬ T k ∧ k < w.heap.size) (hT : ∀ k, T k → k < w.heap.size)
    (hE : ∀ x v, OwnFrom w.heap.size (fun (_ : Unit) W => E x v W))
    (I Ix : List α → World → Prop) (hI : OwnFrom w.heap.size I) (hIx : OwnFrom w.heap.size Ix) (h0 : I [] w) (a₁ : Value → Act)
    (hassign : ∀ (l : Nat) (v : Value) (W : World) (K : Act → World → Prop), K (a₁ v) W →
      assign.wpIn (Fence.wide.inRound l) 0 P (Exit.then K (fun _ _ _ => False)) { tmps := a.tmps.setIfInBounds p v, defers := [] } W)
    (hbody : ∀ (l : Nat) (pre : List α) (x : α) (v : Value) (W : World), pre ++ [x] <+: xs → w.heap.size ≤ W.heap.size → I pre W → E x v W → Avoid T v →
      body.wpIn (Fence.wide.inRound l) 0 P (roundEnd T I Ix (pre ++ [x]) W) (a₁ v) W)
    (hdone : ∀ (D : Nat) (W : World), w.heap.size ≤ D → Keep T w W → I xs W → W.heap[D]? = some (.deferred (some [])) → Q .normal { a with defers := { target := .collected D, args := #[] } :: a.defers } W)
    (hstop : ∀ (D : Nat) (pre : List α) (W : World), w.heap.size ≤ D → Keep T w W → pre <+: xs → Ix pre W → W.heap[D]? = some (.deferred (some [])) →
      Code.ret.wpIn Fence.wide 0 P Q { a with defers := { target := .collected D, args := #[] } :: a.defers } W) :
    (Code.rangeFunc g #[p] assign body).wpIn Fence.wide 0 P Q a w := by
  refine wpIn_rangeFunc ?_
  intro fn hfn
  rw [show Fence.wide.round = none from rfl]
  obtain ⟨rc, hrc⟩ : ∃ rc : LoopState → Option Code → Loop, rc = fun st pe => { state := st, pending := pe, fn, tmps := a.tmps, params := #[p], assign, body, defers := w.heap.size } := ⟨_, rfl⟩
  obtain ⟨W1, hW1⟩ : ∃ W1, (w.alloc (.deferred (some []))).alloc (.loop (rc .ready none)) = W1 := ⟨_, rfl⟩
  have s1 : W1.heap.size = w.heap.size + 2 := by rw [← hW1]; simp
  have hL1 : W1.heap[w.heap.size + 1]? = some (.loop (rc .ready none)) := by
    rw [← hW1]; have := World.alloc_heap_new (w.alloc (.deferred (some []))) (.loop (rc .ready none)); rwa [World.size_alloc] at this
  have hK1 : W1.heap[w.heap.size]? = some (.deferred (some [])) := by
    rw [← hW1]; exact (Below.heap_alloc _ _ _ (by simp)).trans (World.alloc_heap_new w _)
  have hI1 : I [] W1 := by rw [← hW1]; exact hI.alloc _ (hI.alloc _ h0)
  have hbw : Below w.heap.size w W1 := by rw [← hW1]; exact ((Below.refl _ w).alloc (Nat.le_refl _) _).alloc (by simp) _
  refine ⟨w.heap.size + 1, [{ target := .collected w.heap.size, args := #[] }], W1, { target := .fn (.func gf) lb, args := #[.func (.yield (w.heap.size + 1)) #[] #[]] }, W1, gf,
    #[.func (.yield (w.heap.size + 1)) #[] #[]] ++ lb, W1, ?_, ?_, fun _ _ => trivial, ?_, (fun h => by cases h), ?_⟩
  · rw [← hW1, hrc]; exact run_enterLoop_outer _ _ _ _ _
  · simp only [resolve, hg]
    simp [go_sem]
  · simp [invoke, go_sem, eg]
  · obtain ⟨T1, hT1⟩ : ∃ T1 : Nat → Prop, T1 = fun k => T k ∨ k = w.heap.size + 1 := ⟨_, rfl⟩
    have t1 : T1 (w.heap.size + 1) := by rw [hT1]; exact Or.inr rfl
    have t2 : ∀ k, T k → T1 k := fun k hk => by rw [hT1]; exact Or.inl hk
    have n1 : ¬ T (w.heap.size + 1) := fun h => by have := hT _ h; omega
    have n0 : ¬ T w.heap.size := fun h => by have := hT _ h; omega
    have keep : ∀ {A B : World} {row : Option Nat} {k : Nat} {o : Obj}, A.grownBy B row → (∀ r, row = some r → W1.heap.size ≤ r ∧ ∃ o : Obj, A.heap[r]? = some o ∧ o.isCells = false) → k < w.heap.size + 2 → A.heap[k]? = some o → B.heap[k]? = some o :=
      fun hg' hr hk hA => (hg'.block _ (Array.getElem?_eq_some_iff.1 hA).1 (fun e => by have := (hr _ e.symm).1; omega)).trans hA
    have hIm := ownFrom_mono hI (show w.heap.size ≤ W1.heap.size by omega)
    have hIxm := ownFrom_mono hIx (show w.heap.size ≤ W1.heap.size by omega)
    have hkeep : ∀ W2, Keep T1 W1 W2 → ∀ o, Keep T w (W2.putObj (w.heap.size + 1) o) := fun W2 hb2 o => by
      refine Keep.putNew ?_ (by omega) _
      refine ⟨hb2.os.trans hbw.os, hb2.tape.trans hbw.tape, hb2.output.trans hbw.output, Nat.le_trans hbw.size hb2.size, fun k hk ho => ?_⟩
      refine (hb2.block k (Nat.lt_of_lt_of_le hk hbw.size) (fun h => ?_)).trans (hbw.block k hk)
      rw [hT1] at h
      rcases h with h | h
      · exact ho h
      · omega
    refine callsIn_wide.2 ((hit T1 (w.heap.size + 1)
      (fun pre W => I pre W ∧ W.heap[w.heap.size + 1]? = some (.loop (rc .ready none)) ∧ W.heap[w.heap.size]? = some (.deferred (some [])))
      (fun pre W => Ix pre W ∧ W.heap[w.heap.size + 1]? = some (.loop (rc .done (some .ret))) ∧ W.heap[w.heap.size]? = some (.deferred (some [])))
      W1 (hb0.trans (hbw.mono hb0.size)) (fun k hk h => by have := hPr k hk; rw [hT1] at h; rcases h with h | h; (exact this.1 h); omega) (fun k h => by rw [hT1] at h; rcases h with h | h; (have := hT k h; omega); omega)
      (fun s A B row hs hg' hr => ⟨hIm s A B row hs.1 hg' hr, keep hg' hr (by omega) hs.2.1, keep hg' hr (by omega) hs.2.2⟩)
      (fun s A B row hs hg' hr => ⟨hIxm s A B row hs.1 hg' hr, keep hg' hr (by omega) hs.2.1, keep hg' hr (by omega) hs.2.2⟩)
      ?_ ⟨hI1, hL1, hK1⟩).mono ?_)
    · -- one round
      rintro pre x v W hpre hsz ⟨hi, hl, hk⟩ hEx hAv
      have hlt : w.heap.size + 1 < W.heap.size := (Array.getElem?_eq_some_iff.1 hl).1
      have hy := run_yield (P := P) (args := #[v]) hl (by rw [hrc]; rfl)
      rw [hrc] at hy
      have hy' : (Instr.yield (w.heap.size + 1) #[v]).run P W = .ok (.round (w.heap.size + 1) fn (a.tmps.setIfInBounds p v) assign body) W := by rw [hy]; simp
      clear hy
      refine ⟨fn, _, assign, body, hy', roundIn_of_wpIn hfn ?_⟩
      refine hassign (w.heap.size + 1) v W _ ?_
      refine ⟨_, run_beginRound hl (by rw [hrc]), ?_⟩
      have hl2 : (W.putObj (w.heap.size + 1) (.loop { rc .ready none with state := .busy })).heap[w.heap.size + 1]? = some (.loop { rc .ready none with state := .busy }) := World.putObj_heap_same hlt
      have hk2 : (W.putObj (w.heap.size + 1) (.loop { rc .ready none with state := .busy })).heap[w.heap.size]? = some (.deferred (some [])) := (World.putObj_heap_other (by omega)).trans hk
      have hb2 : Keep T1 W (W.putObj (w.heap.size + 1) (.loop { rc .ready none with state := .busy })) := (Keep.refl _ _).putObj t1 _
      have fin : ∀ (jump : Option Code) (W3 : World), Keep T (W.putObj (w.heap.size + 1) (.loop { rc .ready none with state := .busy })) W3 →
          (Instr.endRound (w.heap.size + 1) jump).run P W3 = .ok (.bool jump.isNone) (W3.putObj (w.heap.size + 1) (.loop (rc (if jump.isNone then .ready else .done) jump))) ∧
          W3.heap[w.heap.size + 1]? = some (.loop { rc .ready none with state := .busy }) ∧
          (W3.putObj (w.heap.size + 1) (.loop (rc (if jump.isNone then .ready else .done) jump))).heap[w.heap.size + 1]? = some (.loop (rc (if jump.isNone then .ready else .done) jump)) ∧
          (W3.putObj (w.heap.size + 1) (.loop (rc (if jump.isNone then .ready else .done) jump))).heap[w.heap.size]? = some (.deferred (some [])) ∧
          Keep T1 W (W3.putObj (w.heap.size + 1) (.loop (rc (if jump.isNone then .ready else .done) jump))) := fun jump W3 hk3 => by
        have hl3 := (hk3.block (w.heap.size + 1) (by simp; omega) n1).trans hl2
        have hd3 := (hk3.block w.heap.size (by simp; omega) n0).trans hk2
        have hrun := run_endRound (P := P) jump hl3
        refine ⟨?_, hl3, World.putObj_heap_same (Array.getElem?_eq_some_iff.1 hl3).1, (World.putObj_heap_other (by omega)).trans hd3, (hb2.trans (hk3.mono t2)).putObj t1 _⟩
        rw [hrc] at hrun ⊢
        exact hrun
      refine wpIn_mono (hbody (w.heap.size + 1) pre x v _ hpre (by simp; omega) (hI.putObj _ hi (by omega) hl rfl) ((hE x v).putObj (s := ()) _ hEx (by omega) hl rfl) (fun b o s n c h ht => hAv b o s n c h (t2 b ht))) ?_
      rintro e a3 W3 hp
      cases e with
      | normal =>
        obtain ⟨hk3, hi3⟩ := hp
        obtain ⟨hr, hl3, hl4, hk4, hb4⟩ := fin none W3 hk3
        exact ⟨_, _, hr, hb4, .inl ⟨rfl, hI.putObj _ hi3 (by omega) hl3 rfl, hl4, hk4⟩⟩
      | ret =>
        obtain ⟨hk3, hi3⟩ := hp
        obtain ⟨hr, hl3, hl4, hk4, hb4⟩ := fin (some .ret) W3 hk3
        exact ⟨_, _, hr, hb4, .inr ⟨rfl, hIx.putObj _ hi3 (by omega) hl3 rfl, hl4, hk4⟩⟩
      | exit id => exact hp.elim
      | goto t => exact hp.elim
      | panic ch => exact hp.elim
      | outgrown => exact hp.elim
    · rintro e W2 ⟨⟨v, rfl⟩, hb2, (⟨hi, hl, hk⟩ | ⟨pre, hpre, hi, hl, hk⟩)⟩
      all_goals have hend := run_endLoop (P := P) hl (by rw [hrc]; simp)
      · exact ⟨none, _, by rw [hrc] at hend; exact hend, hdone w.heap.size _ (Nat.le_refl _) (hkeep _ hb2 _) (hI.putObj _ hi (by omega) hl rfl) ((World.putObj_heap_other (by omega)).trans hk)⟩
      · exact ⟨some .ret, _, by rw [hrc] at hend; exact hend, hstop w.heap.size pre _ (Nat.le_refl _) (hkeep _ hb2 _) hpre (hIx.putObj _ hi (by omega) hl rfl) ((World.putObj_heap_other (by omega)).trans hk)⟩

end Go.Proofs.YtfommfgokpiieaaDoor
