/-
  A range over a function whose rounds lay their variable into memory.
-/
import Derived.Test.YtfommfgokpiieaaDoorI1
namespace Go.Proofs.YtfommfgokpiieaaDoor
open Go.RowKit

set_option maxHeartbeats 1000000 in
/-- The statement 'for v := range g', where a round lays its variable into memory (R: what is known of it then). -/
theorem wp_range_box {α : Type} {P : Program} {g : Operand} {p : Tmp} {assign body : Code} {Q : Exit → Act → World → Prop} {a : Act} {w : World} {gf : Nat} {lb : Array Value}
    (hg : a.eval g = .func (.func gf) #[] lb) (eg : ∀ args w, (callFunc gf args).run P w = .ok (.enter gf args) w)
    {E : α → Value → World → Prop} {Pr : Nat → Prop} {xs : List α} {w0 : World} (hit : Iter P gf lb E Pr xs w0) (hb0 : Below w0.heap.size w0 w) (T : Nat → Prop) (hPr : ∀ k, Pr k → ¬ T k ∧ k < w.heap.size) (hT : ∀ k, T k → k < w.heap.size)
    (hE : ∀ x v, OwnFrom w.heap.size (fun (_ : Unit) W => E x v W))
    (I Ix : List α → World → Prop) (hI : OwnFrom w.heap.size I) (hIx : OwnFrom w.heap.size Ix) (h0 : I [] w) (R : Value → Act → World → Prop) (hR : ∀ v a1, OwnFrom w.heap.size (fun (_ : Unit) W => R v a1 W))
    (hassign : ∀ (l : Nat) (v : Value) (W : World) (K : Act → World → Prop), (∃ x, E x v W) → w.heap.size ≤ W.heap.size → (∀ a1 W', Below W.heap.size W W' → R v a1 W' → K a1 W') →
      assign.wpIn (Fence.wide.inRound l) 0 P (Exit.then K (fun _ _ _ => False)) { tmps := a.tmps.setIfInBounds p v, defers := [] } W)
    (hbody : ∀ (l : Nat) (pre : List α) (x : α) (v : Value) (a1 : Act) (W : World), pre ++ [x] <+: xs → w.heap.size ≤ W.heap.size → I pre W → E x v W → Avoid T v → R v a1 W →
      body.wpIn (Fence.wide.inRound l) 0 P (roundEnd T I Ix (pre ++ [x]) W) a1 W)
    (hdone : ∀ (D : Nat) (W : World), w.heap.size ≤ D → Keep T w W → I xs W → W.heap[D]? = some (.deferred (some [])) → Q .normal { a with defers := { target := .collected D, args := #[] } :: a.defers } W)
    (hstop : ∀ (D : Nat) (pre : List α) (W : World), w.heap.size ≤ D → Keep T w W → pre <+: xs → Ix pre W → W.heap[D]? = some (.deferred (some [])) →
      Code.ret.wpIn Fence.wide 0 P Q { a with defers := { target := .collected D, args := #[] } :: a.defers } W) :
    (Code.rangeFunc g #[p] assign body).wpIn Fence.wide 0 P Q a w := by
  refine wpIn_rangeFunc ?_
  intro fn hfn
  rw [show Fence.wide.round = none from rfl]
  obtain ⟨rc, hrc⟩ : ∃ rc : LoopState → Option Code → Loop, rc = fun st pe => { state := st, pending := pe, fn, tmps := a.tmps, params := #[p], assign, body, defers := w.heap.size } := ⟨_, rfl⟩
  obtain ⟨W1, hW1⟩ : ∃ W1, (w.alloc (.deferred (some []))).alloc (.loop (rc .ready none)) = W1 := ⟨_, rfl⟩
  have s1 : W1.heap.size = w.heap.size + 2 := by rw [← hW1]; simp
  have hL1 : W1.heap[w.heap.size + 1]? = some (.loop (rc .ready none)) := by
    rw [← hW1]; have := World.alloc_heap_new (w.alloc (.deferred (some []))) (.loop (rc .ready none)); rwa [World.size_alloc] at this
  have hK1 : W1.heap[w.heap.size]? = some (.deferred (some [])) := by
    rw [← hW1]; exact (Below.heap_alloc _ _ _ (by simp)).trans (World.alloc_heap_new w _)
  have hI1 : I [] W1 := by rw [← hW1]; exact hI.alloc _ (hI.alloc _ h0)
  have hbw : Below w.heap.size w W1 := by rw [← hW1]; exact ((Below.refl _ w).alloc (Nat.le_refl _) _).alloc (by simp) _
  refine ⟨w.heap.size + 1, [{ target := .collected w.heap.size, args := #[] }], W1, { target := .fn (.func gf) lb, args := #[.func (.yield (w.heap.size + 1)) #[] #[]] }, W1, gf,
    #[.func (.yield (w.heap.size + 1)) #[] #[]] ++ lb, W1, ?_, ?_, fun _ _ => trivial, ?_, (fun h => by cases h), ?_⟩
  · rw [← hW1, hrc]; exact run_enterLoop_outer _ _ _ _ _
  · simp only [resolve, hg]
    simp [go_sem]
  · simp [invoke, go_sem, eg]
  · obtain ⟨T1, hT1⟩ : ∃ T1 : Nat → Prop, T1 = fun k => T k ∨ k = w.heap.size + 1 := ⟨_, rfl⟩
    have t1 : T1 (w.heap.size + 1) := by rw [hT1]; exact Or.inr rfl
    have t2 : ∀ k, T k → T1 k := fun k hk => by rw [hT1]; exact Or.inl hk
    have n1 : ¬ T (w.heap.size + 1) := fun h => by have := hT _ h; omega
    have n0 : ¬ T w.heap.size := fun h => by have := hT _ h; omega
    have keep : ∀ {A B : World} {row : Option Nat} {k : Nat} {o : Obj}, A.grownBy B row → (∀ r, row = some r → W1.heap.size ≤ r ∧ ∃ o : Obj, A.heap[r]? = some o ∧ o.isCells = false) → k < w.heap.size + 2 → A.heap[k]? = some o → B.heap[k]? = some o :=
      fun hg' hr hk hA => (hg'.block _ (Array.getElem?_eq_some_iff.1 hA).1 (fun e => by have := (hr _ e.symm).1; omega)).trans hA
    have hIm := ownFrom_mono hI (show w.heap.size ≤ W1.heap.size by omega)
    have hIxm := ownFrom_mono hIx (show w.heap.size ≤ W1.heap.size by omega)
    have hkeep : ∀ W2, Keep T1 W1 W2 → ∀ o, Keep T w (W2.putObj (w.heap.size + 1) o) := fun W2 hb2 o => by
      refine Keep.putNew ?_ (by omega) _
      refine ⟨hb2.os.trans hbw.os, hb2.tape.trans hbw.tape, hb2.output.trans hbw.output, Nat.le_trans hbw.size hb2.size, fun k hk ho => ?_⟩
      refine (hb2.block k (Nat.lt_of_lt_of_le hk hbw.size) (fun h => ?_)).trans (hbw.block k hk)
      rw [hT1] at h
      rcases h with h | h
      · exact ho h
      · omega
    refine callsIn_wide.2 ((hit T1 (w.heap.size + 1)
      (fun pre W => I pre W ∧ W.heap[w.heap.size + 1]? = some (.loop (rc .ready none)) ∧ W.heap[w.heap.size]? = some (.deferred (some [])))
      (fun pre W => Ix pre W ∧ W.heap[w.heap.size + 1]? = some (.loop (rc .done (some .ret))) ∧ W.heap[w.heap.size]? = some (.deferred (some [])))
      W1 (hb0.trans (hbw.mono hb0.size)) (fun k hk h => by have := hPr k hk; rw [hT1] at h; rcases h with h | h; (exact this.1 h); omega) (fun k h => by rw [hT1] at h; rcases h with h | h; (have := hT k h; omega); omega)
      (fun s A B row hs hg' hr => ⟨hIm s A B row hs.1 hg' hr, keep hg' hr (by omega) hs.2.1, keep hg' hr (by omega) hs.2.2⟩)
      (fun s A B row hs hg' hr => ⟨hIxm s A B row hs.1 hg' hr, keep hg' hr (by omega) hs.2.1, keep hg' hr (by omega) hs.2.2⟩)
      ?_ ⟨hI1, hL1, hK1⟩).mono ?_)
    · -- one round
      rintro pre x v W hpre hsz ⟨hi, hl, hk⟩ hEx hAv
      have hlt : w.heap.size + 1 < W.heap.size := (Array.getElem?_eq_some_iff.1 hl).1
      have hy := run_yield (P := P) (args := #[v]) hl (by rw [hrc]; rfl)
      rw [hrc] at hy
      have hy' : (Instr.yield (w.heap.size + 1) #[v]).run P W = .ok (.round (w.heap.size + 1) fn (a.tmps.setIfInBounds p v) assign body) W := by rw [hy]; simp
      clear hy
      refine ⟨fn, _, assign, body, hy', roundIn_of_wpIn hfn ?_⟩
      refine hassign (w.heap.size + 1) v W _ ⟨x, hEx⟩ (by omega) (fun a1 V hbV hRv => ?_)
      have hsV := hbV.size
      have hlV := (hbV.block (w.heap.size + 1) hlt).trans hl
      have hkV := (hbV.block w.heap.size (by omega)).trans hk
      have hiV := ownFrom_call hI hi hbV
      have hEV := ownFrom_call (hE x v) (s := ()) hEx hbV
      have hltV : w.heap.size + 1 < V.heap.size := by omega
      refine ⟨_, run_beginRound hlV (by rw [hrc]), ?_⟩
      have hl2 : (V.putObj (w.heap.size + 1) (.loop { rc .ready none with state := .busy })).heap[w.heap.size + 1]? = some (.loop { rc .ready none with state := .busy }) := World.putObj_heap_same hltV
      have hk2 : (V.putObj (w.heap.size + 1) (.loop { rc .ready none with state := .busy })).heap[w.heap.size]? = some (.deferred (some [])) := (World.putObj_heap_other (by omega)).trans hkV
      have hb2 : Keep T1 V (V.putObj (w.heap.size + 1) (.loop { rc .ready none with state := .busy })) := (Keep.refl _ _).putObj t1 _
      have fin : ∀ (jump : Option Code) (W3 : World), Keep T (V.putObj (w.heap.size + 1) (.loop { rc .ready none with state := .busy })) W3 →
          (Instr.endRound (w.heap.size + 1) jump).run P W3 = .ok (.bool jump.isNone) (W3.putObj (w.heap.size + 1) (.loop (rc (if jump.isNone then .ready else .done) jump))) ∧
          W3.heap[w.heap.size + 1]? = some (.loop { rc .ready none with state := .busy }) ∧
          (W3.putObj (w.heap.size + 1) (.loop (rc (if jump.isNone then .ready else .done) jump))).heap[w.heap.size + 1]? = some (.loop (rc (if jump.isNone then .ready else .done) jump)) ∧
          (W3.putObj (w.heap.size + 1) (.loop (rc (if jump.isNone then .ready else .done) jump))).heap[w.heap.size]? = some (.deferred (some [])) ∧
          Keep T1 V (W3.putObj (w.heap.size + 1) (.loop (rc (if jump.isNone then .ready else .done) jump))) := fun jump W3 hk3 => by
        have hl3 := (hk3.block (w.heap.size + 1) (by simp; omega) n1).trans hl2
        have hd3 := (hk3.block w.heap.size (by simp; omega) n0).trans hk2
        have hrun := run_endRound (P := P) jump hl3
        refine ⟨?_, hl3, World.putObj_heap_same (Array.getElem?_eq_some_iff.1 hl3).1, (World.putObj_heap_other (by omega)).trans hd3, (hb2.trans (hk3.mono t2)).putObj t1 _⟩
        rw [hrc] at hrun ⊢
        exact hrun
      refine wpIn_mono (hbody (w.heap.size + 1) pre x v a1 _ hpre (by simp; omega) (hI.putObj _ hiV (by omega) hlV rfl) ((hE x v).putObj (s := ()) _ hEV (by omega) hlV rfl) (fun b o s n c h ht => hAv b o s n c h (t2 b ht)) ((hR v a1).putObj (s := ()) _ hRv (by omega) hlV rfl)) ?_
      rintro e a3 W3 hp
      cases e with
      | normal =>
        obtain ⟨hk3, hi3⟩ := hp
        obtain ⟨hr, hl3, hl4, hk4, hb4⟩ := fin none W3 hk3
        exact ⟨_, _, hr, (Keep.of hbV).trans hb4, .inl ⟨rfl, hI.putObj _ hi3 (by omega) hl3 rfl, hl4, hk4⟩⟩
      | ret =>
        obtain ⟨hk3, hi3⟩ := hp
        obtain ⟨hr, hl3, hl4, hk4, hb4⟩ := fin (some .ret) W3 hk3
        exact ⟨_, _, hr, (Keep.of hbV).trans hb4, .inr ⟨rfl, hIx.putObj _ hi3 (by omega) hl3 rfl, hl4, hk4⟩⟩
      | exit id => exact hp.elim
      | goto t => exact hp.elim
      | panic ch => exact hp.elim
      | outgrown => exact hp.elim
    · rintro e W2 ⟨⟨v, rfl⟩, hb2, (⟨hi, hl, hk⟩ | ⟨pre, hpre, hi, hl, hk⟩)⟩
      all_goals have hend := run_endLoop (P := P) hl (by rw [hrc]; simp)
      · exact ⟨none, _, by rw [hrc] at hend; exact hend, hdone w.heap.size _ (Nat.le_refl _) (hkeep _ hb2 _) (hI.putObj _ hi (by omega) hl rfl) ((World.putObj_heap_other (by omega)).trans hk)⟩
      · exact ⟨some .ret, _, by rw [hrc] at hend; exact hend, hstop w.heap.size pre _ (Nat.le_refl _) (hkeep _ hb2 _) hpre (hIx.putObj _ hi (by omega) hl rfl) ((World.putObj_heap_other (by omega)).trans hk)⟩

end Go.Proofs.YtfommfgokpiieaaDoor
