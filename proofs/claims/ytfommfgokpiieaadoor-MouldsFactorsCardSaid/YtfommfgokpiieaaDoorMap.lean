import Derived.Test.YtfommfgokpiieaaDoorA2
import Derived.Maps.OwnOps
import Derived.Maps.Views
import Derived.Maps.OwnSet
import Derived.DeepKeys4
namespace Go.Proofs.YtfommfgokpiieaaDoor
open Go.RowKit
open Go.Maps (Keyed)

/-- A point. -/
structure Pt where
  x : Int
  y : Int
theorem Pt.ext {u v : Pt} (h : u.x = v.x) (k : u.y = v.y) : u = v := by cases u; cases v; simp_all
def near (v : Pt) : Prop := (-1000000000 ≤ v.x ∧ v.x ≤ 1000000000) ∧ (-1000000000 ≤ v.y ∧ v.y ≤ 1000000000)

theorem Tryd.laid : laidOutB Tryd.prog = true := by kernel_rfl
theorem pt_law : WideMaps.KeyLaw Tryd.prog 33 := deep_law_laid Tryd.laid (m := 2) (by omega) (of_decide_eq_true (by kernel_rfl)) (by kernel_rfl) (by kernel_rfl)
theorem pt_keyed : Keyed Tryd.prog 33 := Keyed.of_law pt_law

theorem wf_near {x B : Int} (h : -B ≤ x ∧ x ≤ B) (hB : B ≤ 9223372036854775807) : (Lit.int .i64 x).wf = true := by
  have h1 : IntKind.i64.min = -9223372036854775808 := rfl
  have h2 : IntKind.i64.max = 9223372036854775807 := rfl
  simp only [Lit.wf, Bool.and_eq_true, decide_eq_true_eq]
  omega

def keyLit (v : Pt) : Lit := .string (keyBytes [.int .i64 v.x, .int .i64 v.y])

theorem keyLits_pt (d : Nat) (v : Pt) (hv : near v) : Tryd.prog.keyLits (d + 2) 33 [.int .i64 v.x, .int .i64 v.y] = some [.int .i64 v.x, .int .i64 v.y] := by
  have hu := Tryd.underlying33
  have hi := Tryd.underlying3
  have c1 : Tryd.prog.cellsOf 33 = 2 := by kernel_rfl
  have c2 : Tryd.prog.cellsOf 3 = 1 := by kernel_rfl
  have wa := wf_near hv.1 (by omega)
  have wb := wf_near hv.2 (by omega)
  unfold Program.keyLits
  simp only [hu, c1, c2]
  simp [List.range_succ, Program.keyLits, hi, wa, wb]

theorem key_pt (v : Pt) (hv : near v) : keyOf Tryd.prog 33 (pV v.x v.y) = some (keyLit v) := by
  have hu := Tryd.underlying33
  have hk : Tryd.prog.keyType 33 = true := by kernel_rfl
  have c1 : Tryd.prog.cellsOf 33 = 2 := by kernel_rfl
  obtain ⟨s, hs⟩ : ∃ s, Tryd.prog.types.size = s + 1 := ⟨Tryd.prog.types.size - 1, by have : 0 < Tryd.prog.types.size := of_decide_eq_true (by kernel_rfl); omega⟩
  have hl := keyLits_pt s v hv
  unfold keyOf
  simp only [hu, hk, hs, Value.cells, hl]
  simp [Value.formed, hu, c1, keyLit]

theorem keyLit_inj {u v : Pt} (hu : near u) (hv : near v) (h : keyLit u = keyLit v) : u = v := by
  have := pt_keyed.inj (key_pt u hu) (by rw [h]; exact key_pt v hv)
  simp at this
  exact Pt.ext this.1 this.2

/-- A map of the call's own that tells which vectors are in S. -/
def OwnSet (w : World) (b n : Nat) (S : Pt → Prop) : Prop :=
  ∃ D : DataW Unit, w.ownsMap Tryd.prog 33 (plainElem Tryd.prog 4) b n D ∧ ∀ v, near v → (S v → D.atKey (keyLit v) (.lit (.bool false)) = .lit (.bool true)) ∧ (¬ S v → D.atKey (keyLit v) (.lit (.bool false)) = .lit (.bool false))

theorem OwnSet.made (w : World) : OwnSet (w.alloc (.map #[] 0)) w.heap.size 0 (fun _ => False) :=
  ⟨.map [], World.ownsMap_made _ _ _ _, fun _ _ => ⟨fun h => h.elim, fun _ => rfl⟩⟩

theorem OwnSet.kept {w w' : World} {b n : Nat} {S : Pt → Prop} {row : Option Nat} (h : OwnSet w b n S) (hg : w.grownBy w' row) (hne : some b ≠ row) : OwnSet w' b n S := by
  obtain ⟨D, h1, h2⟩ := h
  exact ⟨D, h1.kept hg hne, h2⟩
theorem OwnSet.keep {w w' : World} {b n : Nat} {S : Pt → Prop} (h : OwnSet w b n S) (hb : Below w.heap.size w w') : OwnSet w' b n S :=
  h.kept (row := none) ⟨hb.os, hb.tape, hb.output, hb.size, fun k hk _ => hb.block k hk⟩ (by simp)
theorem OwnSet.lt {w : World} {b n : Nat} {S : Pt → Prop} (h : OwnSet w b n S) : b < w.heap.size := h.elim fun _ h => h.1.lt

theorem plainBool {P : Program} {e : TypeId} (he : P.underlying e = some .bool) {v : Value} {x : Bool} {ps : List MemPlace} (h : plainElem (H := Unit) P e v = some (.lit (.bool x), ps)) : v = .bool x := by
  unfold plainElem at h
  rw [he] at h
  cases v <;> simp at h
  exact congrArg Value.bool h.1

theorem OwnSet.look {w : World} {b n : Nat} {S : Pt → Prop} (h : OwnSet w b n S) (v : Pt) (hv : near v) (r : Bool) (hr : (S v → r = true) ∧ (¬ S v → r = false)) :
    (Instr.lookup 83 (.map (some b)) (pV v.x v.y) false).run Tryd.prog w = .ok (.bool r) w := by
  obtain ⟨D, h1, h2⟩ := h
  obtain ⟨x, ps, hrun, hx⟩ := h1.lookup pt_keyed Tryd.underlying83 (z := .bool false) (by kernel_rfl) (plainElem_bool Tryd.underlying4 false) (key_pt v hv)
  rw [hrun]
  by_cases hs : S v
  · rw [(h2 v hv).1 hs] at hx
    rw [plainBool Tryd.underlying4 hx, hr.1 hs]
  · rw [(h2 v hv).2 hs] at hx
    rw [plainBool Tryd.underlying4 hx, hr.2 hs]

theorem wpList_lookup_set (w : World) {ops : Array Oper} {rest : List Oper} {o : Oper} {a : Act} {Q : Exit → Act → World → Prop} (hg : o.guard = none) (m x : Operand) (hop : o.op = Op.lookup 83 m x false)
    (b n : Nat) (S : Pt → Prop) (hm : a.eval m = .map (some b)) (hown : OwnSet w b n S) (v : Pt) (hv : near v) (r : Bool) (hr : (S v → r = true) ∧ (¬ S v → r = false)) (hx : a.eval x = pV v.x v.y)
    (hK : wpList Tryd.prog ops Q rest (a.put o.dst (.bool r)) w) : wpList Tryd.prog ops Q (o :: rest) a w := by
  refine wpList_plain hg fun K' hK' => ?_
  have hrun := hown.look v hv r hr
  unfold Oper.wp
  simp [execOp, hop, hm, hx, hrun, Result.andThen]
  exact hK' _ _ hK

theorem wpList_mapUpdate_set (w : World) {ops : Array Oper} {rest : List Oper} {o : Oper} {a : Act} {Q : Exit → Act → World → Prop} (hg : o.guard = none) (m x y : Operand) (hop : o.op = Op.mapUpdate 83 m x y)
    (b n : Nat) (S : Pt → Prop) (hm : a.eval m = .map (some b)) (hown : OwnSet w b n S) (hn : n < maxLen) (v : Pt) (hv : near v) (hx : a.eval x = pV v.x v.y) (hy : a.eval y = .bool true)
    (hK : ∀ w', OwnSet w' b (n + 1) (fun u => S u ∨ u = v) → w.grownBy w' (some b) → wpList Tryd.prog ops Q rest (a.put o.dst undef) w') : wpList Tryd.prog ops Q (o :: rest) a w := by
  obtain ⟨D, h1, h2⟩ := hown
  refine wpList_mapUpdate_own w hg m x y 83 hop 33 4 pt_keyed Tryd.underlying83 _ b n D hm h1 hn _ _ (keyLit v) hx hy (key_pt v hv) (.lit (.bool true)) [] (plainElem_bool Tryd.underlying4 true) fun w' h3 h4 => hK w' ⟨_, h3, fun u hu => ?_⟩ h4
  by_cases e : u = v
  · subst e
    exact ⟨fun _ => Maps.atKey_put_same h1.isMap (pt_keyed.key (key_pt u hu)) _ _, fun h => absurd (Or.inr rfl) h⟩
  · have hne : keyLit u ≠ keyLit v := fun h => e (keyLit_inj hu hv h)
    rw [Maps.atKey_put_other hne]
    refine ⟨fun h => (h2 u hu).1 (h.resolve_right e), fun h => (h2 u hu).2 fun h' => h (Or.inl h')⟩
end Go.Proofs.YtfommfgokpiieaaDoor
