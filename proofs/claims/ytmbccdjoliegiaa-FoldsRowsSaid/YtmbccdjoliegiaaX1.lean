import Derived.Test.YtmbccdjoliegiaaL9
import Derived.Test.YtmbccdjoliegiaaMath10
import Derived.Maps.AppendAt
namespace Go.Proofs.Ytmbccdjoliegiaa
open Go.RowKit

def vals (L : List Nat) : List Value := L.map fun (x : Nat) => .int .i64 (x : Int)
theorem vals_snoc (L : List Nat) (y : Nat) : vals (L ++ [y]) = vals L ++ [.int .i64 (y : Int)] := by simp [vals]
theorem vals_zl (L : List Nat) : vals L = (List.range L.length).map fun j => .int .i64 (zl L j) := by
  refine List.ext_getElem (by simp [vals]) fun i h1 h2 => ?_
  simp [vals] at h1
  simp [vals, zl, h1]

/-- Append onto a row of the call's own, as a step of a region that draws, with the place of the new row. -/
theorem step_append_own_at {P : Program} {ops : Array Oper} {o : Oper} {a : Act} {w : World} {K : Act → World → Prop} {Q : Exit → Act → World → Prop} {E : Prop}
    (hg : o.guard = none) (s x : Operand) (t : TypeId) (hop : o.op = Op.call { callee := Callee.builtin Builtin.append, args := #[s, x], argTypes := #[t, t] })
    (base : Nat) (e : TypeId) (i : TypeInfo) (z : Value) (size bytes : Nat) (h1 : P.underlying t = some (.slice e)) (h2 : P.info? e = some i) (h3 : i.zero = some z) (h4 : i.size = size) (h5 : i.bytes = bytes) (h6 : z.cells.size = size) (h7 : 0 < size)
    (v : Value) (n : Nat) (xs : List Value) (hs : a.eval s = v) (hown : w.ownsRow base e size v n xs)
    (ad : Addr) (m c : Nat) (news : List Value) (hx : a.eval x = .slice (some ad) m c) (hn : news.length = m * size) (hc : ∀ j u, news[j]? = some u → w.cell? (ad.add j) = some u) (h1c : ∀ u ∈ news, u.oneCell' = true)
    (b1 : n + m ≤ maxLen) (b2 : (n + m) * bytes ≤ 140737488355328) (hbase : base ≤ w.heap.size)
    (hK : ∀ v' w', w'.ownsRow base e size v' (n + m) (xs ++ news) → w.grownBy w' v.ownBlock → (v'.ownBlock = v.ownBlock ∨ v'.ownBlock = some w.heap.size) → K (a.put o.dst v') w') :
    if Region.wanted o (yielded ops a.tmps) = true then Oper.wp P o a w K Q else E := by
  have hw : Region.wanted o (yielded ops a.tmps) = true := by simp [Region.wanted, hg]
  rw [if_pos hw]
  obtain ⟨v', w', hrun, r1, r2, _, r3⟩ := run_append_own_at (P := P) w base t o.type e i z size bytes h1 h2 h3 h4 h5 h6 h7 v n xs hown ad m c news hn hc h1c b1 b2 hbase
  unfold Oper.wp
  simp [execOp, hop, resolve, invoke, builtin, hs, hx, hrun, Result.andThen]
  exact hK v' w' r1 r2 r3

def Ap (u v : Value) : Prop := ∀ b, u.ownBlock = some b → v.ownBlock ≠ some b
theorem Ap.symm {u v : Value} (h : Ap u v) : Ap v u := fun b hb hu => h b hu hb
theorem Ap.kept {u v : Value} (h : Ap u v) : u.ownBlock = none ∨ u.ownBlock ≠ v.ownBlock := by
  cases e : u.ownBlock with
  | none => exact Or.inl rfl
  | some b => exact Or.inr fun e2 => h b e e2.symm
theorem ap_new {w : World} {base n size : Nat} {e : TypeId} {u v v' : Value} {xs : List Value} (h : Ap u v) (hu : w.ownsRow base e size u n xs) (hl : v'.ownBlock = v.ownBlock ∨ v'.ownBlock = some w.heap.size) : Ap u v' := fun b hb hv => by
  have := (World.ownsRow.lt hu b hb).2
  rcases hl with hl | hl
  · rw [hl] at hv; exact h b hb hv
  · rw [hl] at hv; cases hv; omega
theorem row_set {w : World} {base q o n size : Nat} {e : TypeId} {v u : Value} {xs : List Value} (h : w.ownsRow base e size v n xs) (hq : q < base) : (w.setCell ⟨q, o, none⟩ u).ownsRow base e size v n xs := own_set h hq u

theorem row_slice {w : World} {base n size : Nat} {e : TypeId} {v : Value} {xs : List Value} (h : w.ownsRow base e size v n xs) : ∃ a c, v = .slice a n c := by
  rcases h.2 with ⟨rfl, h0⟩ | ⟨g, cap, cur, rfl, _⟩
  · exact ⟨none, 0, by rw [h0]⟩
  · exact ⟨_, _, rfl⟩
/-- Three rows of leaves that a call builds, two of them in an array. -/
structure Rows3 (w : World) (base q : Nat) (L0 L1 L2 : List Nat) (v0 v1 v2 : Value) : Prop where
  blk : w.heap[q]? = some (.cells #[v0, v1] 59)
  r0 : w.ownsRow base 3 1 v0 L0.length (vals L0)
  r1 : w.ownsRow base 3 1 v1 L1.length (vals L1)
  r2 : w.ownsRow base 3 1 v2 L2.length (vals L2)
  a01 : Ap v0 v1
  a02 : Ap v0 v2
  a12 : Ap v1 v2
  low : q < base
  size : base ≤ w.heap.size
theorem Rows3.keep {w w' : World} {base q : Nat} {L0 L1 L2 : List Nat} {v0 v1 v2 : Value} (h : Rows3 w base q L0 L1 L2 v0 v1 v2) (hb : Below w.heap.size w w') : Rows3 w' base q L0 L1 L2 v0 v1 v2 :=
  ⟨(hb.block q (Nat.lt_of_lt_of_le h.low h.size)).trans h.blk, ownsRow_below h.r0 hb, ownsRow_below h.r1 hb, ownsRow_below h.r2 hb, h.a01, h.a02, h.a12, h.low, Nat.le_trans h.size hb.size⟩
theorem Rows3.start {w : World} {q : Nat} (hb : w.heap[q]? = some (.cells #[.slice none 0 0, .slice none 0 0] 59)) (hq : q < w.heap.size) : Rows3 w w.heap.size q [] [] [] (.slice none 0 0) (.slice none 0 0) (.slice none 0 0) :=
  ⟨hb, World.ownsRow_nil _ _ _ _, World.ownsRow_nil _ _ _ _, World.ownsRow_nil _ _ _ _, fun _ h => (by cases h), fun _ h => (by cases h), fun _ h => (by cases h), hq, Nat.le_refl _⟩
theorem Rows3.box {w w2 : World} {base q : Nat} {L0 L1 L2 : List Nat} {v0 v1 v2 v : Value} (h : Rows3 w base q L0 L1 L2 v0 v1 v2) (hv : ∀ b, v.ownBlock = some b → base ≤ b) (hg : w.grownBy w2 v.ownBlock) : w2.heap[q]? = some (.cells #[v0, v1] 59) :=
  (hg.block q (Nat.lt_of_lt_of_le h.low h.size) (fun e => by have := hv q e.symm; have := h.low; omega)).trans h.blk

theorem Rows3.step0 {w w2 : World} {base q y : Nat} {L0 L1 L2 : List Nat} {v0 v1 v2 v' : Value} (h : Rows3 w base q L0 L1 L2 v0 v1 v2)
    (hown : w2.ownsRow base 3 1 v' (L0.length + 1) (vals L0 ++ [.int .i64 (y : Int)])) (hg : w.grownBy w2 v0.ownBlock) (hl : v'.ownBlock = v0.ownBlock ∨ v'.ownBlock = some w.heap.size) :
    Rows3 (w2.setCell ⟨q, 0, none⟩ v') base q (L0 ++ [y]) L1 L2 v' v1 v2 := by
  have hb := h.box (fun b hb => (World.ownsRow.lt h.r0 b hb).1) hg
  refine ⟨?_, ?_, row_set (World.ownsRow.kept h.r1 hg h.a01.symm.kept) h.low, row_set (World.ownsRow.kept h.r2 hg h.a02.symm.kept) h.low, (ap_new h.a01.symm h.r1 hl).symm, (ap_new h.a02.symm h.r2 hl).symm, h.a12, h.low, by have := h.size; have := hg.size; simp [World.setCell]; omega⟩
  · rw [heap_setCell_same _ _ 0 _ _ _ hb]; simp
  · rw [vals_snoc, List.length_append]; exact row_set hown h.low
theorem Rows3.step1 {w w2 : World} {base q y : Nat} {L0 L1 L2 : List Nat} {v0 v1 v2 v' : Value} (h : Rows3 w base q L0 L1 L2 v0 v1 v2)
    (hown : w2.ownsRow base 3 1 v' (L1.length + 1) (vals L1 ++ [.int .i64 (y : Int)])) (hg : w.grownBy w2 v1.ownBlock) (hl : v'.ownBlock = v1.ownBlock ∨ v'.ownBlock = some w.heap.size) :
    Rows3 (w2.setCell ⟨q, 1, none⟩ v') base q L0 (L1 ++ [y]) L2 v0 v' v2 := by
  have hb := h.box (fun b hb => (World.ownsRow.lt h.r1 b hb).1) hg
  refine ⟨?_, row_set (World.ownsRow.kept h.r0 hg h.a01.kept) h.low, ?_, row_set (World.ownsRow.kept h.r2 hg h.a12.symm.kept) h.low, ap_new h.a01 h.r0 hl, h.a02, (ap_new h.a12.symm h.r2 hl).symm, h.low, by have := h.size; have := hg.size; simp [World.setCell]; omega⟩
  · rw [heap_setCell_same _ _ 1 _ _ _ hb]; simp
  · rw [vals_snoc, List.length_append]; exact row_set hown h.low
theorem Rows3.step2 {w w2 : World} {base q y : Nat} {L0 L1 L2 : List Nat} {v0 v1 v2 v' : Value} (h : Rows3 w base q L0 L1 L2 v0 v1 v2)
    (hown : w2.ownsRow base 3 1 v' (L2.length + 1) (vals L2 ++ [.int .i64 (y : Int)])) (hg : w.grownBy w2 v2.ownBlock) (hl : v'.ownBlock = v2.ownBlock ∨ v'.ownBlock = some w.heap.size) :
    Rows3 w2 base q L0 L1 (L2 ++ [y]) v0 v1 v' := by
  have hb := h.box (fun b hb => (World.ownsRow.lt h.r2 b hb).1) hg
  refine ⟨hb, World.ownsRow.kept h.r0 hg h.a02.kept, World.ownsRow.kept h.r1 hg h.a12.kept, ?_, h.a01, ap_new h.a02 h.r0 hl, ap_new h.a12 h.r1 hl, h.low, by have := h.size; have := hg.size; omega⟩
  rw [vals_snoc, List.length_append]; exact hown

end Go.Proofs.Ytmbccdjoliegiaa
