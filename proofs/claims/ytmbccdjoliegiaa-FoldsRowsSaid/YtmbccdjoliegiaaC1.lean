import Derived.Test.YtmbccdjoliegiaaA1
namespace Go.Proofs.Ytmbccdjoliegiaa
open Go.RowKit

/-- Three numbers: a crease. -/
structure Tri where
  p : Int
  q : Int
  r : Int
def tcell (t : Tri) : List Value := [.int .i64 t.p, .int .i64 t.q, .int .i64 t.r]

theorem tflat_get : ∀ (l : List Tri) (k : Nat) (v : Tri), l[k]? = some v → ∀ i, i < 3 → (l.flatMap tcell)[k * 3 + i]? = (tcell v)[i]?
  | [], k, v, h, _, _ => by simp at h
  | u :: l, 0, v, h, i, hi => by
    simp at h; subst h
    rw [List.flatMap_cons, Nat.zero_mul, Nat.zero_add, List.getElem?_append_left (by simp [tcell]; exact hi)]
  | u :: l, k + 1, v, h, i, hi => by
    have h' : l[k]? = some v := by simpa using h
    have e : (tcell u).length = 3 := rfl
    rw [List.flatMap_cons, List.getElem?_append_right (by rw [e]; omega), e, show (k + 1) * 3 + i - 3 = k * 3 + i by omega]
    exact tflat_get l k v h' i hi

/-- A slice of triples that begins at the head of a block. -/
def TriAt (w : World) (a : Option Addr) (l : List Tri) : Prop :=
  ∀ k v, l[k]? = some v → ∃ b, a = some ⟨b, 0, none⟩ ∧ w.cell? ⟨b, k * 3, none⟩ = some (.int .i64 v.p) ∧ w.cell? ⟨b, k * 3 + 1, none⟩ = some (.int .i64 v.q) ∧ w.cell? ⟨b, k * 3 + 2, none⟩ = some (.int .i64 v.r)

theorem TriAt.keep {w w' : World} {a : Option Addr} {l : List Tri} (h : TriAt w a l) {B : Nat} (hB : w.heap.size ≤ B) (hb : Below B w w') : TriAt w' a l := by
  intro k v hk
  obtain ⟨b, ha, h0, h1, h2⟩ := h k v hk
  have hlt := Nat.lt_of_lt_of_le (World.block_lt_of_cell? _ _ h0) hB
  exact ⟨b, ha, by rw [hb.cell (p := ⟨b, k * 3, none⟩) hlt]; exact h0, by rw [hb.cell (p := ⟨b, k * 3 + 1, none⟩) hlt]; exact h1, by rw [hb.cell (p := ⟨b, k * 3 + 2, none⟩) hlt]; exact h2⟩

def OwnT (e : TypeId) (w : World) (base : Nat) (val : Value) (l : List Tri) : Prop := w.ownsRow base e 3 val l.length (l.flatMap tcell)
theorem OwnT.nil (e : TypeId) (w : World) (base : Nat) : OwnT e w base (.slice none 0 0) [] := World.ownsRow_nil _ _ _ _
theorem OwnT.snoc {e : TypeId} {w : World} {base : Nat} {val : Value} {l : List Tri} {t : Tri} (h : w.ownsRow base e 3 val (l.length + 1) (l.flatMap tcell ++ tcell t)) : OwnT e w base val (l ++ [t]) := by
  unfold OwnT
  rw [List.length_append, List.flatMap_append]
  simpa using h
theorem OwnT.keep {e : TypeId} {w w' : World} {base : Nat} {val : Value} {l : List Tri} (h : OwnT e w base val l) (hb : Below w.heap.size w w') : OwnT e w' base val l := ownsRow_below h hb

theorem OwnT.read {e : TypeId} {w : World} {base : Nat} {val : Value} {l : List Tri} (h : OwnT e w base val l) : ∃ a cap, val = .slice a l.length cap ∧ TriAt w a l ∧ l.length ≤ cap ∧ cap ≤ maxLen ∧ ∀ b o s, a = some ⟨b, o, s⟩ → base ≤ b ∧ b < w.heap.size := by
  rcases h.2 with ⟨rfl, hn⟩ | ⟨g, cap, cur, rfl, hb, hg, h1, h2, h3, h4⟩
  · have hl : l = [] := List.length_eq_zero_iff.1 hn
    subst hl
    exact ⟨none, 0, rfl, fun k v hk => by simp at hk, Nat.le_refl _, Nat.zero_le _, fun _ _ _ h => by cases h⟩
  · refine ⟨_, _, rfl, fun k v hk => ?_, h1, h2, fun b o s h => by cases h; exact ⟨hb, (Array.getElem?_eq_some_iff.1 hg).1⟩⟩
    have hc := World.ownsRow.cells h (g := g) rfl
    have c : ∀ i, i < 3 → ∀ u, (tcell v)[i]? = some u → w.cell? ⟨g, k * 3 + i, none⟩ = some u := by
      intro i hi u hu
      have := hc (k * 3 + i) u (by rw [tflat_get l k v hk i hi]; exact hu)
      rw [add_at, Nat.zero_add] at this
      exact this
    exact ⟨g, rfl, c 0 (by omega) _ rfl, c 1 (by omega) _ rfl, c 2 (by omega) _ rfl⟩

theorem three_new (w : World) (t : Tri) (T : TypeId) : ∀ j u, (tcell t)[j]? = some u → (w.alloc (.cells #[.int .i64 t.p, .int .i64 t.q, .int .i64 t.r] T)).cell? ((⟨w.heap.size, 0, none⟩ : Addr).add j) = some u := by
  intro j u hj
  match j, hj with
  | 0, hj => simp [tcell] at hj; subst hj; simp [Addr.add]
  | 1, hj => simp [tcell] at hj; subst hj; simp [Addr.add]
  | 2, hj => simp [tcell] at hj; subst hj; simp [Addr.add]
theorem three_ok (t : Tri) : ∀ u ∈ tcell t, u.oneCell' = true := by
  intro u hu
  simp [tcell] at hu
  rcases hu with rfl | rfl | rfl <;> rfl

/-- The creases between n leaves in a row, of which f is the first one: side, one, other. -/
def rowN (f k : Nat) : List Tri := (List.range k).map fun i => ⟨((i % 2 : Nat) : Int), ((f + i : Nat) : Int), ((f + i + 1 : Nat) : Int)⟩
theorem rowN_snoc (f k : Nat) : rowN f (k + 1) = rowN f k ++ [⟨((k % 2 : Nat) : Int), ((f + k : Nat) : Int), ((f + k + 1 : Nat) : Int)⟩] := by simp [rowN, List.range_succ]
theorem rowN_len (f k : Nat) : (rowN f k).length = k := by simp [rowN]
theorem rowN_get (f k i : Nat) (h : i < k) : (rowN f k)[i]? = some ⟨((i % 2 : Nat) : Int), ((f + i : Nat) : Int), ((f + i + 1 : Nat) : Int)⟩ := by simp [rowN, h]

theorem Try.infoC : (Try.prog.info? 84).map (fun i => (i.zero, i.size, i.bytes)) = some (some (.agg #[.int .i64 0, .int .i64 0, .int .i64 0]), 3, 24) := by kernel_rfl

set_option maxHeartbeats 1000000 in
set_option maxRecDepth 100000 in
theorem row_any (f n : Nat) (w : World) (hf : f ≤ 100) (hn : n ≤ 100) (h1 : 1 ≤ n) :
    Calls Try.prog 69 #[.int .i64 f, .int .i64 n] w fun e w' => ∃ v, e = .returned v ∧ OwnT 84 w' w.heap.size v (rowN f (n - 1)) ∧ Below w.heap.size w w' := by
  go_enter Try.func69, Try.ntmps69
  go_wp2
  go_loopw [5, 9] (fun v i wr => ∃ k : Nat, k ≤ n - 1 ∧ i = .int .i64 k ∧ OwnT 84 wr w.heap.size v (rowN f k) ∧ Below w.heap.size w wr) (fun _ i _ => n - (intOf i).toNat)
  case atStart => exact ⟨0, Nat.zero_le _, rfl, OwnT.nil _ _ _, Below.refl _ _⟩
  case round =>
    obtain ⟨k, hk, rfl, hO, hb⟩ := hrel
    have HO := Lib.hid hO
    have HB := Lib.hid hb
    have hBs := hb.size
    clear hO hb
    by_cases hlt : k + 1 < n
    · have hlt' : (k : Int) < (n : Int) - 1 := by omega
      obtain ⟨i0, hi, hz0, hz1, hz2⟩ := info_parts Try.infoC
      have hl := Lib.hid (rowN_len f k)
      go_wp2_with (first
        | (go_at_call 75; refine (sideOf_any k _ (by omega)).mono ?_; rintro e w' ⟨rfl, rfl⟩)
        | (at_builtin; refine wpList_append_own _ rfl _ _ 60 rfl w.heap.size 84 i0 (.agg #[.int .i64 0, .int .i64 0, .int .i64 0]) 3 24 Try.underlying60 hi hz0 hz1 hz2 rfl (by decide) _ _ _ rfl (HO.out.alloc _) ⟨wr.heap.size, 0, none⟩ 1 1 (tcell ⟨((k % 2 : Nat) : Int), (f : Int) + k, (f : Int) + k + 1⟩) rfl rfl (three_new _ _ _) (three_ok _) (by have := hl.out; unfold maxLen; omega) (by have := hl.out; omega) (by simp; omega) ?_))
      intro v' w5 hown hgrow _
      have hO5 : OwnT 84 w5 w.heap.size v' (rowN f (k + 1)) := by rw [rowN_snoc]; exact OwnT.snoc hown
      have hB5 : Below w.heap.size w w5 := (HB.out.alloc hBs _).grown hgrow (by simp; omega) (fun k hk => (World.ownsRow.lt HO.out k hk).1)
      have HO5 := Lib.hid hO5
      have HB5 := Lib.hid hB5
      clear hown hgrow hO5 hB5
      go_wp2
      go_roundw
      case rel => exact ⟨k + 1, by omega, by go_num, HO5.out, HB5.out⟩
      case measure => simp [intOf]; omega
    · have e : k = n - 1 := by omega
      have E := Lib.hid e
      clear e
      have hge : (n : Int) - 1 ≤ k := by omega
      go_wp2
      go_ret
      exact ⟨_, rfl, by rw [← E.out]; exact HO.out, HB.out⟩

theorem own_set {w : World} {base n : Nat} {e : TypeId} {size : Nat} {v : Value} {xs : List Value} (h : w.ownsRow base e size v n xs) {p : Addr} (hp : p.block < base) (u : Value) : (w.setCell p u).ownsRow base e size v n xs := by
  refine ⟨h.1, ?_⟩
  rcases h.2 with hn | ⟨g, cap, cur, rfl, hbg, hg, r⟩
  · exact Or.inl hn
  · exact Or.inr ⟨g, cap, cur, rfl, hbg, (Below.heap_setCell _ _ _ _ (by omega)).trans hg, r⟩

/-- A wrapper as a value. -/
def wrV (n : Nat) (v : Value) : Value := .agg #[.int .i64 n, v]

theorem Below.two {B : Nat} {a w w' : World} (h : Below B a w) (hb : Below w.heap.size w w') (hB : B ≤ w.heap.size) : Below B a w' := h.trans (hb.mono hB)

set_option maxHeartbeats 1000000 in
set_option maxRecDepth 100000 in
theorem strip_any (n : Nat) (w : World) (hn : n ≤ 100) (h1 : 1 ≤ n) :
    Calls Try.prog 49 #[.int .i64 n] w fun e w' => ∃ a cap, e = .returned (.agg #[.int .i64 n, .slice a (n - 1) cap]) ∧ TriAt w' a (rowN 0 (n - 1)) ∧ n - 1 ≤ cap ∧ cap ≤ maxLen ∧ (∀ b o s, a = some ⟨b, o, s⟩ → w.heap.size < b ∧ b < w'.heap.size) ∧ Below w.heap.size w w' := by
  have hr := row_any 0 n (w.alloc (.cells #[.int .i64 0, .slice none 0 0] 62)) (by omega) hn h1
  go_enter Try.func49, Try.ntmps49
  go_wp2_with fail
  refine hr.mono ?_
  clear hr
  rintro e w2 ⟨v, rfl, hO, hb⟩
  obtain ⟨a, cap, rfl, -, hc1, hc2, -⟩ := hO.read
  have hl := rowN_len 0 (n - 1)
  rw [hl] at hc1 hO ⊢
  have HT := Lib.hid hO
  clear hO hl
  have hz : w.heap.size < w2.heap.size := by have := hb.size; simp at this; omega
  have hblk : w2.heap[w.heap.size]? = some (.cells #[.int .i64 0, .slice none 0 0] 62) := (hb.block w.heap.size (by simp)).trans (heap_alloc_new w _)
  have c0 := block_cell hblk 0
  have c1 := block_cell hblk 1
  have f0 := block_free hblk 0
  have f1 := block_free hblk 1
  simp at c0 c1
  have HB := Lib.hid hb
  have HK := Lib.hid hblk
  clear hb hblk
  go_wp2
  have hB2 : Below w.heap.size w ((w2.setCell ⟨w.heap.size, 0, none⟩ (.int .i64 n)).setCell ⟨w.heap.size, 1, none⟩ (.slice a (n - 1) cap)) :=
    ((((Below.refl _ w).alloc (Nat.le_refl _) _).trans (HB.out.mono (by simp))).setCell (Nat.le_refl _) _).setCell (Nat.le_refl _) _
  have hO2 : OwnT 84 ((w2.setCell ⟨w.heap.size, 0, none⟩ (.int .i64 n)).setCell ⟨w.heap.size, 1, none⟩ (.slice a (n - 1) cap)) (w.heap.size + 1) (.slice a (n - 1) cap) (rowN 0 (n - 1)) := by
    have := HT.out
    rw [World.size_alloc] at this
    exact own_set (own_set this (Nat.lt_succ_self _) _) (Nat.lt_succ_self _) _
  obtain ⟨a', cap', he, hT, _, _, hlt⟩ := hO2.read
  injection he with he1 he2 he3
  subst he1
  exact bodyPost_ret (v := .agg #[.int .i64 n, .slice a (n - 1) cap]) (by simp [results, Try.results49, go_sem, c0, c1]) rfl ⟨a, cap, rfl, hT, hc1, hc2, hlt, hB2⟩

end Go.Proofs.Ytmbccdjoliegiaa
