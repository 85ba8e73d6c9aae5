import Derived.Test.YtcedhcpjnoppmaaB2
/-
  A map of the ways: the laws at its operations, in plain words.
-/
namespace Go.Proofs.Ytcedhcpjnoppmaa
open Go.RowKit Go.Maps

theorem int_keys : Keyed Try.prog 3 := int_keyed Try.underlying3
theorem int_zero (w : World) : (zeroValue 3).run Try.prog w = .ok (.int .i64 0) w := by kernel_rfl
abbrev kL (z : Int) : Lit := .int .i64 z
abbrev vL (z : Int) : DataW Unit := .lit (.int .i64 z)

theorem wf_of {z : Int} (h : -9223372036854775808 ≤ z ∧ z ≤ 9223372036854775807) : (Lit.int .i64 z).wf = true := WalkArith.wf_i64 h

theorem kL_key (z : Int) : WideAt.IsKeyLit (kL z) := trivial

/-- What a map of numbers reads as: f, and its keys are from 0 to i. -/
structure Reads (D : DataW Unit) (i : Nat) (f : Int → Int) : Prop where
  at' : ∀ z, D.atKey (kL z) (vL 0) = vL (f z)
  keys : ∀ kl, has D kl = true → ∃ j : Nat, j ≤ i ∧ kl = kL j
  isMap : IsMap D

theorem lit_inj {x y : Int} (h : vL x = vL y) : x = y := by
  injection h with h; injection h

theorem Reads.zero {D : DataW Unit} {i : Nat} {f : Int → Int} (h : Reads D i f) {z : Int} (hz : has D (kL z) = false) : f z = 0 := by
  have h1 := h.at' z
  rw [atKey_of_not_has hz] at h1
  exact (lit_inj h1).symm
theorem Reads.out {D : DataW Unit} {i : Nat} {f : Int → Int} (h : Reads D i f) {z : Int} (hz : z < 0 ∨ (i : Int) < z) : f z = 0 := by
  refine h.zero ?_
  cases e : has D (kL z)
  · rfl
  · obtain ⟨j, hj, he⟩ := h.keys _ e
    injection he with _ he; omega

theorem Reads.congr {D : DataW Unit} {i : Nat} {f g : Int → Int} (h : Reads D i f) (e : ∀ z, f z = g z) : Reads D i g := ⟨fun z => by rw [← e z]; exact h.at' z, h.keys, h.isMap⟩
theorem Reads.mono {D : DataW Unit} {i i' : Nat} {f : Int → Int} (h : Reads D i f) (e : i ≤ i') : Reads D i' f :=
  ⟨h.at', fun kl hk => by obtain ⟨j, hj, he⟩ := h.keys kl hk; exact ⟨j, by omega, he⟩, h.isMap⟩

theorem reads_empty (i : Nat) : Reads (.map []) i (fun _ => 0) := ⟨fun _ => rfl, fun _ h => (by cases h), isMap_empty⟩

theorem Reads.put {D : DataW Unit} {i : Nat} {f : Int → Int} (h : Reads D i f) {j : Nat} (hj : j ≤ i) (v : Int) : Reads (D.put (kL j) (vL v)) i (fun z => if z = j then v else f z) := by
  refine ⟨fun z => ?_, fun kl hk => ?_, h.isMap.put _ _⟩
  · by_cases e : z = (j : Int)
    · simp only [e, if_true]; exact atKey_put_same h.isMap (kL_key _) _ _
    · simp only [e, if_false]
      rw [atKey_put_other (by intro hh; injection hh with _ hh; exact e hh)]; exact h.at' z
  · by_cases e : kl = kL j
    · exact ⟨j, hj, e⟩
    · rw [has_put_other e] at hk; exact h.keys kl hk

theorem Reads.del {D : DataW Unit} {i : Nat} {f : Int → Int} (h : Reads D i f) (x : Int) : Reads (D.del (kL x)) i (fun z => if z = x then 0 else f z) := by
  refine ⟨fun z => ?_, fun kl hk => ?_, h.isMap.del _⟩
  · by_cases e : z = x
    · simp only [e, if_true]; exact atKey_del_same _
    · simp only [e, if_false]
      rw [atKey_del_other (by intro hh; injection hh with _ hh; exact e hh)]; exact h.at' z
  · by_cases e : kl = kL x
    · rw [e, has_del_same] at hk; cases hk
    · rw [has_del_other e] at hk; exact h.keys kl hk

/-- The block b is a map of at most n entries that reads as f. -/
def WaysAt (w : World) (b n i : Nat) (f : Int → Int) : Prop := ∃ D, w.ownsMap Try.prog 3 (plainElem (H := Unit) Try.prog 3) b n D ∧ Reads D i f
/-- A range over it is under way: lf tells which keys are still to come. -/
def RangesAt (w : World) (b r n i : Nat) (f : Int → Int) (lf : Int → Bool) (cnt : Nat) : Prop :=
  ∃ D left, w.ranges Try.prog 3 (plainElem (H := Unit) Try.prog 3) b r n D left cnt ∧ Reads D i f ∧ ∀ z, left (kL z) = lf z

theorem WaysAt.kept {w w' : World} {b n i : Nat} {f : Int → Int} {row : Option Nat} (h : WaysAt w b n i f) (hg : w.grownBy w' row) (hne : some b ≠ row) : WaysAt w' b n i f := by
  obtain ⟨D, h1, h2⟩ := h; exact ⟨D, h1.kept hg hne, h2⟩
theorem WaysAt.alloc {w : World} {b n i : Nat} {f : Int → Int} (h : WaysAt w b n i f) (o : Obj) : WaysAt (w.alloc o) b n i f := by
  obtain ⟨D, h1, h2⟩ := h; exact ⟨D, h1.alloc o, h2⟩
theorem WaysAt.congr {w : World} {b n i : Nat} {f g : Int → Int} (h : WaysAt w b n i f) (e : ∀ z, f z = g z) : WaysAt w b n i g := by
  obtain ⟨D, h1, h2⟩ := h; exact ⟨D, h1, h2.congr e⟩
theorem WaysAt.mono {w : World} {b n n' i : Nat} {f : Int → Int} (h : WaysAt w b n i f) (e : n ≤ n') : WaysAt w b n' i f := by
  obtain ⟨D, h1, h2⟩ := h; exact ⟨D, h1.mono e, h2⟩
theorem WaysAt.out {w : World} {b n i : Nat} {f : Int → Int} (h : WaysAt w b n i f) {z : Int} (hz : z < 0 ∨ (i : Int) < z) : f z = 0 := by
  obtain ⟨D, h1, h2⟩ := h; exact h2.out hz
theorem WaysAt.lt {w : World} {b n i : Nat} {f : Int → Int} (h : WaysAt w b n i f) : b < w.heap.size := by
  obtain ⟨D, h1, h2⟩ := h; exact h1.lt
theorem WaysAt.below {w w' : World} {b n i : Nat} {f : Int → Int} (h : WaysAt w b n i f) {B : Nat} (hb : Below B w w') (hB : b < B) : WaysAt w' b n i f := by
  obtain ⟨D, ⟨es, c, h1, h3⟩, h2⟩ := h
  exact ⟨D, ⟨es, c, by rw [hb.block b hB]; exact h1, h3⟩, h2⟩
theorem WaysAt.setCell {w : World} {b n i : Nat} {f : Int → Int} (h : WaysAt w b n i f) {a : Addr} (ha : b ≠ a.block) (u : Value) : WaysAt (w.setCell a u) b n i f := by
  obtain ⟨D, h1, h2⟩ := h; exact ⟨D, h1.setCell ha u, h2⟩
theorem ways_made (w : World) (i : Nat) : WaysAt (w.alloc (.map #[] 0)) w.heap.size 0 i (fun _ => 0) := ⟨_, World.ownsMap_made _ _ _ _, reads_empty i⟩

theorem RangesAt.ways {w : World} {b r n i : Nat} {f : Int → Int} {lf : Int → Bool} {cnt : Nat} (h : RangesAt w b r n i f lf cnt) : WaysAt w b n i f := by
  obtain ⟨D, left, h1, h2, _⟩ := h; exact ⟨D, h1.owns, h2⟩
theorem RangesAt.lt {w : World} {b r n i : Nat} {f : Int → Int} {lf : Int → Bool} {cnt : Nat} (h : RangesAt w b r n i f lf cnt) : r < w.heap.size := by
  obtain ⟨D, left, h1, h2, _⟩ := h; exact h1.lt
theorem RangesAt.left_eq {w : World} {b r n i : Nat} {f : Int → Int} {lf : Int → Bool} {cnt : Nat} (h : RangesAt w b r n i f lf cnt) : w.rangeLeft b r = cnt := by
  obtain ⟨D, left, h1, h2, _⟩ := h; exact h1.left_eq
theorem RangesAt.kept {w w' : World} {b r n i : Nat} {f : Int → Int} {lf : Int → Bool} {cnt : Nat} {row : Option Nat} (h : RangesAt w b r n i f lf cnt) (hg : w.grownBy w' row) (hb : some b ≠ row) (hr : some r ≠ row) : RangesAt w' b r n i f lf cnt := by
  obtain ⟨D, left, h1, h2, h3⟩ := h; exact ⟨D, left, h1.kept hg hb hr, h2, h3⟩
theorem RangesAt.congr {w : World} {b r n i : Nat} {f g : Int → Int} {lf lg : Int → Bool} {cnt : Nat} (h : RangesAt w b r n i f lf cnt) (e : ∀ z, f z = g z) (e2 : ∀ z, lf z = lg z) : RangesAt w b r n i g lg cnt := by
  obtain ⟨D, left, h1, h2, h3⟩ := h; exact ⟨D, left, h1, h2.congr e, fun z => by rw [h3, e2]⟩
theorem RangesAt.setCell {w : World} {b r n i : Nat} {f : Int → Int} {lf : Int → Bool} {cnt : Nat} (h : RangesAt w b r n i f lf cnt) {a : Addr} (ha : b ≠ a.block) (hr : r ≠ a.block) (u : Value) : RangesAt (w.setCell a u) b r n i f lf cnt := by
  obtain ⟨D, left, ⟨es, c, since, seen, c0, h1, h2, h3, h4, h5, h6⟩, h7⟩ := h
  exact ⟨D, left, ⟨es, c, since, seen, c0, by rw [Below.heap_setCell _ _ _ _ ha]; exact h1, h2, h3, h4, by rw [Below.heap_setCell _ _ _ _ hr]; exact h5, h6⟩, h7⟩
theorem RangesAt.below {w w' : World} {b r n i : Nat} {f : Int → Int} {lf : Int → Bool} {cnt : Nat} (h : RangesAt w b r n i f lf cnt) {B : Nat} (hb : Below B w w') (hB : b < B) (hR : r < B) : RangesAt w' b r n i f lf cnt := by
  obtain ⟨D, left, ⟨es, c, since, seen, c0, h1, h2, h3, h4, h5, h6⟩, h7⟩ := h
  exact ⟨D, left, ⟨es, c, since, seen, c0, by rw [hb.block b hB]; exact h1, h2, h3, h4, by rw [hb.block r hR]; exact h5, h6⟩, h7⟩

section
variable (w : World) {ops : Array Oper} {rest : List Oper} {o : Oper} {a : Act} {Q : Exit → Act → World → Prop}

theorem wpList_lookup_ways (hg : o.guard = none) (m x : Operand) (hop : o.op = Op.lookup 101 m x false) (b n i : Nat) (f : Int → Int)
    (hm : a.eval m = .map (some b)) (h : WaysAt w b n i f) (z : Int) (hz : -9223372036854775808 ≤ z ∧ z ≤ 9223372036854775807) (hx : a.eval x = .int .i64 z)
    (hK : wpList Try.prog ops Q rest (a.put o.dst (.int .i64 (f z))) w) : wpList Try.prog ops Q (o :: rest) a w := by
  obtain ⟨D, h1, h2⟩ := h
  refine wpList_lookup_own_int w hg m x 101 hop 3 3 .i64 int_keys Try.underlying101 Try.underlying3 (int_zero _) b n D hm h1 _ (kL z) hx (keyOf_int_mk Try.underlying3 (wf_of hz)) fun c hat _ => ?_
  have e := hat.symm.trans (h2.at' z)
  have := lit_inj e
  subst this; exact hK

theorem wpList_update_ways (hg : o.guard = none) (m x y : Operand) (hop : o.op = Op.mapUpdate 101 m x y) (b n i : Nat) (f : Int → Int)
    (hm : a.eval m = .map (some b)) (h : WaysAt w b n i f) (hn : n < maxLen) (j : Nat) (hj : j ≤ i) (hi : i ≤ 1000) (hx : a.eval x = .int .i64 (j : Int)) (v : Int) (hv : -9223372036854775808 ≤ v ∧ v ≤ 9223372036854775807) (hy : a.eval y = .int .i64 v)
    (hK : ∀ w', WaysAt w' b (n + 1) i (fun z => if z = j then v else f z) → w.grownBy w' (some b) → wpList Try.prog ops Q rest (a.put o.dst undef) w') : wpList Try.prog ops Q (o :: rest) a w := by
  obtain ⟨D, h1, h2⟩ := h
  exact wpList_mapUpdate_own w hg m x y 101 hop 3 3 int_keys Try.underlying101 (plainElem (H := Unit) Try.prog 3) b n D hm h1 hn _ _ (kL j) hx hy (keyOf_int_mk Try.underlying3 (wf_of ⟨by omega, by omega⟩)) (vL v) [] (plainElem_int Try.underlying3 (wf_of hv))
    fun w' h3 h4 => hK w' ⟨_, h3, h2.put hj v⟩ h4

theorem wpList_insert_ways (hg : o.guard = none) (m x y : Operand) (hop : o.op = Op.insert 101 m x y) (b n i : Nat) (f : Int → Int)
    (hm : a.eval m = .map (some b)) (h : WaysAt w b n i f) (hn : n < maxLen) (j : Nat) (hj : j ≤ i) (hi : i ≤ 1000) (hx : a.eval x = .int .i64 (j : Int)) (v : Int) (hv : -9223372036854775808 ≤ v ∧ v ≤ 9223372036854775807) (hy : a.eval y = .int .i64 v)
    (hK : ∀ w', WaysAt w' b (n + 1) i (fun z => if z = j then v else f z) → w.grownBy w' (some b) → wpList Try.prog ops Q rest (a.put o.dst undef) w') : wpList Try.prog ops Q (o :: rest) a w := by
  obtain ⟨D, h1, h2⟩ := h
  refine wpList_plain hg fun K' hK' => ?_
  obtain ⟨w', hrun, r1, r2⟩ := h1.update int_keys Try.underlying101 hn (key := .int .i64 (j : Int)) (kl := kL j) (keyOf_int_mk Try.underlying3 (wf_of ⟨by omega, by omega⟩)) (val := .int .i64 v) (d := vL v) (ps := []) (plainElem_int Try.underlying3 (wf_of hv))
  unfold Oper.wp
  simp [execOp, hop, hm, hx, hy, hrun, Result.andThen]
  exact hK' _ _ (hK w' ⟨_, r1, h2.put hj v⟩ r2)

theorem wpList_range_ways (hg : o.guard = none) (m : Operand) (hop : o.op = Op.range 101 m) (b n i : Nat) (f : Int → Int) (hm : a.eval m = .map (some b)) (h : WaysAt w b n i f)
    (hK : ∀ w' lf cnt, RangesAt w' b w.heap.size n i f lf cnt → (∀ z, lf z = false → f z = 0) → cnt ≤ n → w.grownBy w' none → w'.heap.size = w.heap.size + 1 → wpList Try.prog ops Q rest (a.put o.dst (.pointer (some ⟨w.heap.size, 0, none⟩))) w') :
    wpList Try.prog ops Q (o :: rest) a w := by
  obtain ⟨D, h1, h2⟩ := h
  refine wpList_range_own w hg m 101 hop 3 3 int_keys Try.underlying101 (plainElem (H := Unit) Try.prog 3) b n D hm h1 fun w' h3 h4 h5 => hK w' (fun z => has D (kL z)) (size D) ⟨D, has D, h3, h2, fun _ => rfl⟩ (fun z hz => h2.zero hz) h1.size_le h4 h5

theorem wpList_next_ways (hg : o.guard = none) (it : Operand) (hop : o.op = Op.next it false) (b r n i : Nat) (f : Int → Int) (lf : Int → Bool) (cnt : Nat) (hit : a.eval it = .pointer (some ⟨r, 0, none⟩)) (h : RangesAt w b r n i f lf cnt)
    (hDone : (∀ z, lf z = false) → wpList Try.prog ops Q rest (a.put o.dst (.tuple #[.bool false])) w)
    (hMore : ∀ (j : Nat) (c : Int) (w' : World) (cnt' : Nat), c = f j → j ≤ i → lf j = true → RangesAt w' b r n i f (fun z => lf z && !(z == (j : Int))) cnt' → cnt' < cnt → w.grownBy w' (some r) → w'.heap.size = w.heap.size →
      (Instr.entry (.pointer (some ⟨r, 0, none⟩))).run Try.prog w' = .ok (.tuple #[.int .i64 (j : Int), .int .i64 c]) w' → wpList Try.prog ops Q rest (a.put o.dst (.tuple #[.bool true, .int .i64 (j : Int), .int .i64 c])) w') :
    wpList Try.prog ops Q (o :: rest) a w := by
  obtain ⟨D, left, h1, h2, h3⟩ := h
  refine wpList_next_ranges_ii w hg it hop 3 3 .i64 .i64 int_keys Try.underlying3 Try.underlying3 b r n D left cnt hit h1 (fun _ hl => hDone fun z => by rw [← h3]; exact hl _) ?_
  intro x c w' cnt' hwx hwc hlx hat hrg hlt hgr hsz hen
  obtain ⟨j, hj, he⟩ := h2.keys _ (has_true_of_atKey hat)
  injection he with _ he
  subst he
  have hc := lit_inj ((hat (vL 0)).symm.trans (h2.at' j))
  refine hMore j c w' cnt' hc hj (by rw [← h3]; exact hlx) ⟨D, _, hrg, h2, fun z => ?_⟩ hlt hgr hsz hen
  rw [h3]
  congr 2
  by_cases e : z = (j : Int)
  · subst e; rw [WideAt.sameKey_self (kL_key _)]; simp
  · rw [sameKey_ne (by intro hh; injection hh with _ hh; exact e hh)]; simp [e]

theorem wpList_delete_ways (hg : o.guard = none) (m x : Operand) (hop : o.op = Op.call { callee := Callee.builtin Builtin.delete, args := #[m, x], argTypes := #[101, 3] }) (b r n i : Nat) (f : Int → Int) (lf : Int → Bool) (cnt : Nat)
    (hm : a.eval m = .map (some b)) (h : RangesAt w b r n i f lf cnt) (j : Nat) (hj : j ≤ 1000) (hl : lf j = false) (hx : a.eval x = .int .i64 (j : Int))
    (hK : ∀ w' cnt', RangesAt w' b r n i (fun z => if z = (j : Int) then 0 else f z) lf cnt' → cnt' ≤ cnt → w.grownBy w' (some b) → wpList Try.prog ops Q rest (a.put o.dst (.tuple #[])) w') :
    wpList Try.prog ops Q (o :: rest) a w := by
  obtain ⟨D, left, h1, h2, h3⟩ := h
  refine wpList_delete_ranges w hg m x 101 3 hop 3 int_keys Try.underlying101 (plainElem (H := Unit) Try.prog 3) b r n D left cnt hm h1 _ (kL j) hx (keyOf_int_mk Try.underlying3 (wf_of ⟨by omega, by omega⟩)) fun w' cnt' h4 h5 h6 => hK w' cnt' ⟨_, _, h4, h2.del j, fun z => ?_⟩ h5 h6.grown
  rw [h3]
  by_cases e : z = (j : Int)
  · subst e; rw [hl]; rfl
  · rw [sameKey_ne (by intro hh; injection hh with _ hh; exact e hh)]; simp
end

end Go.Proofs.Ytcedhcpjnoppmaa
