import Derived.Test.YtmbccdjoliegiaaG4
namespace Go.Proofs.Ytmbccdjoliegiaa
open Go.RowKit Go.Shelf

attribute [local go_sem] Oper.semAt_some

/-- Is a number a set of creases? -/
def setB (n m : Int) : Bool := stripB n && decide (0 ≤ m) && decide (m < 2 ^ (n - 1).toNat)

theorem wrap_pow' (k : Nat) (h : k ≤ 60) : wrap64 ((2 : Int) ^ k) = (2 : Int) ^ k := by rw [wrap_pow k h]; simp

set_option maxHeartbeats 1000000 in
set_option maxRecDepth 100000 in
theorem isSet_any (n m : Int) (w : World) :
    Calls Try.prog 63 #[.int .i64 n, .int .i64 m] w fun e w' => e = .returned (.bool (setB n m)) ∧ w = w' := by
  cases hs : stripB n
  · have HR : Hid (setB n m = false) := by simp [Hid, setB, hs]
    have HS := Lib.hid hs
    clear hs
    go_enter Try.func63, Try.ntmps63
    go_wp2_with (go_at_call 54; refine (isStrip_r false _ _ HS.out).mono ?_; rintro e w' ⟨rfl, rfl⟩)
    go_ret
    exact ⟨by rw [HR.out]; rfl, rfl⟩
  · have HS := Lib.hid hs
    have hn : 1 ≤ n ∧ n ≤ 7 := by simpa [stripB] using hs
    obtain ⟨k, rfl⟩ : ∃ k : Nat, n = k + 1 := ⟨(n - 1).toNat, by omega⟩
    have hk : k ≤ 6 := by omega
    have HR : Hid (setB (k + 1) m = (decide (0 ≤ m) && decide (m < 2 ^ k))) := by
      rw [Hid, setB, hs, Bool.true_and, show ((k : Int) + 1 - 1).toNat = k by omega]
    have hw := wrap_pow' k (by omega)
    clear hs hn
    by_cases h0 : 0 ≤ m
    · have D0 : decide (0 ≤ m) = true := by simpa using h0
      go_enter Try.func63, Try.ntmps63
      go_wp2_with (go_at_call 54; refine (isStrip_r true _ _ HS.out).mono ?_; rintro e w' ⟨rfl, rfl⟩)
      go_ret
      exact ⟨by rw [HR.out]; simp [h0], rfl⟩
    · have D0 : decide (0 ≤ m) = false := by simpa using h0
      go_enter Try.func63, Try.ntmps63
      go_wp2_with (go_at_call 54; refine (isStrip_r true _ _ HS.out).mono ?_; rintro e w' ⟨rfl, rfl⟩)
      go_ret
      exact ⟨by rw [HR.out, D0]; rfl, rfl⟩
theorem isSet_r (r : Bool) (n m : Int) (w : World) (hr : setB n m = r) :
    Calls Try.prog 63 #[.int .i64 n, .int .i64 m] w fun e w' => e = .returned (.bool r) ∧ w = w' := by subst hr; exact isSet_any n m w
theorem setB_iff {n m : Int} : setB n m = true ↔ ∃ k j : Nat, n = k ∧ m = j ∧ 1 ≤ k ∧ k ≤ 7 ∧ j < 2 ^ (k - 1) := by
  simp only [setB, stripB, Bool.and_eq_true, decide_eq_true_eq]
  constructor
  · rintro ⟨⟨⟨h1, h2⟩, h3⟩, h4⟩
    refine ⟨n.toNat, m.toNat, by omega, by omega, by omega, by omega, ?_⟩
    have e : (n - 1).toNat = n.toNat - 1 := by omega
    rw [e] at h4
    have : ((2 : Int) ^ (n.toNat - 1)) = ((2 ^ (n.toNat - 1) : Nat) : Int) := by simp
    omega
  · rintro ⟨k, j, rfl, rfl, h1, h2, h3⟩
    refine ⟨⟨⟨by omega, by omega⟩, by omega⟩, ?_⟩
    have e : ((k : Int) - 1).toNat = k - 1 := by omega
    rw [e]
    have : ((2 : Int) ^ (k - 1)) = ((2 ^ (k - 1) : Nat) : Int) := by simp
    omega

theorem folds_bad (n m : Int) (w : World) (h : setB n m = false) :
    Calls Try.prog 34 #[.int .i64 n, .int .i64 m] w fun e w' => e = .returned (.tuple #[.int .i64 0, .int .i64 2]) ∧ w = w' := by
  have H := Lib.hid h
  clear h
  go_enter Try.func34, Try.ntmps34
  go_wp2_with (go_at_call 63; refine (isSet_r false _ _ _ H.out).mono ?_; rintro e w' ⟨rfl, rfl⟩)
  go_ret2
  exact ⟨rfl, rfl⟩

theorem fpiles_max {n m : Nat} (hn : n ≤ 7) : (fpiles n m).length ≤ 1000000 := Nat.le_trans (List.length_filter_le _ _) (piles_max hn)

set_option maxHeartbeats 2000000 in
set_option maxRecDepth 100000 in
theorem folds_good (n m : Nat) (w : World) (h1 : 1 ≤ n) (h7 : n ≤ 7) (hm : m < 2 ^ (n - 1)) :
    Calls Try.prog 34 #[.int .i64 n, .int .i64 m] w fun e w' => e = .returned (.tuple #[.int .i64 (fpiles n m).length, .int .i64 0]) ∧ Below w.heap.size w w' := by
  have H : Hid (setB n m = true) := setB_iff.2 ⟨n, m, rfl, rfl, h1, h7, hm⟩
  have hit := folded_iter n m h1 h7 w.heap.size (w.heap.size + 1) ((w.alloc (.cells #[.int .i64 n] 3)).alloc (.cells #[.int .i64 m] 3)) (block_cell (heap_two1 _ _ _) 0) (block_cell (heap_two2 _ _ _) 0)
  have hnum := number_any 77 _ (fpiles n m) _ _ (enters_of Try.func77 (by kernel_rfl) rfl) hit (fun k h => by rw [h]; simp) (fpiles_max h7)
  have HN := Lib.hid hnum
  have HB : Hid (Below w.heap.size w ((w.alloc (.cells #[.int .i64 n] 3)).alloc (.cells #[.int .i64 m] 3))) := ((Below.refl _ w).alloc (Nat.le_refl _) _).alloc (by simp) _
  clear hit hnum hm
  go_enter Try.func34, Try.ntmps34
  go_wp2_with (go_at_call 63; refine (isSet_r true _ _ _ H.out).mono ?_; rintro e w' ⟨rfl, rfl⟩)
  refine (folded_any _ _ _).mono ?_
  rintro e w3 ⟨rfl, rfl⟩
  go_wp2_with fail
  refine HN.out.mono ?_
  rintro e w4 ⟨rfl, hb4⟩
  have HF : Hid (Below w.heap.size w w4) := HB.out.trans (hb4.mono (by simp; omega))
  clear hb4
  go_wp2
  go_ret2
  exact ⟨rfl, HF.out⟩

theorem fold_bad (n m : Int) (w : World) (h : setB n m = false) :
    Calls Try.prog 33 #[.int .i64 n, .int .i64 m] w fun e w' => e = .returned (.tuple #[.slice none 0 0, .int .i64 2]) ∧ Below w.heap.size w w' := by
  have H := Lib.hid h
  have HB : Hid (∀ a b, Below w.heap.size w (((w.alloc (.cells #[.slice none 0 0] 22)).alloc (.cells #[.int .i64 0] 23)).setCell ⟨w.heap.size + 1, 0, none⟩ a) ∧ Below w.heap.size w ((((w.alloc (.cells #[.slice none 0 0] 22)).alloc (.cells #[.int .i64 0] 23)).setCell ⟨w.heap.size, 0, none⟩ b).setCell ⟨w.heap.size + 1, 0, none⟩ a)) := fun a b =>
    ⟨(((Below.refl _ w).alloc (Nat.le_refl _) _).alloc (by simp) _).setCell (Nat.le_succ _) _, ((((Below.refl _ w).alloc (Nat.le_refl _) _).alloc (by simp) _).setCell (Nat.le_refl _) _).setCell (Nat.le_succ _) _⟩
  have HB2 : Hid (Below w.heap.size w ((w.alloc (.cells #[.slice none 0 0] 22)).alloc (.cells #[.int .i64 2] 23))) := ((Below.refl _ w).alloc (Nat.le_refl _) _).alloc (by simp) _
  clear h
  go_enter Try.func33, Try.ntmps33
  go_wp2_with (go_at_call 63; refine (isSet_r false _ _ _ H.out).mono ?_; rintro e w' ⟨rfl, rfl⟩)
  refine bodyPost_ret (v := .tuple #[.slice none 0 0, .int .i64 2]) (by simp [results, Try.results33, go_sem]) rfl ⟨rfl, ?_⟩
  first | exact HB2.out | exact (HB.out _ _).2 | exact (HB.out _ (.slice none 0 0)).1

set_option maxHeartbeats 4000000 in
set_option maxRecDepth 100000 in
theorem fold_good (n m : Nat) (w : World) (h1 : 1 ≤ n) (h7 : n ≤ 7) (hm : m < 2 ^ (n - 1)) (x0 : List Nat) (rest : List (List Nat)) (hx : fpiles n m = x0 :: rest) :
    Calls Try.prog 33 #[.int .i64 n, .int .i64 m] w fun e w' => ∃ v, e = .returned (.tuple #[v, .int .i64 0]) ∧ Pl x0 v w' ∧ Below w.heap.size w w' := by
  have H : Hid (setB n m = true) := setB_iff.2 ⟨n, m, rfl, rfl, h1, h7, hm⟩
  have HX := Lib.hid hx
  have hw1 : ∀ f, Fence.wide.fn f := fun _ => trivial
  have hw2 : Fence.wide.depth = none := rfl
  clear hx hm
  refine callsIn_wide (n := 0).1 ?_
  refine callsIn_of_wp_marks Try.func33 rfl trivial ?_ rfl
  simp only [Try.ntmps33, List.size_toArray, List.length_cons, List.length_nil, Nat.reduceAdd, Nat.reduceSub, Array.replicate_succ, Array.replicate_zero, List.push_toArray, List.append_toArray, List.nil_append, List.cons_append]
  obtain ⟨w2, hw2e⟩ : ∃ w2, w2 = ((((w.alloc (.cells #[.slice none 0 0] 22)).alloc (.cells #[.int .i64 0] 23)).alloc (.cells #[.int .i64 n] 3)).alloc (.cells #[.int .i64 m] 3)) := ⟨_, rfl⟩
  have hs2 : w2.heap.size = w.heap.size + 4 := by rw [hw2e]; simp
  have hb2 : Below w.heap.size w w2 := by rw [hw2e]; exact ((((Below.refl _ w).alloc (Nat.le_refl _) _).alloc (by simp) _).alloc (by simp; omega) _).alloc (by simp; omega) _
  have B0 : Boxed w2 w.heap.size 22 (.slice none 0 0) := by
    rw [hw2e]; exact (((Boxed.new w _ _).alloc _).alloc _).alloc _
  have B1 : Boxed w2 (w.heap.size + 1) 23 (.int .i64 0) := by
    rw [hw2e]
    have := Boxed.new (w.alloc (.cells #[.slice none 0 0] 22)) 23 (.int .i64 0)
    rw [World.size_alloc] at this
    exact (this.alloc _).alloc _
  have B2 : Boxed w2 (w.heap.size + 2) 3 (.int .i64 n) := by
    rw [hw2e]
    have := Boxed.new ((w.alloc (.cells #[.slice none 0 0] 22)).alloc (.cells #[.int .i64 0] 23)) 3 (.int .i64 n)
    rw [World.size_alloc, World.size_alloc] at this
    exact this.alloc _
  have B3 : Boxed w2 (w.heap.size + 3) 3 (.int .i64 m) := by
    rw [hw2e]
    have := Boxed.new (((w.alloc (.cells #[.slice none 0 0] 22)).alloc (.cells #[.int .i64 0] 23)).alloc (.cells #[.int .i64 n] 3)) 3 (.int .i64 m)
    rw [World.size_alloc, World.size_alloc, World.size_alloc] at this
    exact this
  have HIt := Lib.hid (folded_iter n m h1 h7 (w.heap.size + 2) (w.heap.size + 3) w2 B2.cell B3.cell)
  have Hb2 := Lib.hid hb2
  have HB0 := Lib.hid B0
  have HB1 := Lib.hid B1
  have Hw := Lib.hid hw2e
  clear hw2e hb2 B0 B1 B2 B3
  gi_wp2_with fail
  refine (callsIn_wide.2 (isSet_r true _ _ _ H.out)).mono ?_
  rintro e w' ⟨rfl, rfl⟩
  gi_wp2_with fail
  refine (callsIn_wide.2 (folded_any _ _ _)).mono ?_
  rintro e w' ⟨rfl, rfl⟩
  simp only [World.size_alloc, Nat.add_assoc, Nat.reduceAdd]
  gi_wp2_with fail
  rw [← Hw.out]
  refine wp_range (gf := 77) (lb := #[.pointer (some ⟨w.heap.size + 2, 0, none⟩), .pointer (some ⟨w.heap.size + 3, 0, none⟩)]) rfl (enters_of Try.func77 (by kernel_rfl) rfl) HIt.out (Below.refl _ _)
    (fun k => k = w.heap.size ∨ k = w.heap.size + 1) (fun k h => ⟨fun e => by omega, by omega⟩) (fun k h => by omega)
    (pl_own _)
    (fun pre W' => pre = [] ∧ (Boxed W' w.heap.size 22 (.slice none 0 0) ∧ Boxed W' (w.heap.size + 1) 23 (.int .i64 0)))
    (fun pre W' => ∃ x a c, pre = [x] ∧ Boxed W' w.heap.size 22 (.slice a x.length c) ∧ Boxed W' (w.heap.size + 1) 23 (.int .i64 0) ∧ Pl x (.slice a x.length c) W')
    (OwnFrom.and (ownFrom_pure _ _) (OwnFrom.and (ownFrom_box (fun _ => .slice none 0 0)) (ownFrom_box (fun _ => .int .i64 0))))
    (fun s X Y row hs hg hr => by
      obtain ⟨x, a, c, h0, hb0, hb1, hp⟩ := hs
      exact ⟨x, a, c, h0, ownFrom_box (fun _ : Unit => .slice a x.length c) () X Y row hb0 hg hr, ownFrom_box (fun _ : Unit => .int .i64 0) () X Y row hb1 hg hr, pl_own _ x _ () X Y row hp hg hr⟩)
    ⟨rfl, HB0.out, HB1.out⟩
    (fun v => { tmps := #[.int .i64 n, .int .i64 m, undef, undef, .pointer (some ⟨w.heap.size, 0, none⟩), .pointer (some ⟨w.heap.size + 1, 0, none⟩), v, .int .i64 n, .int .i64 m, .bool true, .bool false, .int .i64 n, .int .i64 m, .func (.func 77) #[] #[.pointer (some ⟨w.heap.size + 2, 0, none⟩), .pointer (some ⟨w.heap.size + 3, 0, none⟩)], v, undef], defers := [] }) ?assign ?body ?done ?stop
  case assign =>
    intro l x W K hK
    gi_wp2
    exact hK
  case body =>
    rintro l2 pre x v W1 hpre hsz ⟨rfl, b0, b1⟩ hE hAv
    obtain ⟨a, cap, rfl, hcap1, hcap2, hI⟩ := hE
    have c0 := b0.cell
    have f0 := b0.frozen
    have c1 := b1.cell
    have f1 := b1.frozen
    have hI2 : Ints ((W1.setCell ⟨w.heap.size, 0, none⟩ (.slice a x.length cap)).setCell ⟨w.heap.size + 1, 0, none⟩ (.int .i64 0)) a x.length (zl x) := by
      intro j hj
      obtain ⟨b, o, ha, hc⟩ := hI j hj
      have hav := hAv b o none x.length cap (by rw [ha])
      refine ⟨b, o, ha, ?_⟩
      rw [World.cell?_of_block (Below.heap_setCell _ _ _ b (fun e => hav (Or.inr e))), World.cell?_of_block (Below.heap_setCell _ _ _ b (fun e => hav (Or.inl e)))]
      exact hc
    have hgood : Hid (Keep (fun k => k = w.heap.size ∨ k = w.heap.size + 1) W1 ((W1.setCell ⟨w.heap.size, 0, none⟩ (.slice a x.length cap)).setCell ⟨w.heap.size + 1, 0, none⟩ (.int .i64 0)) ∧
        (∃ x' a' c', ([] : List (List Nat)) ++ [x] = [x'] ∧ Boxed ((W1.setCell ⟨w.heap.size, 0, none⟩ (.slice a x.length cap)).setCell ⟨w.heap.size + 1, 0, none⟩ (.int .i64 0)) w.heap.size 22 (.slice a' x'.length c') ∧ Boxed ((W1.setCell ⟨w.heap.size, 0, none⟩ (.slice a x.length cap)).setCell ⟨w.heap.size + 1, 0, none⟩ (.int .i64 0)) (w.heap.size + 1) 23 (.int .i64 0) ∧ Pl x' (.slice a' x'.length c') ((W1.setCell ⟨w.heap.size, 0, none⟩ (.slice a x.length cap)).setCell ⟨w.heap.size + 1, 0, none⟩ (.int .i64 0)))) :=
      ⟨Keep.setCell (p := ⟨w.heap.size + 1, 0, none⟩) (Keep.setCell (p := ⟨w.heap.size, 0, none⟩) (Keep.refl _ _) (Or.inl rfl) _) (Or.inr rfl) _,
       x, a, cap, rfl, (b0.set _).other (by omega) _, (b1.other (by omega) _).set _, a, cap, rfl, hcap1, hcap2, hI2⟩
    clear hI hI2 hAv hpre b0 b1
    gi_wp2
    exact hgood.out
  case done =>
    rintro D W3 hD hk ⟨h0, _⟩ hK
    rw [HX.out] at h0
    cases h0
  case stop =>
    rintro D pre W3 hD hk hpre ⟨x, a, c, rfl, b0, b1, hp⟩ hK
    have hxx : x0 = x := by
      rw [HX.out] at hpre
      obtain ⟨t, ht⟩ := hpre
      simp at ht
      exact ht.1.symm
    subst hxx
    have hc0 := cell_kept b0.cell (grownBy_putObj' W3 D (.deferred none)) (fun r e => by cases e; exact ⟨_, hK, rfl⟩)
    have hc1 := cell_kept b1.cell (grownBy_putObj' W3 D (.deferred none)) (fun r e => by cases e; exact ⟨_, hK, rfl⟩)
    have hfin : Hid (Pl x0 (.slice a x0.length c) (W3.putObj D (.deferred none)) ∧ Below w.heap.size w (W3.putObj D (.deferred none))) :=
      ⟨(pl_own w.heap.size x0 _).putObj (s := ()) _ hp (by omega) hK rfl, (Hb2.out.trans (hk.below (fun k hk e => by omega) (by omega))).trans ⟨rfl, rfl, rfl, by simp, fun k hk => World.putObj_heap_other (by omega)⟩⟩
    clear hk hpre hp b0 b1
    gi_wp2
    refine ⟨by simp, .inl ⟨_, _, rfl, run_takeDeferred hK, ?_⟩⟩
    exact ⟨.tuple #[.slice a x0.length c, .int .i64 0], by simp [results, Try.results33, go_sem, hc0, hc1], _, rfl, hfin.out.1, hfin.out.2⟩

end Go.Proofs.Ytmbccdjoliegiaa
