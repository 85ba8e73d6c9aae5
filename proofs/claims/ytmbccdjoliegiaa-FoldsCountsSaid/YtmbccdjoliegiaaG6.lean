import Derived.Test.YtmbccdjoliegiaaMath7
namespace Go.Proofs.Ytmbccdjoliegiaa
open Go.RowKit Go.Shelf

attribute [local go_sem] Oper.semAt_some

theorem round_bad (n : Int) (w : World) (h : stripB n = false) :
    Calls Try.prog 24 #[.int .i64 n] w fun e w' => e = .returned (.tuple #[.int .i64 0, .int .i64 2]) ∧ Below w.heap.size w w' := by
  have H := Lib.hid h
  clear h
  go_enter Try.func24, Try.ntmps24
  go_wp2_with (go_at_call 54; refine (isStrip_r false _ _ H.out).mono ?_; rintro e w' ⟨rfl, rfl⟩)
  go_ret2
  exact ⟨rfl, Below.refl _ _⟩

set_option maxHeartbeats 4000000 in
set_option maxRecDepth 100000 in
theorem round_good (n : Nat) (w : World) (h1 : 1 ≤ n) (h7 : n ≤ 7) :
    Calls Try.prog 24 #[.int .i64 n] w fun e w' => e = .returned (.tuple #[.int .i64 ((piles n).filter topB).length, .int .i64 0]) ∧ Below w.heap.size w w' := by
  have H : Hid (stripB n = true) := by simp [Hid, stripB]; omega
  have hw1 : ∀ f, Fence.wide.fn f := fun _ => trivial
  have hw2 : Fence.wide.depth = none := rfl
  refine callsIn_wide (n := 0).1 ?_
  refine callsIn_of_wp_marks Try.func24 rfl trivial ?_ rfl
  simp only [Try.ntmps24, List.size_toArray, List.length_cons, List.length_nil, Nat.reduceAdd, Nat.reduceSub, Array.replicate_succ, Array.replicate_zero, List.push_toArray, List.append_toArray, List.nil_append, List.cons_append]
  gi_wp2_with fail
  refine (callsIn_wide.2 (isStrip_r true _ _ H.out)).mono ?_
  rintro e w' ⟨rfl, rfl⟩
  have B0 : Hid (Boxed (w.alloc (.cells #[.int .i64 0] 3)) w.heap.size 3 (.int .i64 0)) := Boxed.new w _ _
  gi_wp2_with fail
  refine (callsIn_wide.2 (strip_any n _ (by omega) h1)).mono ?_
  rintro e w2 ⟨ca, cc, rfl, hT, hc1, hc2, hlt, hb2⟩
  rw [World.size_alloc] at hlt hb2
  have HT := Lib.hid hT
  have HB2 := Lib.hid hb2
  have HLt := Lib.hid hlt
  have hs2 : w.heap.size + 1 ≤ w2.heap.size := by have := hb2.size; rw [World.size_alloc] at this; exact this
  clear hT hb2 hlt hc1 hc2
  gi_wp2_with fail
  refine (callsIn_wide.2 (piles_any _ _ _)).mono ?_
  rintro e w' ⟨rfl, rfl⟩
  have HIt : Hid (Iter Try.prog 72 #[.pointer (some ⟨w2.heap.size, 0, none⟩)] Pl (Prot w2.heap.size ca) (piles n) (w2.alloc (.cells #[.int .i64 n, .slice ca (n - 1) cc] 62))) :=
    piles_iter n (by omega) (rowN 0 (n - 1)) (n - 1) (rowN_len _ _) (by omega) ca cc w2.heap.size _
      (block_cell (heap_alloc_new w2 _) 0) (block_cell (heap_alloc_new w2 _) 1) (HT.out.keep (Nat.le_refl _) ((Below.refl _ _).alloc (Nat.le_refl _) _))
  obtain ⟨w3, hw3⟩ : ∃ w3, w3 = w2.alloc (.cells #[.int .i64 n, .slice ca (n - 1) cc] 62) := ⟨_, rfl⟩
  have hs3 : w3.heap.size = w2.heap.size + 1 := by rw [hw3]; simp
  rw [← hw3] at HIt
  have HB3 : Hid (Below (w.heap.size + 1) (w.alloc (.cells #[.int .i64 0] 3)) w3) := by rw [hw3]; exact HB2.out.alloc (by omega) _
  have B3 : Boxed w3 w.heap.size 3 (.int .i64 0) := (HB3.out.block _ (Nat.lt_succ_self _)).trans B0.out
  have HW3 := Lib.hid hw3
  clear hw3 HB2
  gi_wp2_with fail
  rw [← HW3.out]
  refine wp_range (gf := 72) (lb := #[.pointer (some ⟨w2.heap.size, 0, none⟩)]) rfl (enters_of Try.func72 (by kernel_rfl) rfl) HIt.out (Below.refl _ _)
    (fun k => k = w.heap.size) (fun k h => by
      rcases h with rfl | ⟨g, o, s, he, rfl⟩
      · exact ⟨fun e => by omega, by omega⟩
      · have := HLt.out _ o s he; exact ⟨fun e => by omega, by omega⟩) (fun k h => by omega)
    (pl_own _)
    (fun pre W' => Boxed W' w.heap.size 3 (.int .i64 ((pre.filter topB).length : Int)))
    (fun _ _ => False)
    (ownFrom_box (fun pre : List (List Nat) => .int .i64 ((pre.filter topB).length : Int))) (fun _ _ _ _ h _ _ => h)
    B3
    (fun v => { tmps := #[.int .i64 n, undef, .int .i64 0, .int .i64 0, .pointer (some ⟨w.heap.size, 0, none⟩), v, .int .i64 n, .bool true, .bool false, .int .i64 n, .agg #[.int .i64 n, .slice ca (n - 1) cc], .func (.func 72) #[] #[.pointer (some ⟨w2.heap.size, 0, none⟩)], v, undef, undef, undef, undef, undef, undef, undef], defers := [] }) ?assign ?body ?done ?stop
  case assign =>
    intro l x W K hK
    gi_wp2
    exact hK
  case body =>
    intro l2 pre x v W1 hpre hsz hbx hE _
    obtain ⟨a, cap, rfl, hcap1, hcap2, hI⟩ := hE
    have hxn := piles_len hpre
    have hl : (pre.filter topB).length + 1 ≤ 1000001 := by
      have h0 := hpre.length_le
      have h1 := piles_max h7
      have h2 := List.length_filter_le topB pre
      simp at h0; omega
    have hx1 : 1 ≤ x.length := by omega
    have hx20 : x.length ≤ 20 := by omega
    have hcap3 : cap ≤ 9223372036854775807 := by unfold maxLen at hcap2; omega
    obtain ⟨b, o, rfl, hc0⟩ := hI 0 (by omega)
    rw [Nat.add_zero] at hc0
    have hzz : (zl x 0 = 0 ∧ topB x = true) ∨ (zl x 0 ≠ 0 ∧ topB x = false) := by
      cases x with
      | nil => simp at hx1
      | cons y l =>
        by_cases hy : y = 0
        · left; simp [zl, topB, hy]
        · right; simp [zl, topB, hy]
    have hc := hbx.cell
    have hf := hbx.frozen
    rcases hzz with ⟨hz, ht⟩ | ⟨hz, ht⟩
    · have HG : Hid (roundEnd (fun k => k = w.heap.size) (fun pre W' => Boxed W' w.heap.size 3 (.int .i64 ((pre.filter topB).length : Int))) (fun (_ : List (List Nat)) _ => False) (pre ++ [x]) W1 .normal { tmps := #[], defers := [] } (W1.setCell ⟨w.heap.size, 0, none⟩ (.int .i64 (((pre.filter topB).length : Int) + 1)))) :=
        ⟨Keep.setCell (T := fun k => k = w.heap.size) (p := ⟨w.heap.size, 0, none⟩) (Keep.refl _ _) rfl _, by
          show Boxed _ _ _ (.int .i64 (((pre ++ [x]).filter topB).length : Int))
          have e : (((pre ++ [x]).filter topB).length : Int) = ((pre.filter topB).length : Int) + 1 := by simp [ht]
          rw [e]; exact hbx.set _⟩
      have G : (zl x 0 == 0) = true := by simp [hz]
      clear hbx hpre hI ht hxn hz
      gi_wp2
      exact HG.out
    · have HG : Hid (roundEnd (fun k => k = w.heap.size) (fun pre W' => Boxed W' w.heap.size 3 (.int .i64 ((pre.filter topB).length : Int))) (fun (_ : List (List Nat)) _ => False) (pre ++ [x]) W1 .normal { tmps := #[], defers := [] } W1) :=
        ⟨Keep.refl _ _, by
          show Boxed _ _ _ (.int .i64 (((pre ++ [x]).filter topB).length : Int))
          have e : (((pre ++ [x]).filter topB).length : Int) = ((pre.filter topB).length : Int) := by simp [ht]
          rw [e]; exact hbx⟩
      have G : (zl x 0 == 0) = false := by simp [hz]
      clear hbx hpre hI ht hxn hz
      gi_wp2
      exact HG.out
  case done =>
    rintro D W4 hD hb4 hbx hK
    have hc := hbx.cell
    have hcp : (W4.putObj D (.deferred none)).cell? ⟨w.heap.size, 0, none⟩ = some (.int .i64 (((piles n).filter topB).length : Int)) := cell_kept hc (grownBy_putObj' W4 D (.deferred none)) (fun r e => by cases e; exact ⟨_, hK, rfl⟩)
    have hfin : Hid (Below w.heap.size w (W4.putObj D (.deferred none))) :=
      ((((Below.refl w.heap.size w).alloc (Nat.le_refl _) _).trans (HB3.out.mono (Nat.le_succ _))).trans (hb4.below (fun k hk e => by omega) (by omega))).trans ⟨rfl, rfl, rfl, by simp, fun k hk => World.putObj_heap_other (by omega)⟩
    clear hb4 hbx
    gi_wp2
    refine ⟨by simp, .inl ⟨_, _, rfl, run_takeDeferred hK, ?_⟩⟩
    exact ⟨.tuple #[.int .i64 (((piles n).filter topB).length : Int), .int .i64 0], by simp [results, Try.results24, go_sem, hc, hcp], rfl, hfin.out⟩
  case stop =>
    rintro D pre W4 hD hb4 hpre hj hK
    exact hj.elim

end Go.Proofs.Ytmbccdjoliegiaa
