import Derived.Test.YtgednacoeifclaaS2
namespace Go.Proofs.Ytgednacoeifclaa
open Go.RowKit Go.Shelf

attribute [local go_sem] Oper.semAt_some

set_option maxRecDepth 100000 in
set_option maxHeartbeats 4000000 in
theorem alternate_any (s nf : Nat) (nb : Array Value) (c : Nat → Int) (L : Nat) (w : World) (hs : s < 64) (en : ∀ args w, (callFunc nf args).run Try.prog w = .ok (.enter nf args) w) (hL : 1 ≤ L) (hM : L ≤ 4611686018427387903)
    (hnum : Num nf nb c L (partsL s) w) (hA : sumA c (partsL s) ≤ 4611686018427387903) :
    Calls Try.prog 71 #[.int .i64 s, .func (.func nf) #[] nb] w fun e w' => e = .returned (.agg #[.int .i64 (frA (sumC (alC c) (partsL s)) L), .int .i64 (frB (sumC (alC c) (partsL s)) L : Nat)]) ∧ Below w.heap.size w w' := by
  obtain ⟨w3, hw3⟩ : ∃ w3, w3 = ((w.alloc (.cells #[.func (.func nf) #[] nb] 56)).alloc (.cells #[.int .i64 0, .int .i64 0] 24)).alloc (.cells #[.int .i64 s] 3) := ⟨_, rfl⟩
  have hb3 : Below w.heap.size w w3 := by rw [hw3]; exact (below_two _ _ _).alloc (by simp; omega) _
  have hs3 : w3.heap.size = w.heap.size + 3 := by rw [hw3]; simp
  have e0 : w3.heap[w.heap.size]? = some (.cells #[.func (.func nf) #[] nb] 56) := by rw [hw3]; exact heap_three0 w _ _ _
  have e1 : w3.heap[w.heap.size + 1]? = some (.cells #[.int .i64 0, .int .i64 0] 24) := by rw [hw3]; exact heap_three1 w _ _ _
  have e2 : w3.heap[w.heap.size + 1 + 1]? = some (.cells #[.int .i64 s] 3) := by rw [hw3]; exact heap_three w _ _ _
  have hn2 := alt1_any nf nb c L (partsL s) w.heap.size w3 en hL (block_cell e0 0) (hnum.keep hb3) (fun x hx => partsL_lt hx) hA
  have hit := parts_iter s hs (w.heap.size + 1 + 1) w3 (block_cell e2 0)
  have hsum := sum_any 95 #[.pointer (some ⟨w.heap.size + 1 + 1, 0, none⟩)] 84 #[.pointer (some ⟨w.heap.size, 0, none⟩)] (alC c) L (partsL s) _ w3 (enters_of Try.func95 (by kernel_rfl) rfl) (enters_of Try.func84 (by kernel_rfl) rfl)
    hit (fun k h => by omega) hn2 hL hM (by rw [sumA_alC]; exact hA)
  have HS := Lib.hid hsum
  have HB3 := Lib.hid hb3
  have HE1 := Lib.hid e1
  have HW3 := Lib.hid hw3
  clear hsum hit hn2 e0 e1 e2 hb3 hw3 hnum hA en
  go_enter Try.func71, Try.ntmps71
  go_wp2_with (go_at_call 83; refine (parts_any _ _).mono ?_; rintro e w' ⟨rfl, rfl⟩)
  rw [← HW3.out]
  refine HS.out.mono ?_
  rintro e w4 ⟨rfl, hb4⟩
  obtain ⟨q1, q2, q3, q4⟩ := fr_cells ((hb4.block (w.heap.size + 1) (by omega)).trans HE1.out)
  have HB4 : Hid (Below w.heap.size w w4) := HB3.out.trans (hb4.mono (by omega))
  clear hb4
  go_wp2
  exact bodyPost_ret (v := .agg #[.int .i64 (frA (sumC (alC c) (partsL s)) L), .int .i64 (frB (sumC (alC c) (partsL s)) L : Nat)]) (by simp [results, Try.results71, go_sem, q1, q2]) rfl ⟨rfl, (HB4.out.setCell (by simp) _).setCell (by simp) _⟩

theorem ownFrom_box {β : Type} {B b : Nat} {t : TypeId} (f : β → Value) : OwnFrom B (fun s W => Boxed W b t (f s)) := Own.from (boxed_own b t f) B

/-- The sum of the weights of kinds, of a set. -/
def ofL (z : Nat → Int) (xs : List Nat) : Int := (xs.map z).sum
def ofS (z : Nat → Int) (s : Nat) : Int := ofL z (kindsL s)
theorem ofL_snoc (z : Nat → Int) (xs : List Nat) (x : Nat) : ofL z (xs ++ [x]) = ofL z xs + z x := by simp [ofL]
theorem ofL_bd {z : Nat → Int} : ∀ {xs : List Nat}, (∀ x ∈ xs, 1 ≤ z x ∧ z x ≤ 9) → (xs.length : Int) ≤ ofL z xs ∧ ofL z xs ≤ 9 * xs.length
  | [], _ => by simp [ofL]
  | x :: xs, h => by
    have := ofL_bd (xs := xs) (fun y hy => h y (List.mem_cons_of_mem _ hy))
    have h1 := h x (List.mem_cons_self ..)
    simp only [ofL, List.map_cons, List.sum_cons, List.length_cons] at this ⊢
    omega
theorem kindsL_len (s : Nat) : (kindsL s).length ≤ 6 := Nat.le_trans (List.length_filter_le _ _) (by simp)
theorem kindsL_in {s n x : Nat} (hs : s < 2 ^ n) (h : x ∈ kindsL s) : x < n := by
  have hb : s.testBit x = true := by simpa using (List.mem_filter.1 h).2
  rcases Nat.lt_or_ge x n with h1 | h1
  · exact h1
  · have : s < 2 ^ x := Nat.lt_of_lt_of_le hs (Nat.pow_le_pow_right (by decide) h1)
    rw [Nat.testBit_lt_two_pow this] at hb; cases hb
theorem lt64 {s n : Nat} (hs : s < 2 ^ n) (hn : n ≤ 6) : s < 64 := Nat.lt_of_lt_of_le hs (Nat.pow_le_pow_right (by decide : 0 < 2) hn)

theorem box_two {w : World} {b : Nat} {v : Value} {T : TypeId} (h : w.heap[b]? = some (.cells #[v] T)) : Boxed w b T v := h

set_option maxRecDepth 100000 in
set_option maxHeartbeats 4000000 in
theorem of_any (a : Option Addr) (n cap : Nat) (z : Nat → Int) (s : Nat) (w : World) (hs : s < 2 ^ n) (hn : n ≤ 6) (hz : Ints w a n z) (h9 : ∀ j, j < n → 1 ≤ z j ∧ z j ≤ 9) :
    Calls Try.prog 74 #[.slice a n cap, .int .i64 s] w fun e w' => e = .returned (.int .i64 (ofS z s)) ∧ Below w.heap.size w w' := by
  have hs64 : s < 64 := lt64 hs hn
  have H9 := Lib.hid h9
  have HS := Lib.hid hs
  have HZ := Lib.hid hz
  obtain ⟨w2, hw2⟩ : ∃ w2, w2 = ((w.alloc (.cells #[.slice a n cap] 53)).alloc (.cells #[.int .i64 0] 3)).alloc (.cells #[.int .i64 s] 3) := ⟨_, rfl⟩
  have hb2 : Below w.heap.size w w2 := by rw [hw2]; exact (below_two _ _ _).alloc (by simp; omega) _
  have hs2 : w2.heap.size = w.heap.size + 3 := by rw [hw2]; simp
  have e0 : w2.cell? ⟨w.heap.size, 0, none⟩ = some (.slice a n cap) := by rw [hw2]; exact block_cell (heap_three0 w _ _ _) 0
  have e1 : Boxed w2 (w.heap.size + 1) 3 (.int .i64 (ofL z [])) := by rw [hw2]; exact heap_three1 w _ _ _
  have e2 : w2.heap[w.heap.size + 1 + 1]? = some (.cells #[.int .i64 s] 3) := by rw [hw2]; exact heap_three w _ _ _
  have hit := kinds_iter s hs64 (w.heap.size + 1 + 1) w2 (block_cell e2 0)
  have Hit := Lib.hid hit
  have HW2 := Lib.hid hw2
  have HB2 := Lib.hid hb2
  have HE0 := Lib.hid e0
  have HE1 := Lib.hid e1
  clear hw2 hb2 e0 e1 e2 hit h9 hs hz
  have hw1 : ∀ f, Fence.wide.fn f := fun _ => trivial
  have hwd : Fence.wide.depth = none := rfl
  have hmx : Try.prog.follows .mixedOrders = true := by kernel_rfl
  refine callsIn_wide (n := 0).1 ?_
  refine callsIn_of_wp_marks Try.func74 rfl trivial ?_ rfl
  simp only [Try.ntmps74, List.size_toArray, List.length_cons, List.length_nil, Nat.reduceAdd, Nat.reduceSub, Array.replicate_succ, Array.replicate_zero, List.push_toArray, List.append_toArray, List.nil_append, List.cons_append]
  gi_wp2_with (gi_at_call 79; refine (callsIn_wide.2 (kinds_any _ _)).mono ?_; rintro e w' ⟨rfl, rfl⟩)
  rw [← HW2.out]
  refine wp_range (gf := 94) (lb := #[.pointer (some ⟨w.heap.size + 1 + 1, 0, none⟩)]) (α := Nat) (w0 := w2) rfl (enters_of Try.func94 (by kernel_rfl) rfl) Hit.out (Below.refl _ _) (fun k => k = w.heap.size + 1) (fun k h => ⟨fun e => by omega, by omega⟩) (fun k h => by omega) (ei_own _)
    (fun pre W' => Boxed W' (w.heap.size + 1) 3 (.int .i64 (ofL z pre)) ∧ W'.cell? ⟨w.heap.size, 0, none⟩ = some (.slice a n cap) ∧ Keep (fun k => k = w.heap.size + 1) w2 W')
    (fun _ _ => False)
    (OwnFrom.and (ownFrom_box (fun pre : List Nat => .int .i64 (ofL z pre))) (OwnFrom.and ownFrom_cell (ownFrom_keep (Nat.le_refl _)))) (fun _ _ _ _ h _ _ => h)
    ⟨HE1.out, HE0.out, Keep.refl _ _⟩
    (fun v => { tmps := #[.slice a n cap, .int .i64 s, .pointer (some ⟨w.heap.size, 0, none⟩), undef, .int .i64 0, .pointer (some ⟨w.heap.size + 1, 0, none⟩), v, .int .i64 s, .func (.func 94) #[] #[.pointer (some ⟨w.heap.size + 1 + 1, 0, none⟩)], v, undef, undef, undef, undef, undef, undef, undef], defers := [] }) ?assign ?body ?done ?stop
  case assign =>
    intro l x W K hK
    gi_wp2
    exact hK
  case body =>
    rintro l2 pre x v W1 hpre hsz ⟨hbx, hcn, hkp⟩ hE _
    obtain rfl := hE
    have hc := hbx.cell
    have hf := hbx.frozen
    have hxn : x < n := kindsL_in HS.out (hpre.subset (by simp))
    have h9x := H9.out x hxn
    have hlen : (pre ++ [x]).length ≤ 6 := Nat.le_trans hpre.length_le (kindsL_len s)
    have hall := ofL_bd (z := z) (xs := pre) (fun y hy => H9.out y (kindsL_in HS.out (hpre.subset (by simp [hy]))))
    have HSn := Lib.hid (ofL_snoc z pre x)
    simp only [List.length_append, List.length_cons, List.length_nil] at hlen
    have hlo : Below w.heap.size w W1 := HB2.out.trans (hkp.below (fun k hk e => by omega) (by omega))
    obtain ⟨b, o, rfl, hcx⟩ := (HZ.out.keep (Nat.le_refl _) hlo) x hxn
    have hxi : (x : Int) < (n : Int) := by omega
    generalize ofL z pre = S at *
    have hS : 0 ≤ S ∧ S ≤ 54 := by omega
    have hwr : IntKind.i64.wrap (S + z x) = S + z x := IntWalk.i64_in _ (by omega)
    have HG : Hid (roundEnd (fun k => k = w.heap.size + 1) (fun pre W' => Boxed W' (w.heap.size + 1) 3 (.int .i64 (ofL z pre)) ∧ W'.cell? ⟨w.heap.size, 0, none⟩ = some (.slice (some ⟨b, o, none⟩) n cap) ∧ Keep (fun k => k = w.heap.size + 1) w2 W') (fun (_ : List Nat) _ => False) (pre ++ [x]) W1 .normal { tmps := #[], defers := [] } (W1.drew.setCell ⟨w.heap.size + 1, 0, none⟩ (.int .i64 (S + z x)))) := by
      have k1 : Keep (fun k => k = w.heap.size + 1) W1 (W1.drew.setCell ⟨w.heap.size + 1, 0, none⟩ (.int .i64 (S + z x))) := Keep.setCell (T := fun k => k = w.heap.size + 1) (p := ⟨w.heap.size + 1, 0, none⟩) (Keep.refl _ W1).drew rfl _
      refine ⟨k1, ?_, k1.cell hcn (fun e => by simp at e), hkp.trans k1⟩
      show Boxed _ _ _ (.int .i64 (ofL z (pre ++ [x])))
      rw [HSn.out]
      exact Boxed.set (W := W1.drew) _ hbx
    clear hbx hkp hpre hlo hall
    gi_wp2
    gi_region_with_o (fail)
    all_goals
      gi_wp2
      exact HG.out
  case done =>
    rintro D W3 hD hb3 ⟨hbx, _, hkp⟩ hK
    have hc := hbx.cell
    have hfin : Hid (Below w.heap.size w (W3.putObj D (.deferred none))) :=
      (HB2.out.trans (hkp.below (fun k hk e => by omega) (by omega))).trans ⟨rfl, rfl, rfl, by simp, fun k hk => World.putObj_heap_other (by omega)⟩
    clear hb3 hbx hkp
    gi_wp2
    refine ⟨by simp, .inl ⟨_, _, rfl, run_takeDeferred hK, ?_⟩⟩
    exact ⟨_, results_tmp rfl _ _ _, rfl, hfin.out⟩
  case stop =>
    rintro D pre W3 hD hb3 hpre hj hK
    exact hj.elim

end Go.Proofs.Ytgednacoeifclaa
