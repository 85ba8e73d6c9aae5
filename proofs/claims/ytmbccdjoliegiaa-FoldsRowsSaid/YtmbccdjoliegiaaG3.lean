import Derived.Test.YtmbccdjoliegiaaG2
namespace Go.Proofs.Ytmbccdjoliegiaa
open Go.RowKit Go.Shelf

attribute [local go_sem] Oper.semAt_some

theorem ownFrom_box {β : Type} {B b : Nat} {t : TypeId} (f : β → Value) : OwnFrom B (fun s W => Boxed W b t (f s)) := Own.from (boxed_own b t f) B

set_option maxRecDepth 100000 in
set_option maxHeartbeats 4000000 in
theorem number_any (gf : Nat) (lb : Array Value) (xs : List (List Nat)) (Pr : Nat → Prop) (w : World) (eg : ∀ args w, (callFunc gf args).run Try.prog w = .ok (.enter gf args) w) (hit : Iter Try.prog gf lb Pl Pr xs w) (hlo : ∀ k, Pr k → k < w.heap.size) (hlen : xs.length ≤ 1000000) :
    Calls Try.prog 55 #[.func (.func gf) #[] lb] w fun e w' => e = .returned (.int .i64 xs.length) ∧ Below w.heap.size w w' := by
  have Hit := Lib.hid hit
  have Eg := Lib.hid eg
  clear hit eg
  have hw1 : ∀ f, Fence.wide.fn f := fun _ => trivial
  have hw2 : Fence.wide.depth = none := rfl
  refine callsIn_wide (n := 0).1 ?_
  refine callsIn_of_wp_marks Try.func55 rfl trivial ?_ rfl
  simp only [Try.ntmps55, List.size_toArray, List.length_cons, List.length_nil, Nat.reduceAdd, Nat.reduceSub, Array.replicate_succ, Array.replicate_zero, List.push_toArray, List.append_toArray, List.nil_append, List.cons_append]
  gi_wp2
  refine wp_range (gf := gf) (lb := lb) (α := List Nat) rfl Eg.out Hit.out ((Below.refl _ _).alloc (Nat.le_refl _) _) (fun k => k = w.heap.size) (fun k h => ⟨fun e => by have := hlo k h; omega, by have := hlo k h; simp; omega⟩) (fun k h => by rw [h]; simp) (pl_own _)
    (fun pre W' => Boxed W' w.heap.size 3 (.int .i64 (pre.length : Int)))
    (fun _ _ => False)
    (ownFrom_box (fun pre : List (List Nat) => .int .i64 (pre.length : Int))) (fun _ _ _ _ h _ _ => h)
    (Boxed.new w _ _)
    (fun v => { tmps := #[.func (.func gf) #[] lb, undef, .int .i64 0, .pointer (some ⟨w.heap.size, 0, none⟩), .func (.func gf) #[] lb, v, undef, undef, undef], defers := [] }) ?assign ?body ?done ?stop
  case assign =>
    intro l x W K hK
    gi_wp2
    exact hK
  case body =>
    intro l2 pre x v W1 hpre hsz hbx hE _
    have hl : pre.length + 1 ≤ 1000000 := by
      have := hpre.length_le
      simp at this; omega
    have hc := hbx.cell
    have hf := hbx.frozen
    have HBX := Lib.hid (hbx.set (.int .i64 ((pre ++ [x]).length : Int)))
    have e : ((pre ++ [x]).length : Int) = (pre.length : Int) + 1 := by simp
    rw [e] at HBX
    have HG : Hid (roundEnd (fun k => k = w.heap.size) (fun pre W' => Boxed W' w.heap.size 3 (.int .i64 (pre.length : Int))) (fun (_ : List (List Nat)) _ => False) (pre ++ [x]) W1 .normal { tmps := #[], defers := [] } (W1.setCell ⟨w.heap.size, 0, none⟩ (.int .i64 ((pre.length : Int) + 1)))) :=
      ⟨Keep.setCell (T := fun k => k = w.heap.size) (p := ⟨w.heap.size, 0, none⟩) (Keep.refl _ _) rfl _, by show Boxed _ _ _ (.int .i64 ((pre ++ [x]).length : Int)); rw [e]; exact HBX.out⟩
    clear hbx hE hpre e
    gi_wp2
    exact HG.out
  case done =>
    rintro D W3 hD hb3 hbx hK
    have hc := hbx.cell
    have hfin : Hid (Below w.heap.size w (W3.putObj D (.deferred none))) := (((Below.refl w.heap.size w).alloc (Nat.le_refl _) _).trans (hb3.below (fun k hk e => by omega) (by simp))).trans ⟨rfl, rfl, rfl, by simp, fun k hk => World.putObj_heap_other (by simp at hD; omega)⟩
    clear hb3
    gi_wp2
    refine ⟨by simp, .inl ⟨_, _, rfl, run_takeDeferred hK, ?_⟩⟩
    exact ⟨_, results_tmp rfl _ _ _, rfl, hfin.out⟩
  case stop =>
    rintro D pre W3 hD hb3 hpre hj hK
    exact hj.elim

/-- The possible piles of a strip. -/
def piles (n : Nat) : List (List Nat) := (perms n n []).filter (okP (rowN 0 (n - 1)))

theorem flat_le {α β : Type} (f : α → List β) (c : Nat) : ∀ (l : List α), (∀ x ∈ l, (f x).length ≤ c) → (l.flatMap f).length ≤ l.length * c
  | [], _ => by simp
  | a :: l, h => by
    have h1 := flat_le f c l (fun x hx => h x (List.mem_cons_of_mem _ hx))
    have h2 := h a (List.mem_cons_self ..)
    simp only [List.flatMap_cons, List.length_append, List.length_cons, Nat.add_mul]
    omega
theorem perms_many (n : Nat) : ∀ (k : Nat) (pre : List Nat), (perms n k pre).length ≤ n ^ k
  | 0, pre => by simp [perms]
  | k + 1, pre => by
    have := flat_le (fun x => if x ∈ pre then [] else perms n k (pre ++ [x])) (n ^ k) (List.range n) (fun x _ => by
      by_cases h : x ∈ pre
      · simp [h]
      · simp only [h, if_false]; exact perms_many n k _)
    rw [List.length_range] at this
    rw [Nat.pow_succ, Nat.mul_comm]
    exact this
theorem perms_max {n : Nat} (hn : n ≤ 7) : (perms n n []).length ≤ 1000000 := by
  refine Nat.le_trans (perms_many n n []) ?_
  have : n = 0 ∨ n = 1 ∨ n = 2 ∨ n = 3 ∨ n = 4 ∨ n = 5 ∨ n = 6 ∨ n = 7 := by omega
  rcases this with rfl | rfl | rfl | rfl | rfl | rfl | rfl | rfl <;> decide
theorem piles_max {n : Nat} (hn : n ≤ 7) : (piles n).length ≤ 1000000 := Nat.le_trans (List.length_filter_le _ _) (perms_max hn)

theorem count_bad (n : Int) (w : World) (h : stripB n = false) :
    Calls Try.prog 22 #[.int .i64 n] w fun e w' => e = .returned (.tuple #[.int .i64 0, .int .i64 2]) ∧ w = w' := by
  have H := Lib.hid h
  clear h
  go_enter Try.func22, Try.ntmps22
  go_wp2_with (go_at_call 54; refine (isStrip_r false _ _ H.out).mono ?_; rintro e w' ⟨rfl, rfl⟩)
  go_ret2
  exact ⟨rfl, rfl⟩

set_option maxRecDepth 100000 in
set_option maxHeartbeats 2000000 in
theorem count_good (n : Nat) (w : World) (h1 : 1 ≤ n) (h2 : n ≤ 7) :
    Calls Try.prog 22 #[.int .i64 n] w fun e w' => e = .returned (.tuple #[.int .i64 (piles n).length, .int .i64 0]) ∧ Below w.heap.size w w' := by
  have H : Hid (stripB n = true) := by simp [Hid, stripB]; omega
  go_enter Try.func22, Try.ntmps22
  go_wp2_with (go_at_call 54; refine (isStrip_r true _ _ H.out).mono ?_; rintro e w' ⟨rfl, rfl⟩)
  refine (strip_any n _ (by omega) h1).mono ?_
  rintro e w2 ⟨a, cap, rfl, hT, hc1, hc2, hlt, hb2⟩
  have HT := Lib.hid hT
  have HB2 := Lib.hid hb2
  clear hT hb2
  go_wp2_with fail
  refine (piles_any _ _ _).mono ?_
  rintro e w3 ⟨rfl, rfl⟩
  have hit : Iter Try.prog 72 #[.pointer (some ⟨w2.heap.size, 0, none⟩)] Pl (Prot w2.heap.size a) (piles n) (w2.alloc (.cells #[.int .i64 n, .slice a (n - 1) cap] 62)) :=
    piles_iter n (by omega) (rowN 0 (n - 1)) (n - 1) (rowN_len _ _) (by omega) a cap w2.heap.size _
      (block_cell (heap_alloc_new w2 _) 0) (block_cell (heap_alloc_new w2 _) 1) (HT.out.keep (Nat.le_refl _) ((Below.refl _ _).alloc (Nat.le_refl _) _))
  have hnum := number_any 72 #[.pointer (some ⟨w2.heap.size, 0, none⟩)] (piles n) _ _ (enters_of Try.func72 (by kernel_rfl) rfl) hit (fun k h => by
      rcases h with rfl | ⟨g, o, s, he, rfl⟩
      · simp
      · have := (hlt _ o s he).2; simp; omega) (piles_max h2)
  have HN := Lib.hid hnum
  clear hit hnum
  go_wp2_with fail
  refine HN.out.mono ?_
  rintro e w4 ⟨rfl, hb4⟩
  have HF : Hid (Below w.heap.size w w4) := by
    have h0 := HB2.out.alloc (B := w.heap.size) HB2.out.size (.cells #[.int .i64 n, .slice a (n - 1) cap] 62)
    exact h0.trans (hb4.mono (Nat.le_trans HB2.out.size (by simp)))
  clear hb4
  go_wp2
  go_ret2
  exact ⟨rfl, HF.out⟩

theorem piles_three : (piles 3).length = 6 := by decide +kernel

theorem awake_any (w : World) :
    Calls Try.prog 19 #[] w fun e w' => e = .returned (.bool true) ∧ Below w.heap.size w w' := by
  have hc := count_good 3 w (by omega) (by omega)
  rw [piles_three] at hc
  have HC := Lib.hid hc
  clear hc
  go_enter Try.func19, Try.ntmps19
  go_wp2_with (go_at_call 22; refine HC.out.mono ?_; rintro e w' ⟨rfl, hb⟩)
  go_ret
  exact ⟨rfl, hb⟩

end Go.Proofs.Ytmbccdjoliegiaa
