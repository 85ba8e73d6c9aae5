import Derived.Test.YtgednacoeifclaaK2
import Derived.Test.YtgednacoeifclaaO1
import Derived.Shelf.AbstractIn
/-
  The sum of the numbers of what an iterator hands over.
-/
namespace Go.Proofs.Ytgednacoeifclaa
open Go.RowKit Go.Shelf

attribute [local go_sem] Oper.semAt_some

/-- A block that holds a fraction. -/
def FrBox (W : World) (b : Nat) (a : Int) (L : Nat) : Prop := W.heap[b]? = some (.cells #[.int .i64 (frA a L), .int .i64 (frB a L : Nat)] 24)
theorem FrBox.lt {W : World} {b : Nat} {a : Int} {L : Nat} (h : FrBox W b a L) : b < W.heap.size := (Array.getElem?_eq_some_iff.1 h).1
theorem frBox_own {β : Type} {B b : Nat} {f : β → Int} {L : Nat} : OwnFrom B (fun s W => FrBox W b (f s) L) := by
  intro s W W' row hs hg hr
  refine (hg.block b hs.lt (fun e => ?_)).trans hs
  obtain ⟨_, o, ho, hc⟩ := hr b e.symm
  rw [show W.heap[b]? = _ from hs] at ho; cases ho; cases hc
theorem set_block {W : World} {b j : Nat} {cs : Array Value} {T : TypeId} (h : W.heap[b]? = some (.cells cs T)) (v : Value) : (W.setCell ⟨b, j, none⟩ v).heap[b]? = some (.cells (cs.setIfInBounds j v) T) := by
  obtain ⟨hlt, hk⟩ := Array.getElem?_eq_some_iff.1 h
  show (W.heap.modify b _)[b]? = _
  rw [Array.getElem?_eq_getElem (by rw [Array.size_modify]; exact hlt), Array.getElem_modify_self, hk]
  rfl
theorem FrBox.set {W : World} {b : Nat} {a : Int} {L : Nat} (h : FrBox W b a L) (x : Int) (K : Nat) : FrBox ((W.setCell ⟨b, 0, none⟩ (.int .i64 (frA x K))).setCell ⟨b, 1, none⟩ (.int .i64 (frB x K : Nat))) b x K :=
  set_block (set_block h _) _
theorem ownFrom_keep {β : Type} {T : Nat → Prop} {B : Nat} {w0 : World} (h : w0.heap.size ≤ B) : OwnFrom B (fun (_ : β) W => Keep T w0 W) := fun s X Y row hs hg hr =>
  ⟨hg.os.trans hs.os, hg.tape.trans hs.tape, hg.output.trans hs.output, Nat.le_trans hs.size hg.size, fun k hk ho => (hg.block k (Nat.lt_of_lt_of_le hk hs.size) (fun e => by have := (hr k e.symm).1; omega)).trans (hs.block k hk ho)⟩
theorem ownFrom_cell {β : Type} {B : Nat} {p : Addr} {v : Value} : OwnFrom B (fun (_ : β) W => W.cell? p = some v) := fun _ _ _ _ hs hg hr => cell_kept hs hg (fun r e => (hr r e).2)

/-- A function value that tells the number c x of x, over L. -/
def Num (nf : Nat) (nb : Array Value) (c : Nat → Int) (L : Nat) (xs : List Nat) (w : World) : Prop :=
  ∀ x ∈ xs, ∀ W, Below w.heap.size w W → Calls Try.prog nf (#[.int .i64 x] ++ nb) W fun e W' => e = .returned (.agg #[.int .i64 (frA (c x) L), .int .i64 (frB (c x) L : Nat)]) ∧ Below W.heap.size W W'
theorem Num.keep {nf : Nat} {nb : Array Value} {c : Nat → Int} {L : Nat} {xs : List Nat} {w w' : World} (h : Num nf nb c L xs w) (hb : Below w.heap.size w w') : Num nf nb c L xs w' :=
  fun x hx W hW => h x hx W (hb.trans (hW.mono hb.size))

def sumC (c : Nat → Int) (xs : List Nat) : Int := (xs.map c).sum
def sumA (c : Nat → Int) (xs : List Nat) : Nat := (xs.map fun x => (c x).natAbs).sum
theorem sumC_nil (c : Nat → Int) : sumC c [] = 0 := rfl
theorem sumC_snoc (c : Nat → Int) (xs : List Nat) (x : Nat) : sumC c (xs ++ [x]) = sumC c xs + c x := by simp [sumC]
theorem sumA_snoc (c : Nat → Int) (xs : List Nat) (x : Nat) : sumA c (xs ++ [x]) = sumA c xs + (c x).natAbs := by simp [sumA]
theorem sumC_abs (c : Nat → Int) : ∀ xs : List Nat, (sumC c xs).natAbs ≤ sumA c xs
  | [] => by simp [sumC]
  | x :: xs => by
    have := sumC_abs c xs
    simp only [sumC, sumA, List.map_cons, List.sum_cons] at this ⊢
    omega
theorem sumA_pre (c : Nat → Int) {xs ys : List Nat} (h : xs <+: ys) : sumA c xs ≤ sumA c ys := by
  obtain ⟨zs, rfl⟩ := h
  simp [sumA]

set_option maxRecDepth 100000 in
set_option maxHeartbeats 4000000 in
theorem sum_any (gf : Nat) (lb : Array Value) (nf : Nat) (nb : Array Value) (c : Nat → Int) (L : Nat) (xs : List Nat) (Pr : Nat → Prop) (w : World) (eg : ∀ args w, (callFunc gf args).run Try.prog w = .ok (.enter gf args) w) (en : ∀ args w, (callFunc nf args).run Try.prog w = .ok (.enter nf args) w)
    (hit : Iter Try.prog gf lb EI Pr xs w) (hlo : ∀ k, Pr k → k < w.heap.size) (hnum : Num nf nb c L xs w) (hL : 1 ≤ L) (hM : L ≤ 4611686018427387903) (hA : sumA c xs ≤ 4611686018427387903) :
    Calls Try.prog 78 #[.func (.func gf) #[] lb, .func (.func nf) #[] nb] w fun e w' => e = .returned (.agg #[.int .i64 (frA (sumC c xs) L), .int .i64 (frB (sumC c xs) L : Nat)]) ∧ Below w.heap.size w w' := by
  have Hit := Lib.hid hit
  have Eg := Lib.hid eg
  have En := Lib.hid en
  have HN := Lib.hid hnum
  have HLo := Lib.hid hlo
  have HA := Lib.hid hA
  have hf0 := fraction_any 0 1
  have z0 := fr_one 0
  rw [z0.1, z0.2] at hf0
  have HF0 := Lib.hid hf0
  have z1 := fr_zero (L := L) hL
  have HZ := Lib.hid z1
  clear hit eg hnum hlo hf0 z0 z1 en hA
  have hw1 : ∀ f, Fence.wide.fn f := fun _ => trivial
  have hw2 : Fence.wide.depth = none := rfl
  refine callsIn_wide (n := 0).1 ?_
  refine callsIn_of_wp_marks Try.func78 rfl trivial ?_ rfl
  simp only [Try.ntmps78, List.size_toArray, List.length_cons, List.length_nil, Nat.reduceAdd, Nat.reduceSub, Array.replicate_succ, Array.replicate_zero, List.push_toArray, List.append_toArray, List.nil_append, List.cons_append]
  gi_wp2_with fail
  refine (callsIn_wide.2 (HF0.out _ (by omega) (by omega) (by omega) (by omega))).mono ?_
  rintro e w1 ⟨rfl, hb1⟩
  have hs1 : w.heap.size + 2 ≤ w1.heap.size := by have := hb1.size; simp at this; omega
  have c0 : w1.cell? ⟨w.heap.size, 0, none⟩ = some (.func (.func nf) #[] nb) := (hb1.cell (p := ⟨w.heap.size, 0, none⟩) (by simp; omega)).trans (block_cell (heap_two1 w _ _) 0)
  have hr1 : w1.heap[w.heap.size + 1]? = some (.cells #[.int .i64 0, .int .i64 0] 24) := (hb1.block (w.heap.size + 1) (by simp)).trans (heap_two2 w _ _)
  have HB1 : Hid (Below w.heap.size w w1) := (below_two w _ _).trans (hb1.mono (by simp; omega))
  clear hb1
  gi_wp2
  have hfb : FrBox (w1.alloc (.cells #[.int .i64 0, .int .i64 1] 24)) w1.heap.size 0 L := by
    show _ = some (Obj.cells #[.int .i64 (frA 0 L), .int .i64 (frB 0 L : Nat)] 24 (0, 0))
    rw [HZ.out.1, HZ.out.2]
    exact heap_alloc_new w1 _
  obtain ⟨w2, hw2e⟩ : ∃ w2, w2 = w1.alloc (.cells #[.int .i64 0, .int .i64 1] 24) := ⟨_, rfl⟩
  rw [← hw2e] at hfb
  rw [← hw2e]
  have hs2 : w2.heap.size = w1.heap.size + 1 := by rw [hw2e]; simp
  have c2 : w2.cell? ⟨w.heap.size, 0, none⟩ = some (.func (.func nf) #[] nb) := by rw [hw2e]; exact cell_kept c0 (World.grownBy_alloc w1 _ none) (fun r e => by cases e)
  have HB2 : Hid (Below w.heap.size w w2) := by rw [hw2e]; exact HB1.out.alloc (by omega) _
  have HRes : Hid (w2.heap[w.heap.size + 1]? = some (.cells #[.int .i64 0, .int .i64 0] 24)) := by rw [hw2e]; exact (Below.heap_alloc _ _ _ (by omega)).trans hr1
  clear hw2e c0 hr1
  have HC2 := Lib.hid c2
  clear c2
  refine wp_range (gf := gf) (lb := lb) (α := Nat) (w0 := w) rfl Eg.out Hit.out HB2.out (fun k => k = w1.heap.size) (fun k h => by have := HLo.out k h; exact ⟨fun e => by omega, by omega⟩) (fun k h => by omega) (ei_own _)
    (fun pre W' => FrBox W' w1.heap.size (sumC c pre) L ∧ W'.cell? ⟨w.heap.size, 0, none⟩ = some (.func (.func nf) #[] nb) ∧ Keep (fun k => k = w1.heap.size) w2 W')
    (fun _ _ => False)
    (OwnFrom.and frBox_own (OwnFrom.and ownFrom_cell (ownFrom_keep (Nat.le_refl _)))) (fun _ _ _ _ h _ _ => h)
    ⟨hfb, HC2.out, Keep.refl _ _⟩
    (fun v => { tmps := #[.func (.func gf) #[] lb, .func (.func nf) #[] nb, undef, .pointer (some ⟨w.heap.size, 0, none⟩), .pointer (some ⟨w.heap.size + 1, 0, none⟩), .pointer (some ⟨w1.heap.size, 0, none⟩), v, .agg #[.int .i64 0, .int .i64 1], .func (.func gf) #[] lb, v, undef, undef, undef, undef, undef, undef], defers := [] }) ?assign ?body ?done ?stop
  case assign =>
    intro l x W K hK
    gi_wp2
    exact hK
  case body =>
    rintro l2 pre x v W1 hpre hsz ⟨hbx, hcn, hkp⟩ hE _
    obtain rfl := hE
    obtain ⟨q1, q2, q3, q4⟩ := fr_cells hbx
    have hlt1 : w1.heap.size < W1.heap.size := by omega
    have hbw : Below w.heap.size w W1 := HB2.out.trans (hkp.below (fun k hk e => by omega) (by omega))
    have HNx := Lib.hid (HN.out x (hpre.subset (by simp)) W1.drew hbw.drew)
    have hcn' : W1.drew.cell? ⟨w.heap.size, 0, none⟩ = some (.func (.func nf) #[] nb) := hcn
    have HPl : Hid (∀ W, Calls Try.prog 93 #[.agg #[.int .i64 (frA (sumC c pre) L), .int .i64 (frB (sumC c pre) L : Nat)], .agg #[.int .i64 (frA (c x) L), .int .i64 (frB (c x) L : Nat)]] W fun e w' => e = .returned (.agg #[.int .i64 (frA (sumC c pre + c x) L), .int .i64 (frB (sumC c pre + c x) L : Nat)]) ∧ Below W.heap.size W w') := fun W => by
      have h1 := sumA_pre c hpre
      have h2 := HA.out
      have h3 := sumC_abs c pre
      rw [sumA_snoc] at h1
      exact plus_any _ _ L W hL hM (by omega) (by omega)
    have HBX := Lib.hid hbx
    have HKP := Lib.hid hkp
    have HCN := Lib.hid hcn
    have HS := Lib.hid (sumC_snoc c pre x)
    have hmx : Try.prog.follows .mixedOrders = true := by kernel_rfl
    have en' := En.out (#[.int .i64 x] ++ nb) W1.drew
    clear hbx hkp hbw hcn hpre
    gi_wp2
    gi_region_with_o (first
      | (gi_at_fn nf; refine (CallsIn.inRound l2 (callsIn_wide.2 HNx.out)).mono ?_; rintro e W2 ⟨rfl, hb2⟩; have q5 : W2.heap[w1.heap.size]? = _ := (hb2.block w1.heap.size hlt1).trans HBX.out; obtain ⟨r1, r2, r3, r4⟩ := fr_cells q5; have HQ5 := Lib.hid q5; have HBa := Lib.hid hb2; clear q5 hb2)
      | (gi_at_call 93; refine (CallsIn.inRound l2 (callsIn_wide.2 (HPl.out _))).mono ?_; rintro e W3 ⟨rfl, hb3⟩; have q5 : W3.heap[w1.heap.size]? = _ := (hb3.block w1.heap.size (Array.getElem?_eq_some_iff.1 HQ5.out).1).trans HQ5.out; obtain ⟨s1, s2, s3, s4⟩ := fr_cells q5; have HQ6 := Lib.hid q5; have HB3 := Lib.hid hb3; clear q5 hb3))
    all_goals
      have HG : Hid (roundEnd (fun k => k = w1.heap.size) (fun pre W' => FrBox W' w1.heap.size (sumC c pre) L ∧ W'.cell? ⟨w.heap.size, 0, none⟩ = some (.func (.func nf) #[] nb) ∧ Keep (fun k => k = w1.heap.size) w2 W') (fun (_ : List Nat) _ => False) (pre ++ [x]) W1 .normal { tmps := #[], defers := [] }
          ((W3.setCell ⟨w1.heap.size, 0, none⟩ (.int .i64 (frA (sumC c pre + c x) L))).setCell ⟨w1.heap.size, 1, none⟩ (.int .i64 (frB (sumC c pre + c x) L : Nat)))) := by
        have k1 : Keep (fun k => k = w1.heap.size) W1 ((W3.setCell ⟨w1.heap.size, 0, none⟩ (.int .i64 (frA (sumC c pre + c x) L))).setCell ⟨w1.heap.size, 1, none⟩ (.int .i64 (frB (sumC c pre + c x) L : Nat))) :=
          Keep.setCell (T := fun k => k = w1.heap.size) (p := ⟨w1.heap.size, 1, none⟩) (Keep.setCell (T := fun k => k = w1.heap.size) (p := ⟨w1.heap.size, 0, none⟩) ((((Keep.refl _ W1).drew).trans (Keep.of HBa.out)).trans (Keep.of HB3.out)) rfl _) rfl _
        refine ⟨k1, ?_, k1.cell HCN.out (fun e => by simp at e; omega), HKP.out.trans k1⟩
        show FrBox _ _ (sumC c (pre ++ [x])) L
        rw [HS.out]
        exact FrBox.set HQ6.out _ _
      clear q1 q2 q3 q4 r1 r2 r3 r4 s1 s2 s3 s4
      gi_wp2
      exact HG.out
  case done =>
    rintro D W3 hD hb3 ⟨hbx, _, hkp⟩ hK
    have hres : W3.heap[w.heap.size + 1]? = some (.cells #[.int .i64 0, .int .i64 0] 24) := (hkp.block (w.heap.size + 1) (by omega) (by omega)).trans HRes.out
    obtain ⟨q1, q2, q3, q4⟩ := fr_cells hbx
    obtain ⟨r1, r2, r3, r4⟩ := fr_cells hres
    obtain ⟨A, hAe⟩ : ∃ A, A = frA (sumC c xs) L := ⟨_, rfl⟩
    obtain ⟨B, hBe⟩ : ∃ B, B = frB (sumC c xs) L := ⟨_, rfl⟩
    rw [← hAe] at q1
    rw [← hBe] at q2
    have HE : Hid (frA (sumC c xs) L = A ∧ frB (sumC c xs) L = B) := ⟨hAe.symm, hBe.symm⟩
    clear hAe hBe
    obtain ⟨W4, hW4⟩ : ∃ W4, W4 = (W3.setCell ⟨w.heap.size + 1, 0, none⟩ (.int .i64 A)).setCell ⟨w.heap.size + 1, 1, none⟩ (.int .i64 (B : Int)) := ⟨_, rfl⟩
    have hb4 : W4.heap[w.heap.size + 1]? = some (.cells #[.int .i64 A, .int .i64 (B : Int)] 24) := by rw [hW4]; exact set_block (set_block hres _) _
    have hK4 : W4.heap[D]? = some (.deferred (some [])) := by
      rw [hW4]
      exact ((Below.heap_setCell _ _ _ D (fun e => by simp at e; omega)).trans (Below.heap_setCell _ _ _ D (fun e => by simp at e; omega))).trans hK
    have hb5 : (W4.putObj D (.deferred none)).heap[w.heap.size + 1]? = some (.cells #[.int .i64 A, .int .i64 (B : Int)] 24) := (World.putObj_heap_other (by omega)).trans hb4
    have hfin : Hid (Below w.heap.size w (W4.putObj D (.deferred none))) := by
      have h1 : Below w.heap.size w W4 := by
        rw [hW4]
        exact ((HB2.out.trans (hkp.below (fun k hk e => by omega) (by omega))).setCell (by simp) _).setCell (by simp) _
      exact h1.trans ⟨rfl, rfl, rfl, by simp, fun k hk => World.putObj_heap_other (by omega)⟩
    obtain ⟨s1, s2, _, _⟩ := fr_cells hb5
    have HK := Lib.hid hK4
    have HW4 := Lib.hid hW4
    have HS12 := Lib.hid (And.intro s1 s2)
    clear hb3 hbx hkp hK hK4 hW4 hb4 hb5 hres s1 s2
    gi_wp2
    rw [← HW4.out]
    refine ⟨by simp, .inl ⟨_, _, rfl, run_takeDeferred HK.out, ?_⟩⟩
    obtain ⟨s1, s2⟩ := HS12.out
    exact ⟨.agg #[.int .i64 A, .int .i64 (B : Int)], by simp [results, Try.results78, go_sem, s1, s2], by rw [HE.out.1, HE.out.2], hfin.out⟩
  case stop =>
    rintro D pre W3 hD hb3 hpre hj hK
    exact hj.elim

end Go.Proofs.Ytgednacoeifclaa
