import Derived.Test.YtaglbnblfhfkeaaK1
namespace Go.Proofs.Ytaglbnblfhfkeaa
open Go.RowKit

/-- What is found of a family. -/
structure FamL (m : Mx) (x : Vec) (l : List Vec) : Prop where
  nodup : l.Nodup
  first : x ∈ l
  fam : ∀ u ∈ l, Fam m x u
/-- What the first k vectors lead to is there. -/
def closedTo (F l : List Vec) (k : Nat) : Prop := ∀ j v, j < k → l[j]? = some v → ∀ u ∈ nearOf F v, u ∈ l

/-- All of a family, rising. -/
structure IsFam (m : Mx) (x : Vec) (l : List Vec) : Prop where
  sorted : l.Pairwise ltV
  mem : ∀ y, y ∈ l ↔ Fam m x y
theorem IsFam.nodup {m : Mx} {x : Vec} {l : List Vec} (h : IsFam m x l) : l.Nodup := h.sorted.imp (S := (· ≠ ·)) fun {a b} hab (e : a = b) => ltV_irrefl a (by subst e; exact hab)

theorem FamL.all {m : Mx} {x : Vec} {l F : List Vec} (hA : AllBasic m F) (hxc : inCols m.n x) (hx : Whole x) (h : FamL m x l) (hc : closedTo F l l.length) (y : Vec) : y ∈ l ↔ Fam m x y := by
  refine ⟨fun hy => h.fam y hy, fun hy => fam_path hxc hx (fun v => v ∈ l) h.first (fun v b hv hfv hb hw => ?_) hy⟩
  obtain ⟨j, hj⟩ := List.getElem?_of_mem hv
  exact hc j v (List.getElem?_eq_some_iff.1 hj).1 hj _ (mem_nearOf.2 ⟨b, (hA.mem b).2 hb, rfl, hw⟩)

theorem Fam.small {m : Mx} (hm : m.ok) {x y : Vec} (hxc : inCols m.n x) (hx : Whole x) (hn : Vec.norm x ≤ 24) (hp : ∀ b, Basic m b → ¬ Whole b) (h : Fam m x y) : Vec.norm y ≤ 720 := by
  have := h.bound hm hxc hx hp; omega
theorem near_720 {v : Vec} (h : Vec.norm v ≤ 720) : near 1000 v := by simp only [Vec.norm, near] at *; omega

theorem FamL.few {m : Mx} (hm : m.ok) {x : Vec} {l : List Vec} (hxc : inCols m.n x) (hx : Whole x) (hn : Vec.norm x ≤ 24) (hp : ∀ b, Basic m b → ¬ Whole b) (h : FamL m x l) : l.length ≤ 270234665281 :=
  few720 h.nodup fun v hv => ⟨(h.fam v hv).whole, (h.fam v hv).small hm hxc hx hn hp⟩

structure FamAt (w wr : World) (m : Mx) (sl : Value) (l : List Vec) (val : Value) : Prop where
  task : wr.heap[w.heap.size]? = some (.cells #[.int .i64 (m).r0.a, .int .i64 (m).r0.b, .int .i64 (m).r0.c, .int .i64 (m).r0.d, .int .i64 (m).r1.a, .int .i64 (m).r1.b, .int .i64 (m).r1.c, .int .i64 (m).r1.d, .int .i64 ((m).n : Int), sl] 77)
  own : OwnV wr (w.heap.size + 2) val l
  set : OwnSet wr (w.heap.size + 3) l.length (fun u => u ∈ l)
  below : Below w.heap.size w wr
theorem FamAt.lt {w wr : World} {m : Mx} {sl : Value} {l : List Vec} {val : Value} (h : FamAt w wr m sl l val) : w.heap.size + 3 < wr.heap.size := h.set.lt
theorem FamAt.keep {w wr w' : World} {m : Mx} {sl : Value} {l : List Vec} {val : Value} (h : FamAt w wr m sl l val) (hb : Below wr.heap.size wr w') : FamAt w w' m sl l val :=
  ⟨(hb.block _ (by have := h.lt; omega)).trans h.task, h.own.keep hb, h.set.keep hb, h.below.trans (hb.mono h.below.size)⟩

/-- Sorting, of longer rows too. -/
theorem sortV_long (val : Value) (l : List Vec) (base : Nat) (w : World) (h : OwnV w base val l) (hn : l.Nodup) (hl : l.length ≤ 270234665281) :
    Calls Try.prog 94 #[val, .func (.func 95) #[] #[]] w fun e w' => SortedTo w base val l e w' := by
  rcases h.2 with ⟨rfl, h0⟩ | ⟨g, cap, cur, rfl, hb, hg, h1, h2, h3, h4⟩
  · have e : l = [] := List.length_eq_zero_iff.1 h0
    subst e
    exact sortV_any _ [] base w h hn (by simp)
  · have hlt : g < w.heap.size := (Array.getElem?_eq_some_iff.1 hg).1
    have eg : ∀ args w, (callFunc 95 args).run Try.prog w = .ok (.enter 95 args) w := enters_of Try.func95 (by kernel_rfl) rfl
    have hc := AnyQ.slices_SortFunc layV 4 Try.isAgg61 Try.sizeOf61 vcell vcell_len (fun x => four_ok x) cmpV swo_cmpV 95 #[] g 0 cap l.toArray w eg (cmpLaysV g 0 l.toArray.size w) h.holds hlt (by simp; omega)
    change Calls Try.prog 94 #[.slice (some ⟨g, 0, none⟩) l.length cap, .func (.func 95) #[] #[]] _ _ at hc
    refine hc.mono fun e w' ⟨he, d', n, os, hp, hs, hw⟩ => ?_
    obtain ⟨k1, k2⟩ := sorted_list hp hs (by simpa using hn)
    have hsz : d'.size = l.length := by simpa using hp.1
    obtain ⟨k3, k4⟩ := OwnV.sorted h d' hsz n os
    refine ⟨d'.toList, by simpa using k1, k2, ?_, he, some g, by rw [hw]; exact k4, fun k hk => by cases hk; exact hb⟩
    rw [hw]; exact k3

theorem own_lit1 (w : World) (x : Vec) (base : Nat) (hb : base ≤ w.heap.size) : OwnV (w.alloc (.cells #[.int .i64 (x).a, .int .i64 (x).b, .int .i64 (x).c, .int .i64 (x).d] 61)) base (.slice (some ⟨w.heap.size, 0, none⟩) 1 1) [x] := by
  refine ⟨by simp [vcell], Or.inr ⟨w.heap.size, 1, #[.int .i64 (x).a, .int .i64 (x).b, .int .i64 (x).c, .int .i64 (x).d], rfl, hb, heap_alloc_new w _, Nat.le_refl _, by unfold maxLen; omega, rfl, rfl⟩⟩

def FB : Nat := 270234665282

/-- Behind near. -/
def CutN (F : List Vec) (v : Vec) (wo : World) (s26 s27 s28 : Value) (wx : World) : Prop :=
  ∃ aN cN, s26 = .slice aN (nearOf F v).length cN ∧ s27 = .int .i64 ((nearOf F v).length : Int) ∧ s28 = .int .i64 0 ∧ OwnV wx wo.heap.size (.slice aN (nearOf F v).length cN) (nearOf F v) ∧ Below wo.heap.size wo wx

structure FamIn (w wx : World) (m : Mx) (sl : Value) (x : Vec) (l N : List Vec) (q : Nat) (l2 : List Vec) (vN val : Value) : Prop where
  at' : FamAt w wx m sl l2 val
  fl : FamL m x l2
  ext : ∀ (j : Nat) (v : Vec), l[j]? = some v → l2[j]? = some v
  seen : ∀ u ∈ N.take q, u ∈ l2
  near : ∃ bN, OwnV wx bN vN N
  apart : apart vN val
theorem FamIn.keep {w wx w' : World} {m : Mx} {sl : Value} {x : Vec} {l N : List Vec} {q : Nat} {l2 : List Vec} {vN val : Value} (h : FamIn w wx m sl x l N q l2 vN val) (hb : Below wx.heap.size wx w') : FamIn w w' m sl x l N q l2 vN val := by
  obtain ⟨bN, hN⟩ := h.near
  exact ⟨h.at'.keep hb, h.fl, h.ext, h.seen, ⟨bN, hN.keep hb⟩, h.apart⟩
theorem FamIn.old {w wx : World} {m : Mx} {sl : Value} {x u : Vec} {l N : List Vec} {q : Nat} {l2 : List Vec} {vN val : Value} (h : FamIn w wx m sl x l N q l2 vN val) (hu : N[q]? = some u) (hin : u ∈ l2) : FamIn w wx m sl x l N (q + 1) l2 vN val := by
  refine ⟨h.at', h.fl, h.ext, fun y hy => ?_, h.near, h.apart⟩
  rw [List.take_add_one, hu] at hy
  rcases List.mem_append.1 hy with hy | hy
  · exact h.seen y hy
  · simp at hy; subst hy; exact hin

theorem closed_next {F l l2 : List Vec} {k : Nat} {v : Vec} (hv : l[k]? = some v) (hkl : k < l.length) (hC : closedTo F l k) (hext : ∀ (j : Nat) (v : Vec), l[j]? = some v → l2[j]? = some v) (hseen : ∀ u ∈ nearOf F v, u ∈ l2) : closedTo F l2 (k + 1) := by
  intro j y hj hy u hu
  by_cases e : j = k
  · subst e
    rw [hext j v hv] at hy
    cases hy
    exact hseen u hu
  · have hjl : j < l.length := by omega
    have hlj : l[j]? = some l[j] := List.getElem?_eq_getElem hjl
    have h2 := hext j _ hlj
    rw [hy] at h2
    cases h2
    have hin := hC j _ (by omega) hlj u hu
    obtain ⟨i, hi⟩ := List.getElem?_of_mem hin
    exact List.mem_of_getElem? (hext i u hi)
theorem ext_len {l l2 : List Vec} (hext : ∀ (j : Nat) (v : Vec), l[j]? = some v → l2[j]? = some v) {k : Nat} (hk : k < l.length) : k < l2.length :=
  (List.getElem?_eq_some_iff.1 (hext k _ (List.getElem?_eq_getElem hk))).1

/-- A new one is noted and appended. -/
theorem FamIn.fresh {w wx w2 w5 : World} {m : Mx} {sl : Value} {x u : Vec} {l N : List Vec} {q : Nat} {l2 : List Vec} {vN val val' : Value} (h : FamIn w wx m sl x l N q l2 vN val) (hu : N[q]? = some u) (hno : u ∉ l2) (hfam : Fam m x u)
    (o1 : Obj) (hset : OwnSet w2 (w.heap.size + 3) (l2.length + 1) (fun y => y ∈ l2 ∨ y = u)) (hg1 : (wx.alloc o1).grownBy w2 (some (w.heap.size + 3))) (o2 : Obj) (hown : OwnV w5 (w.heap.size + 2) val' (l2 ++ [u])) (hg2 : (w2.alloc o2).grownBy w5 val.ownBlock)
    (hw : val'.ownBlock = val.ownBlock ∨ ∃ k, val'.ownBlock = some k ∧ w2.heap.size + 1 ≤ k) : FamIn w w5 m sl x l N (q + 1) (l2 ++ [u]) vN val' := by
  obtain ⟨bN, hN⟩ := h.near
  have hlt := h.at'.lt
  have hlt2 := hset.lt
  have hN2 : OwnV w2 bN vN N := World.ownsRow.kept (hN.keep (below_alloc1 _ o1)) hg1 (row_not_map hN h.at'.set)
  have hv2 : OwnV w2 (w.heap.size + 2) val l2 := World.ownsRow.kept (h.at'.own.keep (below_alloc1 _ o1)) hg1 (row_not_map h.at'.own h.at'.set)
  have hob : ∀ k, val.ownBlock = some k → w.heap.size + 2 ≤ k := fun k hk => (World.ownsRow.lt h.at'.own k hk).1
  have hnm : some (w.heap.size + 3) ≠ val.ownBlock := fun e => by
    rcases row_not_map h.at'.own h.at'.set with h1 | h1
    · rw [h1] at e; cases e
    · exact h1 e.symm
  refine ⟨⟨?_, hown, ?_, ?_⟩, ⟨?_, List.mem_append_left _ h.fl.first, fun y hy => ?_⟩, fun j y hy => ?_, fun y hy => ?_, ⟨bN, kept_apart (hN2.keep (below_alloc1 _ o2)) hg2 h.apart⟩, apart_where (hN2.keep (below_alloc1 _ o2)) h.apart (by simp) hw⟩
  · rw [hg2.block _ (by simp; omega) (fun e => by have := hob _ e.symm; omega), Below.heap_alloc _ _ _ (by omega), hg1.block _ (by simp; omega) (by simp), Below.heap_alloc _ _ _ (by omega)]; exact h.at'.task
  · exact ((hset.keep (below_alloc1 _ o2)).kept hg2 hnm).congr (by simp) (fun y => by simp)
  · exact ((((h.at'.below.alloc h.at'.below.size o1).grown hg1 (by simp; omega) (fun k hk => by cases hk; omega)).alloc (by omega) o2).grown hg2 (by simp; omega) (fun k hk => by have := hob k hk; omega))
  · rw [List.nodup_append]
    exact ⟨h.fl.nodup, by simp, fun a ha b hb e => by simp at hb; subst hb; subst e; exact hno ha⟩
  · rcases List.mem_append.1 hy with hy | hy
    · exact h.fl.fam y hy
    · simp at hy; subst hy; exact hfam
  · have h1 := h.ext j y hy
    rw [List.getElem?_append_left (List.getElem?_eq_some_iff.1 h1).1]; exact h1
  · rw [List.take_add_one, hu] at hy
    rcases List.mem_append.1 hy with hy | hy
    · exact List.mem_append_left _ (h.seen y hy)
    · simp at hy; subst hy; exact List.mem_append_right _ (by simp)

def FamOut (m : Mx) (x : Vec) (w : World) (e : Ending) (w' : World) : Prop := ∃ val l, e = .returned val ∧ OwnV w' w.heap.size val l ∧ IsFam m x l ∧ l.length ≤ 270234665281 ∧ Below w.heap.size w w'

set_option maxHeartbeats 16000000 in
set_option maxRecDepth 100000 in
theorem tfamily_any (m : Mx) (a : Option Addr) (c : Nat) (F : List Vec) (x : Vec) (w : World) (hm : m.ok) (hF : VecsAt w a F) (hA : AllBasic m F) (hxc : inCols m.n x) (hx : Whole x) (hn : Vec.norm x ≤ 24) (hp : ¬ anyWhole F) :
    Calls Try.prog 100 #[.agg #[.int .i64 (m).r0.a, .int .i64 (m).r0.b, .int .i64 (m).r0.c, .int .i64 (m).r0.d, .int .i64 (m).r1.a, .int .i64 (m).r1.b, .int .i64 (m).r1.c, .int .i64 (m).r1.d, .int .i64 ((m).n : Int), .slice a F.length c], .agg #[.int .i64 (x).a, .int .i64 (x).b, .int .i64 (x).c, .int .i64 (x).d]] w fun e w' => FamOut m x w e w' := by
  have hl : F.length ≤ 20000000 := Nat.le_trans (hA.few hm) (by omega)
  have HP : Hid (∀ b, Basic m b → ¬ Whole b) := fun b hb hw => hp ⟨b, (hA.mem b).2 hb, hw⟩
  have H := Lib.hid hF
  have HA := Lib.hid hA
  have HM := Lib.hid hm
  have HXC := Lib.hid hxc
  have HX := Lib.hid hx
  have HN := Lib.hid hn
  have HXN : Hid (near 1000000000 x) := near_big' (near_720 (by omega))
  have hmm := @run_makeMap Try.prog
  have HM0 : Hid (OwnSet ((((w.alloc (.cells #[.int .i64 (m).r0.a, .int .i64 (m).r0.b, .int .i64 (m).r0.c, .int .i64 (m).r0.d, .int .i64 (m).r1.a, .int .i64 (m).r1.b, .int .i64 (m).r1.c, .int .i64 (m).r1.d, .int .i64 ((m).n : Int), .slice a F.length c] 77)).alloc (.cells #[.int .i64 (x).a, .int .i64 (x).b, .int .i64 (x).c, .int .i64 (x).d] 61)).alloc (.cells #[.int .i64 (x).a, .int .i64 (x).b, .int .i64 (x).c, .int .i64 (x).d] 61)).alloc (.map #[] 0)) (w.heap.size + 1 + 1 + 1) 0 (fun _ => False)) := by
    have h := OwnSet.made (((w.alloc (.cells #[.int .i64 (m).r0.a, .int .i64 (m).r0.b, .int .i64 (m).r0.c, .int .i64 (m).r0.d, .int .i64 (m).r1.a, .int .i64 (m).r1.b, .int .i64 (m).r1.c, .int .i64 (m).r1.d, .int .i64 ((m).n : Int), .slice a F.length c] 77)).alloc (.cells #[.int .i64 (x).a, .int .i64 (x).b, .int .i64 (x).c, .int .i64 (x).d] 61)).alloc (.cells #[.int .i64 (x).a, .int .i64 (x).b, .int .i64 (x).c, .int .i64 (x).d] 61))
    have e : (((w.alloc (.cells #[.int .i64 (m).r0.a, .int .i64 (m).r0.b, .int .i64 (m).r0.c, .int .i64 (m).r0.d, .int .i64 (m).r1.a, .int .i64 (m).r1.b, .int .i64 (m).r1.c, .int .i64 (m).r1.d, .int .i64 ((m).n : Int), .slice a F.length c] 77)).alloc (.cells #[.int .i64 (x).a, .int .i64 (x).b, .int .i64 (x).c, .int .i64 (x).d] 61)).alloc (.cells #[.int .i64 (x).a, .int .i64 (x).b, .int .i64 (x).c, .int .i64 (x).d] 61)).heap.size = w.heap.size + 1 + 1 + 1 := by simp
    rw [e] at h
    exact h
  clear hF hA hm hxc hx hn hp
  go_enter Try.func100, Try.ntmps100
  go_wp2_with (with_reducible refine wpList_insert_set _ rfl _ _ _ rfl (w.heap.size + 1 + 1 + 1) 0 _ rfl HM0.out (by unfold maxLen; omega) x HXN.out rfl rfl ?_)
  intro w1 hset hgrow
  have HF0 : Hid (FamAt w w1 m (.slice a F.length c) [x] (.slice (some ⟨w.heap.size + 1 + 1, 0, none⟩) 1 1)) := by
    have e2 : (((w.alloc (.cells #[.int .i64 (m).r0.a, .int .i64 (m).r0.b, .int .i64 (m).r0.c, .int .i64 (m).r0.d, .int .i64 (m).r1.a, .int .i64 (m).r1.b, .int .i64 (m).r1.c, .int .i64 (m).r1.d, .int .i64 ((m).n : Int), .slice a F.length c] 77)).alloc (.cells #[.int .i64 (x).a, .int .i64 (x).b, .int .i64 (x).c, .int .i64 (x).d] 61)).alloc (.cells #[.int .i64 (x).a, .int .i64 (x).b, .int .i64 (x).c, .int .i64 (x).d] 61)).heap.size = w.heap.size + 3 := by simp
    have ho := own_lit1 ((w.alloc (.cells #[.int .i64 (m).r0.a, .int .i64 (m).r0.b, .int .i64 (m).r0.c, .int .i64 (m).r0.d, .int .i64 (m).r1.a, .int .i64 (m).r1.b, .int .i64 (m).r1.c, .int .i64 (m).r1.d, .int .i64 ((m).n : Int), .slice a F.length c] 77)).alloc (.cells #[.int .i64 (x).a, .int .i64 (x).b, .int .i64 (x).c, .int .i64 (x).d] 61)) x (w.heap.size + 2) (by simp)
    have es : ((w.alloc (.cells #[.int .i64 (m).r0.a, .int .i64 (m).r0.b, .int .i64 (m).r0.c, .int .i64 (m).r0.d, .int .i64 (m).r1.a, .int .i64 (m).r1.b, .int .i64 (m).r1.c, .int .i64 (m).r1.d, .int .i64 ((m).n : Int), .slice a F.length c] 77)).alloc (.cells #[.int .i64 (x).a, .int .i64 (x).b, .int .i64 (x).c, .int .i64 (x).d] 61)).heap.size = w.heap.size + 1 + 1 := by simp
    rw [es] at ho
    have ho2 := ho.keep (below_alloc1 _ (.map #[] 0))
    refine ⟨?_, World.ownsRow.kept ho2 hgrow (Or.inr (by simp [Value.ownBlock])), ?_, ?_⟩
    · rw [hgrow.block _ (by simp; omega) (by simp; omega), Below.heap_alloc _ _ _ (by simp; omega), Below.heap_alloc _ _ _ (by simp; omega)]; exact heap_two1 _ _ _
    · exact hset.congr (by simp) (fun u => by simp)
    · exact (((below_two w _ _).alloc (by simp; omega) _).alloc (by simp; omega) _).grown hgrow (by simp; omega) (fun k hk => by cases hk; omega)
  have HL0 : Hid (FamL m x [x]) := ⟨by simp, by simp, fun u hu => by simp at hu; subst hu; exact Fam.self HXC.out HX.out⟩
  have HC0 : Hid (closedTo F [x] 0) := fun j v hj => absurd hj (Nat.not_lt_zero _)
  clear hset hgrow hmm
  go_wp2
  go_loopg [5, 7] FB (fun g val i wr => ∃ l k, k + g = FB ∧ k ≤ l.length ∧ i = .int .i64 ((k : Nat) : Int) ∧ FamAt w wr m (.slice a F.length c) l val ∧ FamL m x l ∧ closedTo F l k)
  case atStart => exact ⟨[x], 0, by omega, by simp, rfl, HF0.out, HL0.out, HC0.out⟩
  case round =>
    obtain ⟨l, k, hk, hkl, rfl, hFa, hL, hC⟩ := hrel
    have hlen := hL.few HM.out HXC.out HX.out HN.out HP.out
    have hFB : l.length < FB := by unfold FB; omega
    have HFa := Lib.hid hFa
    have HL := Lib.hid hL
    have HC := Lib.hid hC
    clear hFa hL hC HF0 HL0 HC0
    by_cases hlt : k < l.length
    · obtain ⟨g, rfl⟩ : ∃ g, gk = g + 1 := ⟨gk - 1, by omega⟩
      obtain ⟨wo, hwo⟩ : ∃ wo : World, wo = wr := ⟨_, rfl⟩
      subst hwo
      obtain ⟨al, cl, hval, hVl, hc1, hc2⟩ := HFa.out.own.read
      subst hval
      obtain ⟨v, hv⟩ : ∃ v, l[k]? = some v := ⟨_, List.getElem?_eq_getElem (by omega)⟩
      obtain ⟨bl, rfl, d0, d1, d2, d3⟩ := hVl k v hv
      have HV := Lib.hid hv
      have HFv := Lib.hid (HL.out.fam v (List.mem_of_getElem? hv))
      have HVn : Hid (near 1000 v) := near_720 (HFv.out.small HM.out HXC.out HX.out HN.out HP.out)
      have ct := task_cells HFa.out.task
      have hs3 := HFa.out.lt
      have hs0 : w.heap.size < wo.heap.size := by omega
      clear hVl hc1 hc2 hv
      go_upto_region 6 with fail
      go_cut [26, 27, 28] (fun s26 s27 s28 wx => CutN F v wo s26 s27 s28 wx)
      case first =>
        go_region_with (go_at_call 102; refine (near_any m _ _ F v _ (H.out.keep (Nat.le_refl _) HFa.out.below.drew) hl HVn.out (HA.out.near HM.out)).mono ?_; rintro e wc ⟨val, rfl, hO, hb⟩; obtain ⟨aN, cN, rfl, hVN, hcn1, hcn2⟩ := hO.read; have HO := Lib.hid hO; have HB := Lib.hid hb; clear hO hb hVN hcn1 hcn2)
        all_goals
          go_wp2_with fail
          go_meet
          exact ⟨aN, cN, rfl, rfl, rfl, HO.out, (Below.refl _ wo).drew.trans HB.out⟩
      case rest =>
        obtain ⟨aN, cN, rfl, rfl, rfl, hON, hbN⟩ := hcut
        have HI0 : Hid (FamIn w wc m (.slice a F.length c) x l (nearOf F v) 0 l (.slice aN (nearOf F v).length cN) (.slice (some ⟨bl, 0, none⟩) l.length cl)) :=
          ⟨HFa.out.keep hbN, HL.out, fun _ _ h => h, fun u hu => by simp at hu, ⟨_, hON⟩, (apart_new HFa.out.own hON (Nat.le_refl _)).symm⟩
        have HNF : Hid (∀ u ∈ nearOf F v, Fam m x u) := fun u hu => by
          obtain ⟨b, hb, rfl, hw⟩ := mem_nearOf.1 hu
          exact HFv.out.add ((HA.out.mem b).1 hb) hw
        have HCl : Hid (∀ l2 : List Vec, (∀ (j : Nat) (v : Vec), l[j]? = some v → l2[j]? = some v) → (∀ u ∈ nearOf F v, u ∈ l2) → closedTo F l2 (k + 1)) := fun l2 h1 h2 => closed_next HV.out hlt HC.out h1 h2
        have hNl : (nearOf F v).length ≤ 20000000 := Nat.le_trans nearOf_len hl
        clear hON hbN ct d0 d1 d2 d3
        generalize nearOf F v = N at HI0 HNF HCl hNl ⊢
        go_wp2
        go_loopg [5, 28] N.length (fun g2 val i wx => ∃ q l2, q + g2 = N.length ∧ i = .int .i64 ((q : Nat) : Int) ∧ FamIn w wx m (.slice a F.length c) x l N q l2 (.slice aN N.length cN) val)
        case atStart => exact ⟨0, l, by omega, rfl, HI0.out⟩
        case round =>
          obtain ⟨q, l2, hq, rfl, hI⟩ := hrel
          obtain ⟨wx, hwx⟩ : ∃ wx : World, wx = wr := ⟨_, rfl⟩
          subst hwx
          have HI := Lib.hid hI
          clear hI HI0
          cases gk with
          | zero =>
            have hqz : ¬ ((q : Int) < (N.length : Int)) := by omega
            have HE : Hid (FamAt w wx m (.slice a F.length c) l2 u5 ∧ FamL m x l2 ∧ closedTo F l2 (k + 1) ∧ k + 1 ≤ l2.length) := by
              have hs := HI.out.seen
              rw [show q = N.length by omega, List.take_of_length_le (Nat.le_refl _)] at hs
              exact ⟨HI.out.at', HI.out.fl, HCl.out l2 HI.out.ext hs, ext_len HI.out.ext hlt⟩
            go_wp2
            go_roundg g
            case measure => omega
            case rel => exact ⟨l2, k + 1, by omega, HE.out.2.2.2, by go_num, HE.out.1, HE.out.2.1, HE.out.2.2.1⟩
          | succ g2 =>
            have hqz : (q : Int) < (N.length : Int) := by omega
            obtain ⟨u, hu⟩ : ∃ u, N[q]? = some u := ⟨_, List.getElem?_eq_getElem (by omega)⟩
            obtain ⟨bN, hNo⟩ := HI.out.near
            obtain ⟨bx, hbx, d0, d1, d2, d3⟩ := hNo.vecs q u hu
            subst hbx
            have HU := Lib.hid hu
            have HUf := Lib.hid (HNF.out u (List.mem_of_getElem? hu))
            have HUn : Hid (near 1000000000 u) := near_big' (near_720 (HUf.out.small HM.out HXC.out HX.out HN.out HP.out))
            have hl2 : l2.length ≤ 270234665281 := HI.out.fl.few HM.out HXC.out HX.out HN.out HP.out
            have hs3x := HI.out.at'.lt
            clear hu hNo
            by_cases hin : u ∈ l2
            · have HIn := Lib.hid hin
              clear hin
              go_wp2_with (at_lookup; refine wpList_lookup_set _ rfl _ _ rfl (w.heap.size + 1 + 1 + 1) _ _ rfl (HI.out.at'.set.keep (below_alloc1 wx _)) u HUn.out true ⟨fun _ => rfl, fun h => absurd HIn.out h⟩ rfl ?_)
              go_roundg g2
              case measure => omega
              case rel => exact ⟨q + 1, l2, by omega, by go_num, (HI.out.old HU.out HIn.out).keep (below_alloc1 wx _)⟩
            · have HIn := Lib.hid hin
              clear hin
              go_wp2_with (first
                | (at_lookup; refine wpList_lookup_set _ rfl _ _ rfl (w.heap.size + 1 + 1 + 1) _ _ rfl (HI.out.at'.set.keep (below_alloc1 wx _)) u HUn.out false ⟨fun h => absurd h HIn.out, fun _ => rfl⟩ rfl ?_)
                | (at_mapUpdate; refine wpList_mapUpdate_set _ rfl _ _ _ rfl (w.heap.size + 1 + 1 + 1) _ _ rfl (HI.out.at'.set.keep (below_alloc1 wx _)) (by unfold maxLen; omega) u HUn.out rfl rfl ?_))
              intro w2 hset hgrow
              have HSet := Lib.hid hset
              have HG1 := Lib.hid hgrow
              have Hub : Hid (w2.heap[wx.heap.size]? = some (.cells #[.int .i64 (u).a, .int .i64 (u).b, .int .i64 (u).c, .int .i64 (u).d] 61)) := by
                simp only [Hid]
                rw [hgrow.block _ (by simp) (by simp; omega)]; exact heap_alloc_new wx _
              have c3 := vecS_cells Hub.out
              have hszu : wx.heap.size < w2.heap.size := (Array.getElem?_eq_some_iff.1 Hub.out).1
              have Hown2 : Hid (OwnV w2 (w.heap.size + 2) u5 l2) := World.ownsRow.kept (HI.out.at'.own.keep (below_alloc1 wx (.cells #[.int .i64 (u).a, .int .i64 (u).b, .int .i64 (u).c, .int .i64 (u).d] 61))) hgrow (row_not_map HI.out.at'.own HI.out.at'.set)
              clear hset hgrow d0 d1 d2 d3
              obtain ⟨i0, hi, hz0, hz1, hz2⟩ := info_parts Try.info61
              go_wp2_with (at_builtin; refine wpList_append_where _ rfl _ _ 67 rfl (w.heap.size + 2) 61 i0 (.agg #[.int .i64 0, .int .i64 0, .int .i64 0, .int .i64 0]) 4 32 Try.underlying67 hi hz0 hz1 hz2 rfl (by decide) _ _ _ rfl (Hown2.out.alloc _) ⟨w2.heap.size, 0, none⟩ 1 1 (vcell u) rfl rfl (four_new _ _ _) (four_ok _) (by omega) (by unfold maxLen; omega) (by omega) (by simp; omega) ?_)
              intro v' w5 hown hgrow hwhere
              have HI5 := Lib.hid (HI.out.fresh HU.out HIn.out HUf.out _ HSet.out HG1.out _ (OwnV.snoc hown) hgrow hwhere)
              clear hown hgrow hwhere c3
              go_wp2
              go_roundg g2
              case measure => omega
              case rel => exact ⟨q + 1, _, by omega, by go_num, HI5.out⟩
    · have e : k = l.length := by omega
      have HS := Lib.hid (sortV_long u5 l (w.heap.size + 2) wr HFa.out.own HL.out.nodup hlen)
      obtain ⟨al, cl, hval, hVl, hc1, hc2⟩ := HFa.out.own.read
      subst hval
      clear hVl hc1 hc2
      go_wp2_with fail
      refine HS.out.mono ?_
      rintro e' w2 ⟨l', hp, hs, hO, rfl, row, hg, hrow⟩
      have HR : Hid (OwnV w2 w.heap.size (.slice al l.length cl) l' ∧ IsFam m x l' ∧ l'.length ≤ 270234665281 ∧ Below w.heap.size w w2) := by
        subst e
        exact ⟨hO.mono (by omega), ⟨hs, fun y => hp.mem_iff.trans (HL.out.all HA.out HXC.out HX.out HC.out y)⟩, by rw [hp.length_eq]; exact hlen, HFa.out.below.grown hg (HFa.out.below.size) (fun q hq => by have := hrow q hq; omega)⟩
      clear hp hs hO hg hrow HS
      go_wp2
      go_ret
      exact ⟨_, l', rfl, HR.out.1, HR.out.2.1, HR.out.2.2.1, HR.out.2.2.2⟩
end Go.Proofs.Ytaglbnblfhfkeaa

namespace Go.Proofs.Ytaglbnblfhfkeaa
open Go.RowKit

/-- lists, of longer rows too. -/
theorem lists_long (m : Mx) (a : Option Addr) (cap : Nat) (l : List Vec) (w : World) (hn4 : m.n ≤ 4) (h : VecsAt w a l) (hl : l.length ≤ 270234665281) :
    Calls Try.prog 63 #[.agg #[.int .i64 (m).r0.a, .int .i64 (m).r0.b, .int .i64 (m).r0.c, .int .i64 (m).r0.d, .int .i64 (m).r1.a, .int .i64 (m).r1.b, .int .i64 (m).r1.c, .int .i64 (m).r1.d, .int .i64 ((m).n : Int)], .slice a l.length cap] w fun e w' => ∃ a' cap', e = .returned (.slice a' l.length cap') ∧ VL w' a' m.n l ∧ Below w.heap.size w w' := by
  obtain ⟨i0, hi, hz0, hz1, hz2⟩ := info_parts Try.info23
  have hmk : ∀ W : World, (Instr.makeSlice 22 (.int .i64 (l.length : Int)) (.int .i64 (l.length : Int))).run Try.prog W = .ok (.slice (some ⟨W.heap.size, 0, none⟩) l.length l.length) (W.alloc (.cells (madeCells #[.slice none 0 0] l.length) 23)) := by
    intro W
    have := run_make (P := Try.prog) W 22 23 i0 (.slice none 0 0) Try.underlying22 hi hz0 .i64 .i64 (l.length : Int) (l.length : Int) (by omega) (Int.le_refl _) (by rw [hz2]; omega) (by omega)
    rw [hz1] at this
    simp only [Int.toNat_natCast, Nat.mul_one] at this
    exact this
  have HL : Hid (Lists w ((w.alloc (.cells #[.int .i64 (m).r0.a, .int .i64 (m).r0.b, .int .i64 (m).r0.c, .int .i64 (m).r0.d, .int .i64 (m).r1.a, .int .i64 (m).r1.b, .int .i64 (m).r1.c, .int .i64 (m).r1.d, .int .i64 ((m).n : Int)] 64)).alloc (.cells (madeCells #[.slice none 0 0] l.length) 23)) m l 0) :=
    ⟨heap_two1 _ _ _, ⟨_, heap_two2 _ _ _, size_madeCells _ _, fun _ => none, fun _ => 0, fun j hj => absurd hj (Nat.not_lt_zero _), fun j hj => absurd hj (Nat.not_lt_zero _)⟩, below_two _ _ _⟩
  have H := Lib.hid h
  clear h hi hz0 hz1 hz2
  generalize madeCells #[.slice none 0 0] l.length = cs0 at hmk HL
  go_enter Try.func63, Try.ntmps63
  go_wp2
  go_loopw [13] (fun i wr => ∃ k : Nat, k ≤ l.length ∧ i = .int .i64 k ∧ Lists w wr m l k) (fun i _ => l.length - (intOf i).toNat)
  case atStart => exact ⟨0, Nat.zero_le _, rfl, HL.out⟩
  case round =>
    obtain ⟨k, hk, rfl, hL⟩ := hrel
    clear hmk HL
    have HL := Lib.hid hL
    by_cases hlt : k < l.length
    · obtain ⟨wo, hwo⟩ : ∃ wo : World, wo = wr := ⟨_, rfl⟩
      subst hwo
      obtain ⟨x, hx⟩ : ∃ x, l[k]? = some x := ⟨_, List.getElem?_eq_getElem (by omega)⟩
      obtain ⟨bx, rfl, d0, d1, d2, d3⟩ := (H.out.keep (Nat.le_refl _) hL.below) k x hx
      have HX := Lib.hid hx
      have c0 := matS_cells hL.mm
      have hszm : w.heap.size < wo.heap.size := (Array.getElem?_eq_some_iff.1 hL.mm).1
      have Hc := Lib.hid (mlist_any m x (wo.alloc (.cells #[.int .i64 (x).a, .int .i64 (x).b, .int .i64 (x).c, .int .i64 (x).d] 61)) hn4)
      clear hL hx
      go_wp2_with fail
      refine Hc.out.mono ?_
      rintro e w3 ⟨a', cap', rfl, hO, hb3⟩
      have HL3 := Lib.hid (HL.out.keep (((Below.refl _ wo).alloc (Nat.le_refl _) (.cells #[.int .i64 (x).a, .int .i64 (x).b, .int .i64 (x).c, .int .i64 (x).d] 61)).trans (hb3.mono (by simp))))
      have HO : Hid (Own w3 (w.heap.size + 1) a' m.n cap' x.at') := hO.mono (by simp; omega)
      obtain ⟨cs, h1, h2, _⟩ := HL3.out.out
      have hkc : k < cs.size := by omega
      have hc1 : w3.cell? ⟨w.heap.size + 1, k, none⟩ = some cs[k] := by rw [block_cell h1]; simp [hkc]
      have hf1 : w3.frozen? ⟨w.heap.size + 1, k, none⟩ = false := block_free h1 _
      have HLs := Lib.hid (HL3.out.set HX.out HO.out)
      clear hO hb3 Hc c0 d0 d1 d2 d3 h1 h2
      go_wp2
      go_roundw
      case rel => exact ⟨k + 1, by omega, by go_num, HLs.out⟩
      case measure => simp [intOf]; omega
    · have e : k = l.length := by omega
      subst e
      have HV := Lib.hid (hL.done hn4)
      have HB : Hid (Below w.heap.size w wr) := hL.below
      clear hL
      go_wp2
      go_ret
      exact ⟨_, _, rfl, HV.out, HB.out⟩

def SomeEmpty (w : World) (e : Ending) (w' : World) : Prop := ∃ a' c', e = .returned (.slice a' 0 c') ∧ Below w.heap.size w w'
set_option maxHeartbeats 4000000 in
set_option maxRecDepth 100000 in
theorem lists_none (r0 r1 : Nat → Int) (c : Int) (w : World) : Calls Try.prog 63 #[.agg #[.int .i64 (r0 0), .int .i64 (r0 1), .int .i64 (r0 2), .int .i64 (r0 3), .int .i64 (r1 0), .int .i64 (r1 1), .int .i64 (r1 2), .int .i64 (r1 3), .int .i64 c], .slice none 0 0] w fun e w' => SomeEmpty w e w' := by
  obtain ⟨i0, hi, hz0, hz1, hz2⟩ := info_parts Try.info23
  have hmk : ∀ W : World, (Instr.makeSlice 22 (.int .i64 0) (.int .i64 0)).run Try.prog W = .ok (.slice (some ⟨W.heap.size, 0, none⟩) 0 0) (W.alloc (.cells (madeCells #[.slice none 0 0] 0) 23)) := by
    intro W
    have := run_make (P := Try.prog) W 22 23 i0 (.slice none 0 0) Try.underlying22 hi hz0 .i64 .i64 0 0 (by omega) (Int.le_refl _) (by rw [hz2]; omega) (by omega)
    rw [hz1] at this
    simp only [Int.toNat_zero, Nat.zero_mul] at this
    exact this
  clear hi hz0 hz1 hz2
  generalize madeCells #[.slice none 0 0] 0 = cs0 at hmk
  have HB := Lib.hid (below_two w (.cells #[.int .i64 (r0 0), .int .i64 (r0 1), .int .i64 (r0 2), .int .i64 (r0 3), .int .i64 (r1 0), .int .i64 (r1 1), .int .i64 (r1 2), .int .i64 (r1 3), .int .i64 c] 64) (.cells cs0 23))
  go_enter Try.func63, Try.ntmps63
  go_wp2
  refine wp_loop_rounds 1 ?_
  rw [rounds_succ]
  go_wp2
  go_ret
  exact ⟨_, _, rfl, HB.out⟩

end Go.Proofs.Ytaglbnblfhfkeaa
