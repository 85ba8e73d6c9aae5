import Derived.Test.YtmbccdjoliegiaaG3
import Derived.Test.YtmbccdjoliegiaaT2
namespace Go.Proofs.Ytmbccdjoliegiaa
open Go.RowKit Go.Shelf

attribute [local go_sem] Oper.semAt_some

/-- Has an order just these mountains? -/
def okM (m : Nat) (p : List Nat) : Bool := mts p.length (zl p) (p.length - 1) == m
/-- The possible piles with just these mountains. -/
def fpiles (n m : Nat) : List (List Nat) := (piles n).filter (okM m)

theorem folded_any (n m : Int) (w : World) :
    Calls Try.prog 64 #[.int .i64 n, .int .i64 m] w fun e w' => e = .returned (.func (.func 77) #[] #[.pointer (some ⟨w.heap.size, 0, none⟩), .pointer (some ⟨w.heap.size + 1, 0, none⟩)]) ∧ w' = (w.alloc (.cells #[.int .i64 n] 3)).alloc (.cells #[.int .i64 m] 3) := by
  go_enter Try.func64, Try.ntmps64
  go_wp2
  go_ret
  exact ⟨rfl, rfl⟩

theorem piles_len {n : Nat} {pre : List (List Nat)} {x : List Nat} (h : pre ++ [x] <+: piles n) : x.length = n := by
  have : x ∈ piles n := h.subset (by simp)
  have := perms_len _ _ _ (List.mem_filter.1 this).1
  simpa using this

set_option maxRecDepth 100000 in
set_option maxHeartbeats 8000000 in
theorem folded_iter (n m : Nat) (h1 : 1 ≤ n) (hn : n ≤ 7) (b1 b2 : Nat) (w0 : World)
    (hc1 : w0.cell? ⟨b1, 0, none⟩ = some (.int .i64 n)) (hc2 : w0.cell? ⟨b2, 0, none⟩ = some (.int .i64 m)) :
    Iter Try.prog 77 #[.pointer (some ⟨b1, 0, none⟩), .pointer (some ⟨b2, 0, none⟩)] Pl (fun k => k = b2) (fpiles n m) w0 := by
  intro T l1 J Jx W hW hPr hT hJ hJx hY h0
  have hb : ¬ T b2 := hPr b2 rfl
  have hbW : b1 < W.heap.size := Nat.lt_of_lt_of_le (World.block_lt_of_cell? _ _ hc1) hW.size
  have hbW2 : b2 < W.heap.size := Nat.lt_of_lt_of_le (World.block_lt_of_cell? _ _ hc2) hW.size
  have e1 : W.cell? ⟨b1, 0, none⟩ = some (.int .i64 n) := (hW.cell (p := ⟨b1, 0, none⟩) (World.block_lt_of_cell? _ _ hc1)).trans hc1
  have e2 : W.cell? ⟨b2, 0, none⟩ = some (.int .i64 m) := (hW.cell (p := ⟨b2, 0, none⟩) (World.block_lt_of_cell? _ _ hc2)).trans hc2
  have d0 : Hid (∀ W', Keep T W W' → W'.cell? ⟨b2, 0, none⟩ = some (.int .i64 m)) := fun W' h => h.cell e2 hb
  have HT := Lib.hid hT
  have HJ := Lib.hid hJ
  have HJx := Lib.hid hJx
  have HY := Lib.hid hY
  have H0 := Lib.hid h0
  have hw1 : ∀ f, Fence.wide.fn f := fun _ => trivial
  have hw2 : Fence.wide.depth = none := rfl
  obtain ⟨w1, hw1e⟩ : ∃ w1, w1 = W.alloc (.cells #[.func (.yield l1) #[] #[]] 30) := ⟨_, rfl⟩
  have hst := strip_any n w1 (by omega) h1
  have hs1 : w1.heap.size = W.heap.size + 1 := by rw [hw1e]; simp
  have hb1 : Below W.heap.size W w1 := by rw [hw1e]; exact (Below.refl _ W).alloc (Nat.le_refl _) _
  have hcy : w1.cell? ⟨W.heap.size, 0, none⟩ = some (.func (.yield l1) #[] #[]) := by rw [hw1e]; exact block_cell (heap_alloc_new W _) 0
  have HSt := Lib.hid hst
  have Hw1e := Lib.hid hw1e
  have Hs1 := Lib.hid hs1
  have Hb1 := Lib.hid hb1
  have Hcy := Lib.hid hcy
  clear hW hPr hT hJ hJx hY h0 hc1 hc2 hb e2 hst hw1e hs1 hb1 hcy
  refine callsIn_wide (n := 0).1 ?_
  refine callsIn_of_wp_marks Try.func77 rfl trivial ?_ rfl
  simp only [Try.ntmps77, List.size_toArray, List.length_cons, List.length_nil, Nat.reduceAdd, Nat.reduceSub, Array.replicate_succ, Array.replicate_zero, List.push_toArray, List.append_toArray, List.nil_append, List.cons_append]
  gi_wp2_with fail
  rw [← Hw1e.out]
  refine (callsIn_wide.2 HSt.out).mono ?_
  rintro e w2 ⟨ca, cc, rfl, hTr, hcc1, hcc2, hlt, hb2⟩
  have HTr := Lib.hid hTr
  have Hlt := Lib.hid hlt
  have Hb2 := Lib.hid hb2
  clear hTr hlt hb2 hcc1 hcc2
  gi_wp2_with fail
  refine (callsIn_wide.2 (piles_any _ _ _)).mono ?_
  rintro e w' ⟨rfl, rfl⟩
  have hit : Iter Try.prog 72 #[.pointer (some ⟨w2.heap.size, 0, none⟩)] Pl (Prot w2.heap.size ca) (piles n) (w2.alloc (.cells #[.int .i64 n, .slice ca (n - 1) cc] 62)) :=
    piles_iter n (by omega) (rowN 0 (n - 1)) (n - 1) (rowN_len _ _) (by omega) ca cc w2.heap.size _
      (block_cell (heap_alloc_new w2 _) 0) (block_cell (heap_alloc_new w2 _) 1) (HTr.out.keep (Nat.le_refl _) ((Below.refl _ _).alloc (Nat.le_refl _) _))
  have HIt := Lib.hid hit
  clear hit
  obtain ⟨w3, hw3⟩ : ∃ w3, w3 = w2.alloc (.cells #[.int .i64 n, .slice ca (n - 1) cc] 62) := ⟨_, rfl⟩
  have hs3 : w3.heap.size = w2.heap.size + 1 := by rw [hw3]; simp
  have hs2 : W.heap.size + 1 ≤ w2.heap.size := by have := Hb2.out.size; have := Hs1.out; omega
  have hb3 : Below W.heap.size W w3 := by
    rw [hw3]
    exact (Hb1.out.trans (Hb2.out.mono (by have := Hs1.out; omega))).alloc (by omega) _
  have hcy3 : w3.cell? ⟨W.heap.size, 0, none⟩ = some (.func (.yield l1) #[] #[]) := by
    rw [hw3]
    exact cell_kept ((Hb2.out.cell (p := ⟨W.heap.size, 0, none⟩) (by have := Hs1.out; show W.heap.size < w1.heap.size; omega)).trans Hcy.out) (World.grownBy_alloc w2 _ none) (fun r e => by cases e)
  have hkw : Keep T W w3 := Keep.of hb3
  have hJw : J [] w3 := ownFrom_call HJ.out H0.out hb3
  have HIt3 : Hid (Iter Try.prog 72 #[.pointer (some ⟨w2.heap.size, 0, none⟩)] Pl (Prot w2.heap.size ca) (piles n) w3) := by rw [Hid, hw3]; exact HIt.out
  gi_wp2_with fail
  rw [← hw3]
  have Hw3 := Lib.hid hw3
  clear hw3 HIt
  refine wp_range (gf := 72) (lb := #[.pointer (some ⟨w2.heap.size, 0, none⟩)]) rfl (enters_of Try.func72 (by kernel_rfl) rfl) HIt3.out (Below.refl _ _) T
    (fun k h => by
      rcases h with rfl | ⟨g, o, s, he, rfl⟩
      · exact ⟨fun ht => by have := HT.out _ ht; omega, by omega⟩
      · have := Hlt.out _ o s he
        have h1 := Hs1.out
        exact ⟨fun ht => by have := HT.out _ ht; omega, by omega⟩)
    (fun k h => by have := HT.out k h; omega)
    (pl_own _)
    (fun pre W' => J (pre.filter (okM m)) W' ∧ W'.cell? ⟨W.heap.size, 0, none⟩ = some (.func (.yield l1) #[] #[]) ∧ Keep T W W')
    (fun pre W' => Jx (pre.filter (okM m)) W')
    (OwnFrom.and (fun s W1 W2 row hs hg hr => (ownFrom_mono HJ.out (show W.heap.size ≤ w3.heap.size by omega)) _ W1 W2 row hs hg hr) (OwnFrom.and ownFrom_cell (ownFrom_keep (by omega))))
    (fun s W1 W2 row hs hg hr => (ownFrom_mono HJx.out (show W.heap.size ≤ w3.heap.size by omega)) _ W1 W2 row hs hg hr)
    ⟨hJw, hcy3, hkw⟩
    (fun v => { tmps := #[.func (.yield l1) #[] #[], .pointer (some ⟨b1, 0, none⟩), .pointer (some ⟨b2, 0, none⟩), .pointer (some ⟨W.heap.size, 0, none⟩), v, .int .i64 n, .agg #[.int .i64 n, .slice ca (n - 1) cc], .func (.func 72) #[] #[.pointer (some ⟨w2.heap.size, 0, none⟩)], v, undef, undef, undef, undef, undef, undef, undef, undef, undef, undef], defers := [] }) ?assign ?body ?done ?stop
  case assign =>
    intro l x W K hK
    gi_wp2
    exact hK
  case body =>
    rintro l2 pre x v W1 hpre hsz ⟨hj, hcy1, hbl⟩ hE hAv
    have HAv := Lib.hid hAv
    clear hAv
    obtain ⟨a, cap, rfl, hcap1, hcap2, hI⟩ := hE
    have g2 := d0.out W1 hbl
    have hlen : Hid (pre ++ [x] <+: piles n) := hpre
    have hxn := Lib.hid (piles_len hpre)
    have hx1 : 1 ≤ x.length := by rw [hxn.out]; exact h1
    have hx20 : x.length ≤ 20 := by rw [hxn.out]; omega
    have hle2 : W.heap.size ≤ W1.heap.size := by omega
    have Hcap := Lib.hid (show x.length ≤ cap ∧ cap ≤ maxLen from ⟨hcap1, hcap2⟩)
    have HI := Lib.hid hI
    have HJ1 := Lib.hid hj
    have HB1 := Lib.hid hbl
    have HM := Lib.hid (mountains_any a cap x.length (zl x) W1.drew hx1 hx20 hI)
    have hmx : Try.prog.follows .mixedOrders = true := by kernel_rfl
    obtain ⟨M, hM⟩ : ∃ M, M = mts x.length (zl x) (x.length - 1) := ⟨_, rfl⟩
    rw [← hM] at HM
    have HO : Hid (okM m x = (M == m)) := by rw [Hid, okM, hM]
    clear e1 hcy3 hs2 hs3 hb3 hJw hkw hpre hj hbl hI hcap1 hcap2 hM
    by_cases hMm : M = m
    · have G : ((M : Int) == (m : Int)) = true := by simp [hMm]
      have hf : Hid ((pre ++ [x]).filter (okM m) = pre.filter (okM m) ++ [x]) := by have := HO.out; rw [hMm] at this; simp [Hid, this]
      have hy0 := HY.out (pre.filter (okM m)) x (.slice a x.length cap) W1.drew (by rw [← hf.out]; exact hlen.out.filter _) hle2 (ownFrom_drewN HJ.out HJ1.out 1) ⟨a, cap, rfl, Hcap.out.1, Hcap.out.2, HI.out⟩ HAv.out
      obtain ⟨fn, tmps, assign, body, hy, hR⟩ := hy0
      clear hMm
      gi_wp2
      gi_region_with_o (first
        | (gi_at_call 59; refine (CallsIn.inRound l2 (callsIn_wide.2 HM.out)).mono ?_; rintro e w' ⟨rfl, rfl⟩)
        | (refine hR.mono ?_; rintro e W3 ⟨hb4, hor⟩; obtain ⟨r, rfl, hr⟩ : ∃ r : Bool, e = .returned (.bool r) ∧ ((r = true ∧ J (pre.filter (okM m) ++ [x]) W3) ∨ (r = false ∧ Jx (pre.filter (okM m) ++ [x]) W3)) := hor.elim (fun h => ⟨true, h.1, Or.inl ⟨rfl, h.2⟩⟩) (fun h => ⟨false, h.1, Or.inr ⟨rfl, h.2⟩⟩); have HR3 := Lib.hid hr; have HB4 := Lib.hid hb4; clear hor hr hb4))
      all_goals
        have hb5 : Keep T W1 W3 := (Keep.refl T W1).drew.trans HB4.out
        have hgood : Hid (r = true → (Keep T W1 W3 ∧ (J ((pre ++ [x]).filter (okM m)) W3 ∧ W3.cell? ⟨W.heap.size, 0, none⟩ = some (.func (.yield l1) #[] #[]) ∧ Keep T W W3))) := fun hr => by
          rcases HR3.out with ⟨_, h⟩ | ⟨h, _⟩
          · exact ⟨hb5, by rw [hf.out]; exact h, hb5.cell hcy1 (fun ht => by have := HT.out _ ht; simp at this), HB1.out.trans hb5⟩
          · rw [h] at hr; cases hr
        have hstop : Hid (r = false → (Keep T W1 W3 ∧ Jx ((pre ++ [x]).filter (okM m)) W3)) := fun hr => by
          rcases HR3.out with ⟨h, _⟩ | ⟨_, h⟩
          · rw [h] at hr; cases hr
          · exact ⟨hb5, by rw [hf.out]; exact h⟩
        clear hb5
        cases r
        · gi_wp2
          exact hstop.out (by simp)
        · gi_wp2
          exact hgood.out (by simp)
    · have G : ((M : Int) == (m : Int)) = false := by simp; omega
      have hf : Hid ((pre ++ [x]).filter (okM m) = pre.filter (okM m)) := by
        have e : okM m x = false := by rw [HO.out]; simpa using hMm
        simp [Hid, e]
      clear hMm
      gi_wp2
      gi_region_with_o (first
        | (gi_at_call 59; refine (CallsIn.inRound l2 (callsIn_wide.2 HM.out)).mono ?_; rintro e w' ⟨rfl, rfl⟩))
      all_goals
        have hgood : Hid (Keep T W1 W1.drew ∧ (J ((pre ++ [x]).filter (okM m)) W1.drew ∧ W1.drew.cell? ⟨W.heap.size, 0, none⟩ = some (.func (.yield l1) #[] #[]) ∧ Keep T W W1.drew)) :=
          ⟨(Keep.refl T W1).drew, by rw [hf.out]; exact ownFrom_drewN HJ.out HJ1.out 1, hcy1, HB1.out.drew⟩
        gi_wp2
        exact hgood.out
  case done =>
    rintro D W3 hD hb4 ⟨hj, _, hbl⟩ hK
    have hfin : Hid (Keep T W (W3.putObj D (.deferred none)) ∧ J ((piles n).filter (okM m)) (W3.putObj D (.deferred none))) :=
      ⟨Keep.putNew (hkw.trans hb4) (by omega) _, HJ.out.putObj _ hj (by omega) hK rfl⟩
    clear e1 hj hbl hb4 hcy3
    gi_wp2
    refine ⟨by simp, .inl ⟨_, _, rfl, run_takeDeferred hK, ?_⟩⟩
    exact ⟨_, results_none rfl _ _ _, ⟨_, rfl⟩, hfin.out.1, Or.inl hfin.out.2⟩
  case stop =>
    rintro D pre W3 hD hb4 hpre hj hK
    have hfin : Hid (Keep T W (W3.putObj D (.deferred none)) ∧ (pre.filter (okM m) <+: (piles n).filter (okM m)) ∧ Jx (pre.filter (okM m)) (W3.putObj D (.deferred none))) :=
      ⟨Keep.putNew (hkw.trans hb4) (by omega) _, hpre.filter _, HJx.out.putObj _ hj (by omega) hK rfl⟩
    clear e1 hj hb4 hpre hcy3
    gi_wp2
    refine ⟨by simp, .inl ⟨_, _, rfl, run_takeDeferred hK, ?_⟩⟩
    exact ⟨_, results_none rfl _ _ _, ⟨_, rfl⟩, hfin.out.1, Or.inr ⟨_, hfin.out.2.1, hfin.out.2.2⟩⟩

end Go.Proofs.Ytmbccdjoliegiaa
