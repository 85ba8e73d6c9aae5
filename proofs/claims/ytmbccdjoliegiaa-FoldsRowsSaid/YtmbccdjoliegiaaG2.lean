import Derived.Test.YtmbccdjoliegiaaG1
namespace Go.Proofs.Ytmbccdjoliegiaa
open Go.RowKit Go.Shelf

attribute [local go_sem] Oper.semAt_some

theorem orders_any (n : Int) (w : World) :
    Calls Try.prog 73 #[.int .i64 n] w fun e w' => e = .returned (.func (.func 82) #[] #[.pointer (some ⟨w.heap.size, 0, none⟩)]) ∧ w' = w.alloc (.cells #[.int .i64 n] 3) := by
  go_enter Try.func73, Try.ntmps73
  go_wp2
  go_ret
  exact ⟨rfl, rfl⟩

set_option maxRecDepth 100000 in
set_option maxHeartbeats 2000000 in
theorem orders_iter (n : Nat) (hn : n ≤ 8) (b : Nat) (Pr : Nat → Prop) (w0 : World) (hc : w0.cell? ⟨b, 0, none⟩ = some (.int .i64 n)) :
    Iter Try.prog 82 #[.pointer (some ⟨b, 0, none⟩)] Pl Pr (perms n n []) w0 := by
  intro T l J Jx W hW _ hT hJ hJx hY h0
  have hg := goOn_in n hn T l W.heap.size J Jx (perms n n []) hT hJ hY n [] [] none 0 W (by simp) (by simp) (Nat.le_refl _) ⟨Ints.none, Nat.le_refl _, by unfold maxLen; omega, fun _ _ _ h => by cases h⟩ h0
  have hc' : W.cell? ⟨b, 0, none⟩ = some (.int .i64 n) := (hW.cell (p := ⟨b, 0, none⟩) (World.block_lt_of_cell? _ _ hc)).trans hc
  have HG := Lib.hid hg
  have hw1 : ∀ f, Fence.wide.fn f := fun _ => trivial
  have hw2 : Fence.wide.depth = none := rfl
  clear hg hY hc hW h0 hJ hJx hT
  refine callsIn_wide (n := 0).1 ?_
  refine callsIn_of_wp Try.func82 rfl trivial ?_ rfl
  simp only [Try.ntmps82, List.size_toArray, List.length_cons, List.length_nil, Nat.reduceAdd, Nat.reduceSub, Array.replicate_succ, Array.replicate_zero, List.push_toArray, List.append_toArray, List.nil_append, List.cons_append]
  gi_wp2
  refine HG.out.mono ?_
  rintro e W2 ⟨hb2, (⟨rfl, hj⟩ | ⟨rfl, q, hq, hj⟩)⟩
  · have HF : Hid (Keep T W W2 ∧ J (perms n n []) W2) := ⟨hb2, by simpa using hj⟩
    clear hb2 hj
    gi_wp2
    go_end0
    exact ⟨⟨_, rfl⟩, HF.out.1, Or.inl HF.out.2⟩
  · have HF : Hid (Keep T W W2 ∧ q <+: perms n n [] ∧ Jx q W2) := ⟨hb2, hq, hj⟩
    clear hb2 hj hq
    gi_wp2
    go_end0
    exact ⟨⟨_, rfl⟩, HF.out.1, Or.inr ⟨q, HF.out.2.1, HF.out.2.2⟩⟩

theorem piles_any (n : Int) (v : Value) (w : World) :
    Calls Try.prog 56 #[.agg #[.int .i64 n, v]] w fun e w' => e = .returned (.func (.func 72) #[] #[.pointer (some ⟨w.heap.size, 0, none⟩)]) ∧ w' = w.alloc (.cells #[.int .i64 n, v] 62) := by
  go_enter Try.func56, Try.ntmps56
  go_wp2
  go_ret
  exact ⟨rfl, rfl⟩

theorem perms_len {n : Nat} : ∀ (k : Nat) (pre p : List Nat), p ∈ perms n k pre → p.length = pre.length + k
  | 0, pre, p, h => by simp [perms] at h; simp [h]
  | k + 1, pre, p, h => by
    simp only [perms, List.mem_flatMap, List.mem_range] at h
    obtain ⟨x, hx, h⟩ := h
    by_cases hin : x ∈ pre
    · simp [hin] at h
    · simp only [hin, if_false] at h
      have := perms_len k _ p h
      simp at this; omega
theorem perms_len' {n : Nat} {pre : List (List Nat)} {x : List Nat} (h : pre ++ [x] <+: perms n n []) : x.length = n := by
  have : x ∈ perms n n [] := h.subset (by simp)
  have := perms_len _ _ _ this
  simpa using this

/-- Is an order possible for a wrapper with these creases? -/
def okP (l : List Tri) (p : List Nat) : Bool := posB p.length (zl p) l

theorem Pl.keep {p : List Nat} {v : Value} {W W' : World} (h : Pl p v W) (hb : Below W.heap.size W W') : Pl p v W' := by
  obtain ⟨a, cap, rfl, h1, h2, h3⟩ := h
  exact ⟨a, cap, rfl, h1, h2, h3.keep (Nat.le_refl _) hb⟩
theorem Ints.own {W W' : World} {a : Option Addr} {n : Nat} {z : Nat → Int} {row : Option Nat} (h : Ints W a n z) (hg : W.grownBy W' row) (hr : ∀ r, row = some r → ∃ o : Obj, W.heap[r]? = some o ∧ o.isCells = false) : Ints W' a n z := by
  intro j hj
  obtain ⟨b, o, ha, hc⟩ := h j hj
  exact ⟨b, o, ha, cell_kept hc hg hr⟩
theorem pl_own (B : Nat) (p : List Nat) (v : Value) : OwnFrom B (fun (_ : Unit) W => Pl p v W) := by
  intro s W W' row hs hg hr
  obtain ⟨a, cap, rfl, h1, h2, h3⟩ := hs
  exact ⟨a, cap, rfl, h1, h2, h3.own hg (fun r e => (hr r e).2)⟩
theorem ownFrom_keep {β : Type} {T : Nat → Prop} {B : Nat} {w0 : World} (h : w0.heap.size ≤ B) : OwnFrom B (fun (_ : β) W => Keep T w0 W) := fun s X Y row hs hg hr =>
  ⟨hg.os.trans hs.os, hg.tape.trans hs.tape, hg.output.trans hs.output, Nat.le_trans hs.size hg.size, fun k hk ho => (hg.block k (Nat.lt_of_lt_of_le hk hs.size) (fun e => by have := (hr k e.symm).1; omega)).trans (hs.block k hk ho)⟩
theorem ownFrom_cell {β : Type} {B : Nat} {p : Addr} {v : Value} : OwnFrom B (fun (_ : β) W => W.cell? p = some v) := fun s X Y row hs hg hr => cell_kept hs hg (fun r e => (hr r e).2)

/-- Which blocks the iterator of piles reads again. -/
def Prot (b : Nat) (ca : Option Addr) (k : Nat) : Prop := k = b ∨ ∃ g o s, ca = some ⟨g, o, s⟩ ∧ k = g

set_option maxRecDepth 100000 in
set_option maxHeartbeats 4000000 in
theorem piles_iter (n : Nat) (hn : n ≤ 8) (l : List Tri) (m : Nat) (hl : l.length = m) (hm : m ≤ 1000) (ca : Option Addr) (cc : Nat) (b : Nat) (w0 : World)
    (hc0 : w0.cell? ⟨b, 0, none⟩ = some (.int .i64 n)) (hc1 : w0.cell? ⟨b, 1, none⟩ = some (.slice ca m cc)) (ht : TriAt w0 ca l) :
    Iter Try.prog 72 #[.pointer (some ⟨b, 0, none⟩)] Pl (Prot b ca) ((perms n n []).filter (okP l)) w0 := by
  intro T l1 J Jx W hW hPr hT hJ hJx hY h0
  have hb : ¬ T b := hPr b (Or.inl rfl)
  have hbW : b < W.heap.size := Nat.lt_of_lt_of_le (World.block_lt_of_cell? _ _ hc0) hW.size
  have e0 : W.cell? ⟨b, 0, none⟩ = some (.int .i64 n) := (hW.cell (p := ⟨b, 0, none⟩) (World.block_lt_of_cell? _ _ hc0)).trans hc0
  have e1 : W.cell? ⟨b, 1, none⟩ = some (.slice ca m cc) := (hW.cell (p := ⟨b, 1, none⟩) (World.block_lt_of_cell? _ _ hc1)).trans hc1
  have htW : TriAt W ca l := ht.keep (Nat.le_refl _) hW
  have d0 : Hid (∀ W', Keep T W W' → W'.cell? ⟨b, 0, none⟩ = some (.int .i64 n) ∧ W'.cell? ⟨b, 1, none⟩ = some (.slice ca m cc) ∧ TriAt W' ca l) := fun W' h =>
    ⟨h.cell e0 hb, h.cell e1 hb, fun k v hk => by
      obtain ⟨g, ha, h0, h1, h2⟩ := htW k v hk
      have hg : ¬ T g := hPr g (Or.inr ⟨g, 0, _, ha, rfl⟩)
      exact ⟨g, ha, h.cell h0 hg, h.cell h1 hg, h.cell h2 hg⟩⟩
  have HT := Lib.hid hT
  have HJ := Lib.hid hJ
  have HJx := Lib.hid hJx
  have HY := Lib.hid hY
  have H0 := Lib.hid h0
  have HL := Lib.hid hl
  have hw1 : ∀ f, Fence.wide.fn f := fun _ => trivial
  have hw2 : Fence.wide.depth = none := rfl
  clear hW hPr hT hJ hJx hY h0 hl hc0 hc1 ht htW hb
  refine callsIn_wide (n := 0).1 ?_
  refine callsIn_of_wp_marks Try.func72 rfl trivial ?_ rfl
  simp only [Try.ntmps72, List.size_toArray, List.length_cons, List.length_nil, Nat.reduceAdd, Nat.reduceSub, Array.replicate_succ, Array.replicate_zero, List.push_toArray, List.append_toArray, List.nil_append, List.cons_append]
  gi_wp2_with (gi_at_call 73; refine (callsIn_wide.2 (orders_any _ _)).mono ?_; rintro e w' ⟨rfl, rfl⟩)
  obtain ⟨w2, hw⟩ : ∃ w2, w2 = (W.alloc (.cells #[.func (.yield l1) #[] #[]] 30)).alloc (.cells #[.int .i64 n] 3) := ⟨_, rfl⟩
  have hs2 : w2.heap.size = W.heap.size + 2 := by rw [hw]; simp
  have hb2 : Below W.heap.size W w2 := by rw [hw]; exact ((Below.refl _ W).alloc (Nat.le_refl _) _).alloc (by simp) _
  have hcy : w2.cell? ⟨W.heap.size, 0, none⟩ = some (.func (.yield l1) #[] #[]) := by rw [hw]; exact block_cell (heap_two1 _ _ _) 0
  have hcn : w2.cell? ⟨W.heap.size + 1, 0, none⟩ = some (.int .i64 n) := by rw [hw]; exact block_cell (heap_two2 _ _ _) 0
  rw [← hw]
  have hJw : J [] w2 := ownFrom_call HJ.out H0.out hb2
  have hkw : Keep T W w2 := Keep.of hb2
  refine wp_range (gf := 82) (lb := #[.pointer (some ⟨W.heap.size + 1, 0, none⟩)]) rfl (enters_of Try.func82 (by kernel_rfl) rfl) (orders_iter n hn (W.heap.size + 1) (fun _ => False) w2 hcn) (Below.refl _ _) T (fun _ h => h.elim) (fun k h => by have := HT.out k h; omega)
    (pl_own _)
    (fun pre W' => J (pre.filter (okP l)) W' ∧ W'.cell? ⟨W.heap.size, 0, none⟩ = some (.func (.yield l1) #[] #[]) ∧ Keep T W W')
    (fun pre W' => Jx (pre.filter (okP l)) W')
    (OwnFrom.and (fun s W1 W2 row hs hg hr => (ownFrom_mono HJ.out (show W.heap.size ≤ w2.heap.size by omega)) _ W1 W2 row hs hg hr) (OwnFrom.and ownFrom_cell (ownFrom_keep (by omega))))
    (fun s W1 W2 row hs hg hr => (ownFrom_mono HJx.out (show W.heap.size ≤ w2.heap.size by omega)) _ W1 W2 row hs hg hr)
    ⟨hJw, hcy, hkw⟩
    (fun v => { tmps := #[.func (.yield l1) #[] #[], .pointer (some ⟨b, 0, none⟩), .pointer (some ⟨W.heap.size, 0, none⟩), v, .pointer (some ⟨b, 0, none⟩), .int .i64 n, .func (.func 82) #[] #[.pointer (some ⟨W.heap.size + 1, 0, none⟩)], v, undef, undef, undef, undef, undef, undef, undef, undef, undef], defers := [] }) ?assign ?body ?done ?stop
  case assign =>
    intro l x W K hK
    gi_wp2
    exact hK
  case body =>
    rintro l2 pre x v W1 hpre hsz ⟨hj, hcy1, hbl⟩ hE hAv
    have HAv := Lib.hid hAv
    clear hAv
    obtain ⟨a, cap, rfl, hcap1, hcap2, hI⟩ := hE
    obtain ⟨g0, g1, hT⟩ := d0.out W1 hbl
    have hlen : Hid (pre ++ [x] <+: perms n n []) := hpre
    have hx8 : x.length ≤ 1000000 := by have := perms_len' hpre; omega
    have hle2 : W.heap.size ≤ w2.heap.size := by omega
    have Hcap := Lib.hid (show x.length ≤ cap ∧ cap ≤ maxLen from ⟨hcap1, hcap2⟩)
    have HI := Lib.hid hI
    have HTr := Lib.hid hT
    have HJ1 := Lib.hid hj
    have HB1 := Lib.hid hbl
    clear e0 e1 hcy hcn hs2 hb2 hJw hkw hpre hj hbl hT hI hcap1 hcap2
    cases hok : okP l x
    · have HO := Lib.hid hok
      have hf : Hid ((pre ++ [x]).filter (okP l) = pre.filter (okP l)) := by simp [Hid, hok]
      clear hok
      gi_wp2_with (gi_at_call 50; refine (CallsIn.inRound l2 (callsIn_wide.2 (possible_r false _ _ _ _ l _ _ _ _ _ HO.out (by omega) hm HL.out HTr.out HI.out))).mono ?_; rintro e W2 ⟨rfl, hb3⟩)
      have hgood : Hid (Keep T W1 W2 ∧ (J ((pre ++ [x]).filter (okP l)) W2 ∧ W2.cell? ⟨W.heap.size, 0, none⟩ = some (.func (.yield l1) #[] #[]) ∧ Keep T W W2)) :=
        ⟨Keep.of hb3, by rw [hf.out]; exact ownFrom_call HJ.out HJ1.out hb3, (hb3.cell (p := ⟨W.heap.size, 0, none⟩) (World.block_lt_of_cell? _ _ hcy1)).trans hcy1, HB1.out.trans (Keep.of hb3)⟩
      exact hgood.out
    · have HO := Lib.hid hok
      have hf : Hid ((pre ++ [x]).filter (okP l) = pre.filter (okP l) ++ [x]) := by simp [Hid, hok]
      clear hok
      gi_wp2_with fail
      refine (CallsIn.inRound l2 (callsIn_wide.2 (possible_r true _ _ _ _ l _ _ _ _ _ HO.out (by omega) hm HL.out HTr.out HI.out))).mono ?_
      rintro e W2 ⟨rfl, hb3⟩
      have hcy2 : W2.cell? ⟨W.heap.size, 0, none⟩ = some (.func (.yield l1) #[] #[]) := (hb3.cell (p := ⟨W.heap.size, 0, none⟩) (World.block_lt_of_cell? _ _ hcy1)).trans hcy1
      have hy0 := HY.out (pre.filter (okP l)) x (.slice a x.length cap) W2 (by rw [← hf.out]; exact hlen.out.filter _) (by have := hb3.size; omega) (ownFrom_call HJ.out HJ1.out hb3) ⟨a, cap, rfl, Hcap.out.1, Hcap.out.2, HI.out.keep (Nat.le_refl _) hb3⟩ HAv.out
      obtain ⟨fn, tmps, assign, body, hy, hR⟩ := hy0
      have HB3 := Lib.hid hb3
      clear hb3 hcy1 g0 g1
      gi_wp2
      refine hR.mono ?_
      rintro e W3 ⟨hb4, (⟨rfl, hj3⟩ | ⟨rfl, hj3⟩)⟩
      · have hgood : Hid (Keep T W1 W3 ∧ (J ((pre ++ [x]).filter (okP l)) W3 ∧ W3.cell? ⟨W.heap.size, 0, none⟩ = some (.func (.yield l1) #[] #[]) ∧ Keep T W W3)) := by
          have hb5 : Keep T W1 W3 := (Keep.of HB3.out).trans hb4
          exact ⟨hb5, by rw [hf.out]; exact hj3, hb4.cell hcy2 (fun ht => by have := HT.out _ ht; simp at this), HB1.out.trans hb5⟩
        clear hb4 hj3
        gi_wp2
        exact hgood.out
      · have hgood : Hid (Keep T W1 W3 ∧ Jx ((pre ++ [x]).filter (okP l)) W3) := by
          have hb5 : Keep T W1 W3 := (Keep.of HB3.out).trans hb4
          exact ⟨hb5, by rw [hf.out]; exact hj3⟩
        clear hb4 hj3
        gi_wp2
        exact hgood.out
  case done =>
    rintro D W3 hD hb3 ⟨hj, _, hbl⟩ hK
    have hfin : Hid (Keep T W (W3.putObj D (.deferred none)) ∧ J ((perms n n []).filter (okP l)) (W3.putObj D (.deferred none))) :=
      ⟨Keep.putNew (hkw.trans hb3) (by omega) _, HJ.out.putObj _ hj (by omega) hK rfl⟩
    clear e0 e1 hcy hcn hj hbl hb3
    gi_wp2
    refine ⟨by simp, .inl ⟨_, _, rfl, run_takeDeferred hK, ?_⟩⟩
    exact ⟨_, results_none rfl _ _ _, ⟨_, rfl⟩, hfin.out.1, Or.inl hfin.out.2⟩
  case stop =>
    rintro D pre W3 hD hb3 hpre hj hK
    have hfin : Hid (Keep T W (W3.putObj D (.deferred none)) ∧ (pre.filter (okP l) <+: (perms n n []).filter (okP l)) ∧ Jx (pre.filter (okP l)) (W3.putObj D (.deferred none))) :=
      ⟨Keep.putNew (hkw.trans hb3) (by omega) _, hpre.filter _, HJx.out.putObj _ hj (by omega) hK rfl⟩
    clear e0 e1 hcy hcn hj hb3 hpre
    gi_wp2
    refine ⟨by simp, .inl ⟨_, _, rfl, run_takeDeferred hK, ?_⟩⟩
    exact ⟨_, results_none rfl _ _ _, ⟨_, rfl⟩, hfin.out.1, Or.inr ⟨_, hfin.out.2.1, hfin.out.2.2⟩⟩

end Go.Proofs.Ytmbccdjoliegiaa
