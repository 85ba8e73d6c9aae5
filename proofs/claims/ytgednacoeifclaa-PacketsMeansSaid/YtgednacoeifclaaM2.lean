import Derived.Test.YtgednacoeifclaaM1
import Derived.Sort.CutIn
namespace Go.Proofs.Ytgednacoeifclaa
open Go.RowKit Go.Shelf

attribute [local go_sem] Oper.semAt_some

theorem pow54 {k : Nat} (h : k ≤ 7) : 54 ^ k ≤ 1338925209984 := by
  calc 54 ^ k ≤ 54 ^ 7 := Nat.pow_le_pow_right (by decide) h
    _ = 1338925209984 := by decide

/-- The boxes of stay. -/
structure StAt (a : Option Addr) (n cap : Nat) (z : Nat → Int) (part : Nat) (w : World) (b : Nat) (w2 : World) (pre : List Nat) (W : World) : Prop where
  b1 : Boxed W b 3 (.int .i64 (pre.length : Int))
  b2 : Boxed W (b + 1) 3 (.int .i64 (stN z pre))
  b3 : Boxed W (b + 1 + 1) 3 (.int .i64 (ofS z part ^ (pre.length + 1)))
  c0 : W.cell? ⟨w.heap.size, 0, none⟩ = some (.slice a n cap)
  c1 : W.cell? ⟨w.heap.size + 1, 0, none⟩ = some (.int .i64 part)
  kp : Keep (fun k => k = b ∨ k = b + 1 ∨ k = b + 1 + 1) w2 W
theorem stAt_own (B : Nat) (a : Option Addr) (n cap : Nat) (z : Nat → Int) (part : Nat) (w : World) (b : Nat) (w2 : World) (hB : w2.heap.size ≤ B) : OwnFrom B (fun pre W => StAt a n cap z part w b w2 pre W) := by
  intro pre W W' row hs hg hr
  exact ⟨(ownFrom_box (fun pre : List Nat => .int .i64 (pre.length : Int))) pre W W' row hs.b1 hg hr, (ownFrom_box (fun pre : List Nat => .int .i64 (stN z pre))) pre W W' row hs.b2 hg hr,
    (ownFrom_box (fun pre : List Nat => .int .i64 (ofS z part ^ (pre.length + 1)))) pre W W' row hs.b3 hg hr, cell_kept hs.c0 hg (fun r e => (hr r e).2), cell_kept hs.c1 hg (fun r e => (hr r e).2), ownFrom_keep hB pre W W' row hs.kp hg hr⟩

theorem box_other {W : World} {B : Nat} {t : TypeId} {v : Value} (h : Boxed W B t v) {p : Addr} (hp : B ≠ p.block) (u : Value) : Boxed (W.setCell p u) B t v := (Below.heap_setCell _ _ _ _ hp).trans h
theorem box_below {W W' : World} {B : Nat} {t : TypeId} {v : Value} (h : Boxed W B t v) (hb : Below W.heap.size W W') : Boxed W' B t v := (hb.block _ h.lt).trans h

set_option maxRecDepth 100000 in
set_option maxHeartbeats 8000000 in
theorem stay_any (a : Option Addr) (n cap : Nat) (z : Nat → Int) (part once : Nat) (w : World) (hs : part < 2 ^ n) (h0 : part ≠ 0) (ho : once < 2 ^ n) (hn : n ≤ 6) (hz : Ints w a n z) (h9 : ∀ j, j < n → 1 ≤ z j ∧ z j ≤ 9) :
    Calls Try.prog 88 #[.slice a n cap, .int .i64 part, .int .i64 once] w fun e w' => e = .returned (.agg #[.int .i64 (frA (stN z (kindsL once)) ((ofS z part).toNat ^ (pop once + 1))), .int .i64 (frB (stN z (kindsL once)) ((ofS z part).toNat ^ (pop once + 1)) : Nat)]) ∧ Below w.heap.size w w' := by
  have H9 := Lib.hid h9
  have HO := Lib.hid ho
  have hof := of_pos hs hn h0 h9
  have ho64 := lt64 ho hn
  obtain ⟨w0, hw0⟩ : ∃ w0, w0 = ((w.alloc (.cells #[.slice a n cap] 53)).alloc (.cells #[.int .i64 part] 3)).alloc (.cells #[.int .i64 0, .int .i64 0] 24) := ⟨_, rfl⟩
  have hb0 : Below w.heap.size w w0 := by rw [hw0]; exact (below_two _ _ _).alloc (by simp; omega) _
  have hs0 : w0.heap.size = w.heap.size + 3 := by rw [hw0]; simp
  have e0 : w0.heap[w.heap.size]? = some (.cells #[.slice a n cap] 53) := by rw [hw0]; exact heap_three0 w _ _ _
  have e1 : w0.heap[w.heap.size + 1]? = some (.cells #[.int .i64 part] 3) := by rw [hw0]; exact heap_three1 w _ _ _
  have e2 : w0.heap[w.heap.size + 1 + 1]? = some (.cells #[.int .i64 0, .int .i64 0] 24) := by rw [hw0]; exact heap_three w _ _ _
  have HOf : Hid (∀ W, Below w.heap.size w W → Calls Try.prog 74 #[.slice a n cap, .int .i64 part] W fun e w' => e = .returned (.int .i64 (ofS z part)) ∧ Below W.heap.size W w') := fun W hW => of_any a n cap z part W hs hn (hz.keep (Nat.le_refl _) hW) h9
  have HW0 := Lib.hid hw0
  have HB0 := Lib.hid hb0
  have HZ := Lib.hid hz
  have HE2 := Lib.hid e2
  have HC0 := Lib.hid (And.intro e0 e1)
  clear h9 ho hz hb0 e0 e1 e2 hw0
  have hw1 : ∀ f, Fence.wide.fn f := fun _ => trivial
  have hwd : Fence.wide.depth = none := rfl
  have hmx : Try.prog.follows .mixedOrders = true := by kernel_rfl
  refine callsIn_wide (n := 0).1 ?_
  refine callsIn_of_wp_marks Try.func88 rfl trivial ?_ rfl
  simp only [Try.ntmps88, List.size_toArray, List.length_cons, List.length_nil, Nat.reduceAdd, Nat.reduceSub, Array.replicate_succ, Array.replicate_zero, List.push_toArray, List.append_toArray, List.nil_append, List.cons_append]
  gi_wp2_with fail
  rw [← HW0.out]
  refine (callsIn_wide.2 (HOf.out w0 HB0.out)).mono ?_
  rintro e w1 ⟨rfl, hb1⟩
  have hs1 : w.heap.size + 3 ≤ w1.heap.size := by have := hb1.size; omega
  obtain ⟨w2, hw2⟩ : ∃ w2, w2 = (((w1.alloc (.cells #[.int .i64 0] 3)).alloc (.cells #[.int .i64 1] 3)).alloc (.cells #[.int .i64 (ofS z part)] 3)).alloc (.cells #[.int .i64 once] 3) := ⟨_, rfl⟩
  have hs2 : w2.heap.size = w1.heap.size + 4 := by rw [hw2]; simp
  have hb12 : Below w1.heap.size w1 w2 := by rw [hw2]; exact ((below_two _ _ _).alloc (by simp; omega) _).alloc (by simp; omega) _
  have hbo : w2.heap[w1.heap.size + 1 + 1 + 1]? = some (.cells #[.int .i64 once] 3) := by
    rw [hw2]
    have h := heap_alloc_new (((w1.alloc (.cells #[.int .i64 0] 3)).alloc (.cells #[.int .i64 1] 3)).alloc (.cells #[.int .i64 (ofS z part)] 3)) (.cells #[.int .i64 once] 3)
    have e : (((w1.alloc (.cells #[.int .i64 0] 3)).alloc (.cells #[.int .i64 1] 3)).alloc (.cells #[.int .i64 (ofS z part)] 3)).heap.size = w1.heap.size + 1 + 1 + 1 := by simp
    rw [e] at h
    exact h
  have hst : StAt a n cap z part w w1.heap.size w2 [] w2 := by
    refine ⟨?_, ?_, ?_, ?_, ?_, Keep.refl _ _⟩
    · rw [hw2]; exact (Below.heap_alloc _ _ _ (by simp; omega)).trans (heap_three0 w1 _ _ _)
    · rw [hw2]; exact (Below.heap_alloc _ _ _ (by simp)).trans (heap_three1 w1 _ _ _)
    · rw [hw2]
      have h := (Below.heap_alloc (((w1.alloc (.cells #[.int .i64 0] 3)).alloc (.cells #[.int .i64 1] 3)).alloc (.cells #[.int .i64 (ofS z part)] 3)) (.cells #[.int .i64 once] 3) (w1.heap.size + 1 + 1) (by simp)).trans (heap_three w1 _ _ _)
      have e : ofS z part ^ (([] : List Nat).length + 1) = ofS z part := by show ofS z part ^ (0 + 1) = _; rw [Int.pow_succ, Int.pow_zero, Int.one_mul]
      rw [e]
      exact h
    · exact block_cell ((hb12.block _ (by omega)).trans ((hb1.block _ (by omega)).trans HC0.out.1)) 0
    · exact block_cell ((hb12.block _ (by omega)).trans ((hb1.block _ (by omega)).trans HC0.out.2)) 0
  have hres : w2.heap[w.heap.size + 1 + 1]? = some (.cells #[.int .i64 0, .int .i64 0] 24) := (hb12.block _ (by omega)).trans ((hb1.block _ (by omega)).trans HE2.out)
  have HB2 : Hid (Below w.heap.size w w2) := (HB0.out.trans (hb1.mono (by omega))).trans (hb12.mono (by omega))
  have hit := kinds_iter once ho64 (w1.heap.size + 1 + 1 + 1) w2 (block_cell hbo 0)
  have Hit := Lib.hid hit
  have HSt := Lib.hid hst
  have HRes := Lib.hid hres
  have HW2 := Lib.hid hw2
  clear hw2 hb12 hbo hst hres hit hb1 HW0 HB0 HE2 HC0
  gi_wp2_with (gi_at_call 79; refine (callsIn_wide.2 (kinds_any _ _)).mono ?_; rintro e w' ⟨rfl, rfl⟩)
  rw [← HW2.out]
  refine wp_range (gf := 94) (lb := #[.pointer (some ⟨w1.heap.size + 1 + 1 + 1, 0, none⟩)]) (α := Nat) (w0 := w2) rfl (enters_of Try.func94 (by kernel_rfl) rfl) Hit.out (Below.refl _ _) (fun k => k = w1.heap.size ∨ k = w1.heap.size + 1 ∨ k = w1.heap.size + 1 + 1) (fun k h => ⟨fun e => by omega, by omega⟩) (fun k h => by omega) (ei_own _)
    (fun pre W' => StAt a n cap z part w w1.heap.size w2 pre W')
    (fun _ _ => False)
    (stAt_own _ _ _ _ _ _ _ _ _ (Nat.le_refl _)) (fun _ _ _ _ h _ _ => h)
    HSt.out
    (fun v => { tmps := #[.slice a n cap, .int .i64 part, .int .i64 once, .pointer (some ⟨w.heap.size, 0, none⟩), .pointer (some ⟨w.heap.size + 1, 0, none⟩), undef, .pointer (some ⟨w.heap.size + 1 + 1, 0, none⟩), .pointer (some ⟨w1.heap.size, 0, none⟩), .pointer (some ⟨w1.heap.size + 1, 0, none⟩), .pointer (some ⟨w1.heap.size + 1 + 1, 0, none⟩), v, .slice a n cap, .int .i64 part, .int .i64 (ofS z part), .int .i64 once, .func (.func 94) #[] #[.pointer (some ⟨w1.heap.size + 1 + 1 + 1, 0, none⟩)], v, undef, undef, undef, undef, undef, undef, undef, undef, undef, undef, undef, undef, undef, undef, undef, undef, undef, undef], defers := [] }) ?assign ?body ?done ?stop
  case assign =>
    intro l x W K hK
    gi_wp2
    exact hK
  case body =>
    rintro l2 pre x v W1 hpre hsz hst hE _
    obtain rfl := hE
    have hc1 := hst.b1.cell
    have hf1 := hst.b1.frozen
    have HSt1 := Lib.hid hst
    have hxn : x < n := kindsL_in HO.out (hpre.subset (by simp))
    have h9x := H9.out x hxn
    have hlen : (pre ++ [x]).length ≤ 6 := Nat.le_trans hpre.length_le (kindsL_len once)
    have hst1 := stN_bd (z := z) (xs := pre ++ [x]) hlen (fun y hy => H9.out y (kindsL_in HO.out (hpre.subset hy)))
    have hst0 := stN_bd (z := z) (xs := pre) (by simp at hlen; omega) (fun y hy => H9.out y (kindsL_in HO.out (hpre.subset (by simp [hy]))))
    have hp0 := pow54 (k := pre.length) (by simp at hlen; omega)
    have hp1 := pow54 (k := (pre ++ [x]).length) (by omega)
    have HSn := Lib.hid (stN_snoc z x pre)
    have hl : (pre.length : Int) + 1 ≤ 6 := by simp at hlen; omega
    have hbel : Below w.heap.size w W1 := HB2.out.trans (hst.kp.below (fun k hk e => by omega) (by omega))
    have HBel := Lib.hid hbel
    have HPre := Lib.hid hpre
    have HK1 := Lib.hid hst1
    have HK0 := Lib.hid hst0
    clear hbel hst hpre hst1 hst0 hp0 hp1 hlen
    obtain ⟨Wa, hWa⟩ : ∃ Wa, Wa = W1.setCell ⟨w1.heap.size, 0, none⟩ (.int .i64 ((pre.length : Int) + 1)) := ⟨_, rfl⟩
    have ka : Keep (fun k => k = w1.heap.size ∨ k = w1.heap.size + 1 ∨ k = w1.heap.size + 1 + 1) W1 Wa := by
      rw [hWa]; exact Keep.setCell (p := ⟨w1.heap.size, 0, none⟩) (Keep.refl _ _) (Or.inl rfl) _
    have x1 : Boxed Wa w1.heap.size 3 (.int .i64 ((pre.length : Int) + 1)) := by rw [hWa]; exact HSt1.out.b1.set _
    have x2 : Boxed Wa (w1.heap.size + 1) 3 (.int .i64 (stN z pre)) := by rw [hWa]; exact box_other HSt1.out.b2 (by simp) _
    have x3 : Boxed Wa (w1.heap.size + 1 + 1) 3 (.int .i64 (ofS z part ^ (pre.length + 1))) := by rw [hWa]; exact box_other HSt1.out.b3 (by simp; omega) _
    have y0 : Wa.cell? ⟨w.heap.size, 0, none⟩ = some (.slice a n cap) := ka.cell HSt1.out.c0 (by simp; omega)
    have y1 : Wa.cell? ⟨w.heap.size + 1, 0, none⟩ = some (.int .i64 part) := ka.cell HSt1.out.c1 (by simp; omega)
    obtain ⟨b, o, hae, hcx⟩ := HZ.out x hxn
    have hbl := World.block_lt_of_cell? _ _ hcx
    have hcx' : Wa.cell? ⟨b, o + x, none⟩ = some (.int .i64 (z x)) := ka.cell ((HBel.out.cell (p := ⟨b, o + x, none⟩) hbl).trans hcx) (by simp at hbl ⊢; omega)
    clear hbl
    have HX := Lib.hid (And.intro x1 (And.intro x2 (And.intro x3 (And.intro y0 (And.intro y1 hcx')))))
    have HKa := Lib.hid ka
    have HWa := Lib.hid hWa
    have hxi : (x : Int) < (n : Int) := by omega
    clear x1 x2 x3 y0 y1 hcx' hcx ka hWa
    gi_wp2
    rw [← HWa.out]
    obtain ⟨x1, x2, x3, y0, y1, z0⟩ := HX.out
    subst hae
    gi_cut [] from 17 (fun wc => wc = Wa.drew.setCell ⟨w1.heap.size + 1, 0, none⟩ (.int .i64 (stN z (pre ++ [x]))))
    case first =>
      have c1 := x1.cell
      have c2 := x2.cell
      have f2 := x2.frozen
      obtain ⟨hS1, hS2⟩ := HK1.out
      rw [HSn.out] at hS1 hS2
      have hp : 1 ≤ ((pre.length : Int) + 1) * z x ∧ ((pre.length : Int) + 1) * z x ≤ 54 := by
        have : z x = 1 ∨ z x = 2 ∨ z x = 3 ∨ z x = 4 ∨ z x = 5 ∨ z x = 6 ∨ z x = 7 ∨ z x = 8 ∨ z x = 9 := by omega
        rcases this with h | h | h | h | h | h | h | h | h <;> rw [h] <;> omega
      have hp1 := pow54 (k := (pre ++ [x]).length) (by simp; omega)
      have e1 : ((pre.length + 1 : Nat) : Int) = (pre.length : Int) + 1 := by omega
      rw [e1] at hS1 hS2
      have HSn' : Hid (stN z (pre ++ [x]) = stN z pre * (((pre.length : Int) + 1) * z x)) := by rw [Hid, HSn.out, e1]
      have hw1' : IntKind.i64.wrap (((pre.length : Int) + 1) * z x) = ((pre.length : Int) + 1) * z x := IntWalk.i64_in _ (by omega)
      have hw2' : IntKind.i64.wrap (stN z pre * (((pre.length : Int) + 1) * z x)) = stN z pre * (((pre.length : Int) + 1) * z x) := IntWalk.i64_in _ (by omega)
      clear hS1 hS2 hp hp1 e1
      gi_region_with_o (fail)
      all_goals
        gi_wp2
        gi_meet
        case rel => first | (rw [HSn'.out]; done) | (rw [HSn'.out]; rfl)
    case rest =>
      have kc : Keep (fun k => k = w1.heap.size ∨ k = w1.heap.size + 1 ∨ k = w1.heap.size + 1 + 1) W1 wc := by
        rw [hcut]; exact Keep.setCell (p := ⟨w1.heap.size + 1, 0, none⟩) HKa.out.drew (Or.inr (Or.inl rfl)) _
      have x1' : Boxed wc w1.heap.size 3 (.int .i64 ((pre.length : Int) + 1)) := by rw [hcut]; exact box_other (W := Wa.drew) x1 (by simp) _
      have x2' : Boxed wc (w1.heap.size + 1) 3 (.int .i64 (stN z (pre ++ [x]))) := by rw [hcut]; exact Boxed.set (W := Wa.drew) _ x2
      have x3' : Boxed wc (w1.heap.size + 1 + 1) 3 (.int .i64 (ofS z part ^ (pre.length + 1))) := by rw [hcut]; exact box_other (W := Wa.drew) x3 (by simp) _
      have c0 : wc.cell? ⟨w.heap.size, 0, none⟩ = some (.slice (some ⟨b, o, none⟩) n cap) := kc.cell HSt1.out.c0 (by simp; omega)
      have c1 : wc.cell? ⟨w.heap.size + 1, 0, none⟩ = some (.int .i64 part) := kc.cell HSt1.out.c1 (by simp; omega)
      have c3 := x3'.cell
      have f3 := x3'.frozen
      have hsc : W1.heap.size ≤ wc.heap.size := kc.size
      have HOc := Lib.hid (HOf.out wc.drew (HBel.out.trans (kc.below (lo := w.heap.size) (fun k hk e => by omega) (by omega))).drew)
      have HXc := Lib.hid (And.intro x1' (And.intro x2' x3'))
      have HKc := Lib.hid kc
      clear x1 x2 x3 y0 y1 z0 hcut kc x1' x2' x3' h9x hl
      have hpow : ofS z part ^ (pre.length + 1) * ofS z part = ofS z part ^ ((pre ++ [x]).length + 1) := by
        rw [List.length_append]; exact (Int.pow_succ _ _).symm
      have hpb : 0 ≤ ofS z part ^ ((pre ++ [x]).length + 1) ∧ ofS z part ^ ((pre ++ [x]).length + 1) ≤ 1338925209984 := by
        have h1 := pow54 (k := (pre ++ [x]).length + 1) (by have := HPre.out.length_le; have := kindsL_len once; omega)
        obtain ⟨m, hm⟩ : ∃ m : Nat, ofS z part = m := ⟨(ofS z part).toNat, by omega⟩
        rw [hm] at hof ⊢
        have h2 : m ^ ((pre ++ [x]).length + 1) ≤ 54 ^ ((pre ++ [x]).length + 1) := Nat.pow_le_pow_left (by omega) _
        have h3 : ((m : Int) ^ ((pre ++ [x]).length + 1)) = ((m ^ ((pre ++ [x]).length + 1) : Nat) : Int) := by simp
        rw [h3]; omega
      have hwr : IntKind.i64.wrap (ofS z part ^ (pre.length + 1) * ofS z part) = ofS z part ^ ((pre ++ [x]).length + 1) := by rw [hpow]; exact IntWalk.i64_in _ (by omega)
      clear hpow hpb
      generalize ofS z part ^ (pre.length + 1) = Q at *
      obtain ⟨R, hR⟩ : ∃ R, R = ofS z part ^ ((pre ++ [x]).length + 1) := ⟨_, rfl⟩
      have HR := Lib.hid hR
      rw [← hR] at hwr
      clear hR
      gi_wp2
      gi_region_with_o (first
        | (gi_at_call 74; refine (CallsIn.inRound l2 (callsIn_wide.2 HOc.out)).mono ?_; rintro e W3 ⟨rfl, hb3⟩; have q5 : Boxed W3 (w1.heap.size + 1 + 1) 3 (.int .i64 Q) := box_below (W := wc.drew) HXc.out.2.2 hb3; have s1 := q5.cell; have s2 := q5.frozen; have HQ5 := Lib.hid q5; have HB3 := Lib.hid hb3; clear q5 hb3))
      all_goals
        have HG : Hid (roundEnd (fun k => k = w1.heap.size ∨ k = w1.heap.size + 1 ∨ k = w1.heap.size + 1 + 1) (fun pre W' => StAt (some ⟨b, o, none⟩) n cap z part w w1.heap.size w2 pre W') (fun (_ : List Nat) _ => False) (pre ++ [x]) W1 .normal { tmps := #[], defers := [] } (W3.setCell ⟨w1.heap.size + 1 + 1, 0, none⟩ (.int .i64 R))) := by
          have k1 : Keep (fun k => k = w1.heap.size ∨ k = w1.heap.size + 1 ∨ k = w1.heap.size + 1 + 1) W1 (W3.setCell ⟨w1.heap.size + 1 + 1, 0, none⟩ (.int .i64 R)) :=
            Keep.setCell (p := ⟨w1.heap.size + 1 + 1, 0, none⟩) ((HKc.out.drew).trans (Keep.of HB3.out)) (Or.inr (Or.inr rfl)) _
          refine ⟨k1, ?_, ?_, ?_, k1.cell HSt1.out.c0 (by simp; omega), k1.cell HSt1.out.c1 (by simp; omega), HSt1.out.kp.trans k1⟩
          · have h := box_other (box_below (W := wc.drew) HXc.out.1 HB3.out) (p := ⟨w1.heap.size + 1 + 1, 0, none⟩) (by show w1.heap.size ≠ w1.heap.size + 1 + 1; omega) (.int .i64 R)
            have e : (((pre ++ [x]).length : Nat) : Int) = (pre.length : Int) + 1 := by simp
            rw [e]; exact h
          · exact box_other (box_below (W := wc.drew) HXc.out.2.1 HB3.out) (p := ⟨w1.heap.size + 1 + 1, 0, none⟩) (by show w1.heap.size + 1 ≠ w1.heap.size + 1 + 1; omega) (.int .i64 R)
          · rw [← HR.out]; exact HQ5.out.set _
        gi_wp2
        exact HG.out
  case done =>
    rintro D W3 hD hb3 hst hK
    have hres : W3.heap[w.heap.size + 1 + 1]? = some (.cells #[.int .i64 0, .int .i64 0] 24) := (hst.kp.block (w.heap.size + 1 + 1) (by omega) (by omega)).trans HRes.out
    have c2 := hst.b2.cell
    have c3 := hst.b3.cell
    have HBel := Lib.hid (HB2.out.trans (hst.kp.below (fun k hk e => by omega) (by omega)))
    have hlen : pop once = (kindsL once).length := rfl
    rw [← hlen] at c3
    have hN := stN_bd (z := z) (xs := kindsL once) (kindsL_len once) (fun y hy => H9.out y (kindsL_in HO.out hy))
    have hp0 := pow54 (k := (kindsL once).length) (by have := kindsL_len once; omega)
    have hp1 := pow54 (k := pop once + 1) (by have := pop_le once; omega)
    obtain ⟨m, hm⟩ : ∃ m : Nat, ofS z part = m := ⟨(ofS z part).toNat, by omega⟩
    have hm2 : (ofS z part).toNat = m := by omega
    have hD1 : m ^ (pop once + 1) ≤ 54 ^ (pop once + 1) := Nat.pow_le_pow_left (by omega) _
    have hD0 : 1 ≤ m ^ (pop once + 1) := Nat.one_le_pow _ _ (by omega)
    have e3 : ofS z part ^ (pop once + 1) = ((m ^ (pop once + 1) : Nat) : Int) := by rw [hm]; simp
    rw [e3] at c3
    have HF := Lib.hid (fun W => fraction_any (stN z (kindsL once)) (m ^ (pop once + 1)) W (by omega) (by omega) (by omega) hD0)
    have HM2 := Lib.hid hm2
    have HKp := Lib.hid hK
    have HRs := Lib.hid hres
    have hsz3 := hb3.size
    clear hb3 hst hK hres hN hp0 hp1 hm hm2 hD1 hD0 e3 hlen
    obtain ⟨N, hN⟩ : ∃ N, N = m ^ (pop once + 1) := ⟨_, rfl⟩
    have HN := Lib.hid hN
    rw [← hN] at c3 HF
    clear hN
    gi_wp2_with fail
    refine (callsIn_wide.2 (HF.out _)).mono ?_
    rintro e W4 ⟨rfl, hb4⟩
    have hr4 : W4.heap[w.heap.size + 1 + 1]? = some (.cells #[.int .i64 0, .int .i64 0] 24) := (hb4.block (w.heap.size + 1 + 1) (by omega)).trans HRs.out
    have hk4 : W4.heap[D]? = some (.deferred (some [])) := (hb4.block D (Array.getElem?_eq_some_iff.1 HKp.out).1).trans HKp.out
    obtain ⟨q1, q2, q3, q4⟩ := fr_cells hr4
    obtain ⟨A, hAe⟩ : ∃ A, A = frA (stN z (kindsL once)) N := ⟨_, rfl⟩
    obtain ⟨B, hBe⟩ : ∃ B, B = frB (stN z (kindsL once)) N := ⟨_, rfl⟩
    rw [← hAe, ← hBe]
    have HE : Hid (frA (stN z (kindsL once)) N = A ∧ frB (stN z (kindsL once)) N = B) := ⟨hAe.symm, hBe.symm⟩
    obtain ⟨W5, hW5⟩ : ∃ W5, W5 = (W4.setCell ⟨w.heap.size + 1 + 1, 0, none⟩ (.int .i64 A)).setCell ⟨w.heap.size + 1 + 1, 1, none⟩ (.int .i64 (B : Int)) := ⟨_, rfl⟩
    have hb5 : W5.heap[w.heap.size + 1 + 1]? = some (.cells #[.int .i64 A, .int .i64 (B : Int)] 24) := by rw [hW5]; exact set_block (set_block hr4 _) _
    have hK5 : W5.heap[D]? = some (.deferred (some [])) := by
      rw [hW5]
      exact ((Below.heap_setCell _ _ _ D (fun e => by simp at e; omega)).trans (Below.heap_setCell _ _ _ D (fun e => by simp at e; omega))).trans hk4
    have hb6 : (W5.putObj D (.deferred none)).heap[w.heap.size + 1 + 1]? = some (.cells #[.int .i64 A, .int .i64 (B : Int)] 24) := (World.putObj_heap_other (by omega)).trans hb5
    have hfin : Hid (Below w.heap.size w (W5.putObj D (.deferred none))) := by
      have h1 : Below w.heap.size w W5 := by
        rw [hW5]
        exact ((HBel.out.trans (hb4.mono (by omega))).setCell (by simp; omega) _).setCell (by simp; omega) _
      exact h1.trans ⟨rfl, rfl, rfl, by simp, fun k hk => World.putObj_heap_other (by omega)⟩
    obtain ⟨s1, s2, _, _⟩ := fr_cells hb6
    have HK5 := Lib.hid hK5
    have HW5 := Lib.hid hW5
    have HS12 := Lib.hid (And.intro s1 s2)
    clear hb4 hr4 hk4 hAe hBe hW5 hb5 hK5 hb6 s1 s2
    gi_wp2
    rw [← HW5.out]
    refine ⟨by simp, .inl ⟨_, _, rfl, run_takeDeferred HK5.out, ?_⟩⟩
    obtain ⟨s1, s2⟩ := HS12.out
    exact ⟨.agg #[.int .i64 A, .int .i64 (B : Int)], by simp [results, Try.results88, go_sem, s1, s2], by rw [HM2.out, ← HN.out, HE.out.1, HE.out.2], hfin.out⟩
  case stop =>
    rintro D pre W3 hD hb3 hpre hj hK
    exact hj.elim

end Go.Proofs.Ytgednacoeifclaa
