import Derived.Test.YtkbbijhknbcflabG2
import Derived.StillTailTactics
import Derived.Laws.Concat
/-
  The reader: fixed points.
-/
namespace Go.Proofs.Ytkbbijhknbcflab
open Go.RowKit Go.Shelf

attribute [local go_sem] eql_fn eql_nf

theorem more_of {o : List UInt8} {c : Nat} (hc : c < 3) (i : Nat) (hi : i < 3) : mOf (o ++ [lett c]) i = (mOf o i || i == c) := by
  unfold mOf
  rw [List.contains_append]
  congr 1
  by_cases e : i = c
  · subst e; simp
  · have : lett i ≠ lett c := fun h => e (lett_inj hi hc h)
    simp [e, this]
theorem form_rd2 {m : Nat → Bool} {l r l' o' : List UInt8} {b : Nat} {W W' W2 : World} {v : Value} (h : Mn m l r W v) (hb : Below W.heap.size W W') (h0 : RdAt b l' o' W') (hk : Kp b W' W2) : Mn m l r W2 v := by
  rcases h with ⟨F, h1, h⟩ | h
  · exact Or.inl ⟨F, h1, Means.rd h0 hk (h.keep hb)⟩
  · exact Or.inr h

set_option maxHeartbeats 4000000 in
set_option maxRecDepth 100000 in
theorem rfixed_yes (N : Nat) (hN : FC N) (g : Bool) (c : Nat) (hc : c < 3) (b : Nat) (t o : List UInt8) (w : World) (hl : t.length ≤ N) (hz : t.length + o.length ≤ 4998) (h : RdAt b (lett c :: t) o w) (hm : o.contains (lett c) = false) :
    Calls Try.prog 47 #[.pointer (some ⟨b, 0, none⟩), .int .u8 (if g then 103 else 109)] w fun e w' => FormOut b ((if g then 103 else 109) :: lett c :: t) o w e w' := by
  have HYes : Hid (∀ l r', Begins (mOf (o ++ [lett c])) t l r' → Begins (mOf o) ((if g then 103 else 109) :: lett c :: t) (.fix g c l) r') := by
    rintro l r' ⟨rfl, h1⟩
    exact ⟨by simp [str], ⟨hc, hm⟩, wf_congr l (fun i hi => more_of hc i hi) h1⟩
  have HNo : Hid (∀ F r', Begins (mOf o) ((if g then 103 else 109) :: lett c :: t) F r' → ∃ l, Begins (mOf (o ++ [lett c])) t l r') := by
    intro F r' h
    obtain ⟨g', c', l, rfl, t', e, hc', _, h1, h2⟩ := begins_fix (by cases g <;> rfl) h
    have e' := List.cons.inj e
    obtain rfl := lett_inj hc hc' e'.1
    obtain rfl := e'.2
    exact ⟨l, h1, wf_congr l (fun i hi => (more_of hc i hi).symm) h2⟩
  have HLf : Hid (∀ r : List UInt8, r.length ≤ t.length → r.length ≤ ((if g then 103 else 109) :: lett c :: t : List UInt8).length) := fun r h => by simp only [List.length_cons]; omega
  generalize ((if g then 103 else 109) :: lett c :: t : List UInt8) = full at *
  generalize hG : (if g = true then (103 : Int) else 109) = G
  have HG := Lib.hid hG
  have hb := h.lt
  have HB0 := Lib.hid (below_one w (.cells #[.int .u8 G] 5))
  have HC0 : Hid ((w.alloc (.cells #[.int .u8 G] 5)).cell? ⟨w.heap.size, 0, none⟩ = some (.int .u8 G)) := block_cell (heap_alloc_new w (.cells #[.int .u8 G] 5)) 0
  have HSg := Lib.hid (sign_any b (lett c :: t) o (w.alloc (.cells #[.int .u8 G] 5)) (h.keep (below_one w _)) (by simp; omega))
  have HN := Lib.hid hN
  have HI := Lib.hid (fun W => index_any o (lett c) W)
  have HL := Lib.hid (fun W => isLetter_r true (lett c) W (letB_iff.2 ⟨c, hc, rfl⟩))
  have hx := indexByte_neg hm
  obtain ⟨Y, hY⟩ : ∃ Y : Int, ((lett c).toNat : Int) = Y := ⟨_, rfl⟩
  have HY : Hid (Y = ((120 + c : Nat) : Int)) := by rw [Hid, ← hY]; exact lett_nat hc
  have hYr : 120 ≤ Y ∧ Y ≤ 122 := by have := HY.out; omega
  obtain ⟨hY1, hY2⟩ := hYr
  rw [hx] at HI
  rw [hY] at HI HL
  have HIq : Hid (∀ W, Calls Try.prog 37 #[.string (st o), .int .u8 Y] W fun e w' => e = .returned (.int .i64 (-1)) ∧ w' = W) := fun W => (HI.out W).mono fun _ _ h => ⟨h.1, h.2.symm⟩
  have HLq : Hid (∀ W, Calls Try.prog 57 #[.int .u8 Y] W fun e w' => e = .returned (.bool true) ∧ w' = W) := fun W => (HL.out W).mono fun _ _ h => ⟨h.1, h.2.symm⟩
  clear hN h hG hx
  go_enter Try.func47, Try.ntmps47
  go_wp2_with fail
  refine HSg.out.mono ?_
  rintro e' w1 ⟨rfl, hr1, kp1⟩
  simp only [hd, tl] at hr1 ⊢
  rw [hY]
  have HYl := Lib.hid hY
  have HR1 := Lib.hid (hr1.keep (below_one w1 (.cells #[.int .u8 Y] 5)))
  have HKp1 := Lib.hid (kp1.trans (Kp.of (below_one w1 (.cells #[.int .u8 Y] 5))))
  have hs1 := kp1.size
  have hb1 := hr1.lt
  simp only [World.alloc, Array.size_push] at hs1
  have hcY : (w1.alloc (.cells #[.int .u8 Y] 5)).cell? ⟨w1.heap.size, 0, none⟩ = some (.int .u8 Y) := block_cell (heap_alloc_new w1 _) 0
  have HcY := Lib.hid hcY
  obtain ⟨q0, q1, f0, f1⟩ := HR1.out
  have HcG := Lib.hid (alloc_cell (kp1.cell HC0.out (by simp; omega)) (.cells #[.int .u8 Y] 5))
  clear hr1 kp1 hY
  go_wp2
  go_quiet (first
    | (go_at_call 57; with_reducible exact Calls.quiet_of_same (HLq.out _))
    | (go_at_call 37; with_reducible exact Calls.quiet_of_same (HIq.out _)))
  have h32 : IntKind.i32.wrap Y = Y := by rcases (show Y = 120 ∨ Y = 121 ∨ Y = 122 by omega) with rfl | rfl | rfl <;> rfl
  go_wp2
  have HR2 := Lib.hid (HR1.out.drewN nq)
  have HK2 := Lib.hid (HKp1.out.drewN nq)
  have hcY2 : ((w1.alloc (.cells #[.int .u8 Y] 5)).drewN nq).cell? ⟨w1.heap.size, 0, none⟩ = some (.int .u8 Y) := HcY.out
  have hcG2 : ((w1.alloc (.cells #[.int .u8 Y] 5)).drewN nq).cell? ⟨w.heap.size, 0, none⟩ = some (.int .u8 G) := HcG.out
  have hs2 : ((w1.alloc (.cells #[.int .u8 Y] 5)).drewN nq).heap.size = w1.heap.size + 1 := by simp
  clear q0 q1 f0 f1 hcY HcY HR1 HKp1
  generalize (w1.alloc (.cells #[.int .u8 Y] 5)).drewN nq = W2 at HR2 HK2 hcY2 hcG2 hs2 ⊢
  have HcY := Lib.hid hcY2
  have HcG2 := Lib.hid hcG2
  obtain ⟨q0, q1, f0, f1⟩ := HR2.out
  obtain ⟨E, hE⟩ : ∃ E, Utf8.encode Y = E := ⟨_, rfl⟩
  obtain ⟨O, hO⟩ : ∃ O, st o = O := ⟨_, rfl⟩
  have HEq : Hid (O ++ E = st (o ++ [lett c])) := by
    show O ++ E = st (o ++ [lett c])
    have he : E = st [lett c] := by
      rw [← hE, HY.out]
      rcases cases3 hc with rfl | rfl | rfl <;> rfl
    rw [← hO, he, st_append]
  have hEs : E.size = 1 := by
    rw [← hE]
    rcases (show Y = 120 ∨ Y = 121 ∨ Y = 122 by omega) with rfl | rfl | rfl <;> rfl
  have hOs : O.size ≤ 5000 := by rw [← hO, st_size]; omega
  have hOE : O.size + E.size ≤ 5001 := by omega
  have HO := Lib.hid hO
  rw [hO] at q1 ⊢
  clear hO
  have hcat : ∀ W : World, (Op.stringOp .add O E).run Try.prog W = .ok (.string (O ++ E)) W := fun W => run_string_add_sum W O E (by omega)
  clear hOE hOs hEs
  go_still_tail 10, (by kernel_rfl)
  change wpList _ _ _ _ _ W2.drew
  have HR3 : Hid (RdAt b t o W2.drew) := ⟨HR2.out.c0, HR2.out.c1, HR2.out.f0, HR2.out.f1⟩
  have HK3 : Hid (Kp b (w.alloc (.cells #[.int .u8 G] 5)) W2.drew) := HK2.out.drew
  have hY3 : W2.drew.cell? ⟨w1.heap.size, 0, none⟩ = some (.int .u8 Y) := HcY.out
  have hG3 : W2.drew.cell? ⟨w.heap.size, 0, none⟩ = some (.int .u8 G) := HcG2.out
  have hs3 : W2.drew.heap.size = w1.heap.size + 1 := hs2
  clear q0 q1 f0 f1 hcY2 hcG2 hs2 HR2 HK2 HcY HcG2
  generalize W2.drew = W3 at HR3 HK3 hY3 hG3 hs3 ⊢
  have HcY := Lib.hid hY3
  have HcG3 := Lib.hid hG3
  obtain ⟨q0, q1, f0, f1⟩ := HR3.out
  rw [HO.out] at q1
  have HR4 := Lib.hid (HR3.out.set1 (o ++ [lett c]))
  have HK4 := Lib.hid ((Kp.refl b W3).setCell (p := ⟨b, 1, none⟩) rfl (.string (st (o ++ [lett c]))))
  have H4 := Lib.hid (HN.out b t (o ++ [lett c]) _ hl (by simp; omega) HR4.out)
  clear hG3 hY3
  go_wp2_with fail
  rw [HEq.out]
  refine H4.out.mono ?_
  rintro e w4 ⟨v4, r4, rfl, hr4, kp4, hl4, hm4⟩
  have hs4 := kp4.size
  simp only [World.setCell, Array.size_modify] at hs4
  have hv4 := fn_or hm4
  have cG4 := kp4.cell (HK4.out.cell HcG3.out (by simp; omega)) (by simp; omega)
  have cY4 := kp4.cell (HK4.out.cell HcY.out (by simp; omega)) (by simp; omega)
  have HKa := Lib.hid ((((Kp.of HB0.out : Kp b _ _).trans HK3.out).trans HK4.out).trans kp4)
  have HM4 := Lib.hid hm4
  have HLen := Lib.hid (HLf.out r4 hl4)
  have HR5 := Lib.hid hr4
  have HcG4 := Lib.hid cG4
  have HcY4 := Lib.hid cY4
  have hb4 := hr4.lt
  clear hm4 hr4 kp4 cG4 cY4 q0 q1 f0 f1
  rcases hv4 with ⟨f1, k1, rfl⟩ | rfl
  case' inl => obtain ⟨x1, hx1⟩ : ∃ x, x = Value.func (.func f1) #[] k1 := ⟨_, rfl⟩
  case' inr => obtain ⟨x1, hx1⟩ : ∃ x, x = Value.nilFunc := ⟨_, rfl⟩
  all_goals
    have hr6 := HR5.out.set1 o
    have hk6 : Kp b w4 (w4.setCell ⟨b, 1, none⟩ (.string (st o))) := (Kp.refl b _).setCell (p := ⟨b, 1, none⟩) rfl _
    have hsz : (w4.setCell ⟨b, 1, none⟩ (.string (st o))).heap.size = w4.heap.size := by simp [World.setCell]
    have hbe := below_one (w4.setCell ⟨b, 1, none⟩ (.string (st o))) (.cells #[x1] 45)
    have HR6 := Lib.hid (hr6.keep hbe)
    have HK6 := Lib.hid ((HKa.out.trans hk6).trans (Kp.of hbe))
    have c0 : ((w4.setCell ⟨b, 1, none⟩ (.string (st o))).alloc (.cells #[x1] 45)).cell? ⟨w4.heap.size, 0, none⟩ = some x1 := by rw [← hsz]; exact block_cell (heap_alloc_new _ _) 0
    have HcX := Lib.hid c0
    have HcG6 := Lib.hid (alloc_cell (hk6.cell HcG4.out (by simp; omega)) (.cells #[x1] 45))
    have HcY6 := Lib.hid (alloc_cell (hk6.cell HcY4.out (by simp; omega)) (.cells #[x1] 45))
    have HM6 : Hid (Mn (mOf (o ++ [lett c])) t r4 ((w4.setCell ⟨b, 1, none⟩ (.string (st o))).alloc (.cells #[x1] 45)) _) := form_rd HM4.out HR5.out hk6 hbe
    obtain ⟨q0, q1, f0, f1⟩ := HR5.out
    rw [HO.out] at HR6 HcX HcG6 HcY6 HM6 HK6
    clear hk6 hbe hsz c0 hr6
    subst hx1
    go_wp2
    go_ret
    rcases HM6.out with ⟨F1, hF1, hM1⟩ | ⟨hv1, hno1⟩
    · first
        | exact ⟨_, r4, rfl, HR6.out, HK6.out, HLen.out, Or.inl ⟨_, HYes.out F1 r4 hF1, _, _, _, _, rfl, by rw [HcG6.out, ← HG.out], by rw [HcY6.out, HY.out], HcX.out, hM1⟩⟩
        | exact absurd rfl (nil_or hM1)
    · exact ⟨_, r4, rfl, HR6.out, HK6.out, HLen.out, Or.inr ⟨(by first | rfl | cases hv1), fun F r' h => by
        obtain ⟨l, h1⟩ := HNo.out F r' h
        exact hno1 _ _ h1⟩⟩
end Go.Proofs.Ytkbbijhknbcflab
