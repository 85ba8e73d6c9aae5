import Derived.Test.YtkbbijhknbcflabG1
/-
  The reader: a step ahead, a letter.
-/
namespace Go.Proofs.Ytkbbijhknbcflab
open Go.RowKit Go.Shelf

attribute [local go_sem] eql_fn eql_nf
theorem RdAt.drewN {b : Nat} {l o : List UInt8} {W : World} (h : RdAt b l o W) (n : Nat) : RdAt b l o (W.drewN n) := ⟨h.c0, h.c1, h.f0, h.f1⟩
theorem Kp.drewN {b : Nat} {x y : World} (h : Kp b x y) (n : Nat) : Kp b x (y.drewN n) := ⟨h.os, h.tape, h.output, h.size, h.block⟩

set_option maxHeartbeats 4000000 in
set_option maxRecDepth 100000 in
theorem ahead_any (N : Nat) (hN : FC N) (d : Bool) (b : Nat) (t o : List UInt8) (w : World) (hl : t.length ≤ N) (hz : t.length + o.length ≤ 4999) (h : RdAt b t o w) :
    Calls Try.prog 45 #[.pointer (some ⟨b, 0, none⟩), .int .u8 (if d then 60 else 91)] w fun e w' => FormOut b ((if d then 60 else 91) :: t) o w e w' := by
  have HNo : Hid (∀ F r', Begins (mOf o) ((if d then 60 else 91) :: t) F r' → ∃ l, F = .ahead d l ∧ Begins (mOf o) t l r') := by
    intro F r' h
    obtain ⟨d', l, rfl, h1⟩ := begins_ahead (by cases d <;> rfl) h
    have e := (List.cons.inj h.1).1
    have : d' = d := by cases d <;> cases d' <;> first | rfl | exact absurd e (by decide)
    subst this
    exact ⟨l, rfl, h1⟩
  have HYes : Hid (∀ l r', Begins (mOf o) t l r' → Begins (mOf o) ((if d then 60 else 91) :: t) (.ahead d l) r') := by
    rintro l r' ⟨rfl, h1⟩
    exact ⟨by simp [str], h1⟩
  have HLf : Hid (∀ r : List UInt8, r.length ≤ t.length → r.length ≤ ((if d then 60 else 91) :: t : List UInt8).length) := fun r h => by simp; omega
  generalize ((if d then 60 else 91) :: t : List UInt8) = full at *
  generalize hG : (if d = true then (60 : Int) else 91) = G
  have HG := Lib.hid hG
  have H1 := Lib.hid (hN b t o (w.alloc (.cells #[.int .u8 G] 5)) hl (by omega) (h.keep (below_one w _)))
  have hb := h.lt
  have HB0 := Lib.hid (below_one w (.cells #[.int .u8 G] 5))
  have HC0 : Hid ((w.alloc (.cells #[.int .u8 G] 5)).cell? ⟨w.heap.size, 0, none⟩ = some (.int .u8 G)) := block_cell (heap_alloc_new w (.cells #[.int .u8 G] 5)) 0
  clear hN h hG
  go_enter Try.func45, Try.ntmps45
  go_wp2_with fail
  refine H1.out.mono ?_
  rintro e w1 ⟨v1, r1, rfl, hr1, kp1, hl1, hm1⟩
  have hv1 := fn_or hm1
  rcases hv1 with ⟨f1, k1, rfl⟩ | rfl
  case' inl => obtain ⟨x1, hx1⟩ : ∃ x, x = Value.func (.func f1) #[] k1 := ⟨_, rfl⟩
  case' inr => obtain ⟨x1, hx1⟩ : ∃ x, x = Value.nilFunc := ⟨_, rfl⟩
  all_goals
    have hb1 := hr1.lt
    have hs1 := kp1.size
    simp only [World.alloc, Array.size_push] at hs1
    have hbe1 : Below w1.heap.size w1 (w1.alloc (.cells #[x1] 45)) := below_one w1 _
    have g0 := alloc_cell (kp1.cell HC0.out (by simp; omega)) (.cells #[x1] 45)
    have g1 : (w1.alloc (.cells #[x1] 45)).cell? ⟨w1.heap.size, 0, none⟩ = some x1 := block_cell (heap_alloc_new w1 _) 0
    have HG0 := Lib.hid g0
    have HG1 := Lib.hid g1
    have HRf := Lib.hid (hr1.keep hbe1)
    have HKf := Lib.hid (((Kp.of HB0.out : Kp b _ _).trans kp1).trans (Kp.of hbe1))
    have HLen := Lib.hid (HLf.out r1 hl1)
    have HM1f := Lib.hid (form_keep hm1 hbe1)
    clear hr1 kp1 hbe1 g0 hm1
    subst hx1
    go_wp2
    go_ret
    rcases HM1f.out with ⟨F1, hF1, hM1⟩ | ⟨hv1, hno1⟩
    · first
        | exact ⟨_, r1, rfl, HRf.out, HKf.out, HLen.out, Or.inl ⟨_, HYes.out F1 r1 hF1, _, _, _, rfl, HG1.out, by rw [HG0.out, ← HG.out], hM1⟩⟩
        | exact absurd rfl (nil_or hM1)
    · exact ⟨_, r1, rfl, HRf.out, HKf.out, HLen.out, Or.inr ⟨(by first | rfl | cases hv1), fun F r' h => by
        obtain ⟨l, _, h1⟩ := HNo.out F r' h
        exact hno1 _ _ h1⟩⟩

set_option maxHeartbeats 4000000 in
set_option maxRecDepth 100000 in
theorem letter_any (c : Nat) (hc : c < 3) (b : Nat) (t o : List UInt8) (w : World) (_hz : t.length + o.length ≤ 4999) (h : RdAt b t o w) :
    Calls Try.prog 46 #[.pointer (some ⟨b, 0, none⟩), .int .u8 (120 + c : Nat)] w fun e w' => FormOut b (lett c :: t) o w e w' := by
  have hb := h.lt
  have hbe := below_one w (.cells #[.int .u8 (120 + c : Nat)] 5)
  have hr := h.keep hbe
  have g0 : (w.alloc (.cells #[.int .u8 (120 + c : Nat)] 5)).cell? ⟨w.heap.size, 0, none⟩ = some (.int .u8 (120 + c : Nat)) := block_cell (heap_alloc_new w _) 0
  have HI := Lib.hid (fun W => index_any o (lett c) W)
  have e := lett_nat hc
  have HLo : Hid (t.length ≤ (lett c :: t).length) := by simp [Hid]
  have HG0 := Lib.hid g0
  have HR := Lib.hid hr
  have HB := Lib.hid hbe
  have HH := Lib.hid hc
  have HI2 : Hid (∀ W, Calls Try.prog 37 #[.string (st o), .int .u8 (120 + c : Nat)] W fun e w' => e = .returned (.int .i64 (Lib.indexByte o (lett c))) ∧ w' = W) := by
    intro W; rw [← e]; exact (HI.out W).mono fun _ _ h => ⟨h.1, h.2.symm⟩
  obtain ⟨q0, q1, _, _⟩ := hr
  cases hm : o.contains (lett c)
  · have hx := indexByte_neg hm
    have HNo : Hid (∀ F r', ¬ Begins (mOf o) (lett c :: t) F r') := by
      intro F r' hB
      have := (begins_var hc hB).2.1
      unfold mOf at this
      rw [hm] at this; cases this
    generalize Lib.indexByte o (lett c) = X at *
    subst hx
    generalize ((120 + c : Nat) : Int) = Y at *
    clear hm h hbe hc HI e g0
    go_enter Try.func46, Try.ntmps46
    go_wp2
    go_quiet ((go_at_call 37; with_reducible exact Calls.quiet_of_same (HI2.out _)))
    go_wp2
    go_ret
    exact ⟨_, t, rfl, HR.out.drewN _, (Kp.of HB.out).drewN _, HLo.out, Or.inr ⟨rfl, HNo.out⟩⟩
  · have hx := (indexByte_pos hm).1
    have HYes : Hid (Begins (mOf o) (lett c :: t) (.var c) t) := ⟨rfl, hc, hm⟩
    generalize Lib.indexByte o (lett c) = X at *
    generalize hY : ((120 + c : Nat) : Int) = Y at *
    have HY := Lib.hid hY
    clear hm h hbe hc HI e g0 hY
    go_enter Try.func46, Try.ntmps46
    go_wp2
    go_quiet ((go_at_call 37; with_reducible exact Calls.quiet_of_same (HI2.out _)))
    go_wp2
    go_ret
    exact ⟨_, t, rfl, HR.out.drewN _, (Kp.of HB.out).drewN _, HLo.out, Or.inl ⟨_, HYes.out, _, rfl, by rw [HY.out]; exact HG0.out⟩⟩
end Go.Proofs.Ytkbbijhknbcflab
