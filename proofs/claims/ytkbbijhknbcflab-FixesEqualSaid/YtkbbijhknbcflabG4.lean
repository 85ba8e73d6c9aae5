import Derived.Test.YtkbbijhknbcflabG3
/-
  The reader: what is no fixed point; a formula.
-/
namespace Go.Proofs.Ytkbbijhknbcflab
open Go.RowKit Go.Shelf

attribute [local go_sem] eql_fn eql_nf

set_option maxHeartbeats 4000000 in
set_option maxRecDepth 100000 in
theorem rfixed_no (g : Bool) (b : Nat) (t o : List UInt8) (w : World) (hz : t.length + o.length ≤ 4999) (h : RdAt b t o w) (hm : letB (hd t) = true → o.contains (hd t) = true) :
    Calls Try.prog 47 #[.pointer (some ⟨b, 0, none⟩), .int .u8 (if g then 103 else 109)] w fun e w' => FormOut b ((if g then 103 else 109) :: t) o w e w' := by
  have HNo : Hid (∀ F r', ¬ Begins (mOf o) ((if g then 103 else 109) :: t) F r') := by
    intro F r' h
    obtain ⟨g', c', l, rfl, t', rfl, hc', h1, h2⟩ := begins_fix (by cases g <;> rfl) h
    have := hm (letB_iff.2 ⟨c', hc', rfl⟩)
    simp only [hd] at this
    unfold mOf at h1
    rw [h1] at this; cases this
  have HLf : Hid ((tl t).length ≤ ((if g then 103 else 109) :: t : List UInt8).length) := by have := tl_len t; simp only [Hid, List.length_cons]; omega
  generalize ((if g then 103 else 109) :: t : List UInt8) = full at *
  generalize hG : (if g = true then (103 : Int) else 109) = G
  have hb := h.lt
  have HB0 := Lib.hid (below_one w (.cells #[.int .u8 G] 5))
  have HSg := Lib.hid (sign_any b t o (w.alloc (.cells #[.int .u8 G] 5)) (h.keep (below_one w _)) (by omega))
  have HI := Lib.hid (fun W => index_any o (hd t) W)
  have HP := Lib.hid (indexByte_pos (o := o) (x := hd t))
  have HM := Lib.hid hm
  clear h hG hm
  cases hlt : letB (hd t)
  · have HL := Lib.hid (fun W => isLetter_r false (hd t) W hlt)
    have HLq : Hid (∀ W, Calls Try.prog 57 #[.int .u8 ((hd t).toNat : Int)] W fun e w' => e = .returned (.bool false) ∧ w' = W) := fun W => (HL.out W).mono fun _ _ h => ⟨h.1, h.2.symm⟩
    clear hlt
    go_enter Try.func47, Try.ntmps47
    go_wp2_with fail
    refine HSg.out.mono ?_
    rintro e' w1 ⟨rfl, hr1, kp1⟩
    generalize ((hd t).toNat : Int) = Y at *
    have HR1 := Lib.hid (hr1.keep (below_one w1 (.cells #[.int .u8 Y] 5)))
    have HKp1 := Lib.hid ((Kp.of HB0.out : Kp b _ _).trans (kp1.trans (Kp.of (below_one w1 (.cells #[.int .u8 Y] 5)))))
    have hcY : (w1.alloc (.cells #[.int .u8 Y] 5)).cell? ⟨w1.heap.size, 0, none⟩ = some (.int .u8 Y) := block_cell (heap_alloc_new w1 _) 0
    clear hr1 kp1
    obtain ⟨q0, q1, f0, f1⟩ := HR1.out
    go_wp2
    go_quiet (first
      | (go_at_call 57; with_reducible exact Calls.quiet_of_same (HLq.out _)))
    go_wp2
    go_ret
    exact ⟨_, tl t, rfl, HR1.out.drewN _, HKp1.out.drewN _, HLf.out, Or.inr ⟨rfl, HNo.out⟩⟩
  · have HL := Lib.hid (fun W => isLetter_r true (hd t) W hlt)
    have HLq : Hid (∀ W, Calls Try.prog 57 #[.int .u8 ((hd t).toNat : Int)] W fun e w' => e = .returned (.bool true) ∧ w' = W) := fun W => (HL.out W).mono fun _ _ h => ⟨h.1, h.2.symm⟩
    have HIq : Hid (∀ W, Calls Try.prog 37 #[.string (st o), .int .u8 ((hd t).toNat : Int)] W fun e w' => e = .returned (.int .i64 (Lib.indexByte o (hd t))) ∧ w' = W) := fun W => (HI.out W).mono fun _ _ h => ⟨h.1, h.2.symm⟩
    have hX0 : 0 ≤ Lib.indexByte o (hd t) := (HP.out (HM.out hlt)).1
    generalize Lib.indexByte o (hd t) = X at *
    have hd0 : decide ((0 : Int) ≤ X) = true := decide_eq_true hX0
    clear hlt
    go_enter Try.func47, Try.ntmps47
    go_wp2_with fail
    refine HSg.out.mono ?_
    rintro e' w1 ⟨rfl, hr1, kp1⟩
    generalize ((hd t).toNat : Int) = Y at *
    have HR1 := Lib.hid (hr1.keep (below_one w1 (.cells #[.int .u8 Y] 5)))
    have HKp1 := Lib.hid ((Kp.of HB0.out : Kp b _ _).trans (kp1.trans (Kp.of (below_one w1 (.cells #[.int .u8 Y] 5)))))
    have hcY : (w1.alloc (.cells #[.int .u8 Y] 5)).cell? ⟨w1.heap.size, 0, none⟩ = some (.int .u8 Y) := block_cell (heap_alloc_new w1 _) 0
    clear hr1 kp1
    obtain ⟨q0, q1, f0, f1⟩ := HR1.out
    go_wp2
    go_quiet (first
      | (go_at_call 57; with_reducible exact Calls.quiet_of_same (HLq.out _))
      | (go_at_call 37; with_reducible exact Calls.quiet_of_same (HIq.out _)))
    go_wp2
    go_ret
    exact ⟨_, tl t, rfl, HR1.out.drewN _, HKp1.out.drewN _, HLf.out, Or.inr ⟨rfl, HNo.out⟩⟩
end Go.Proofs.Ytkbbijhknbcflab
