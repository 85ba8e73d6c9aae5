import Derived.Test.YtgednacoeifclaaK1
namespace Go.Proofs.Ytgednacoeifclaa
open Go.RowKit Go.Shelf

attribute [local go_sem] Oper.semAt_some

theorem parts_any (s : Int) (w : World) :
    Calls Try.prog 83 #[.int .i64 s] w fun e w' => e = .returned (.func (.func 95) #[] #[.pointer (some ⟨w.heap.size, 0, none⟩)]) ∧ w' = w.alloc (.cells #[.int .i64 s] 3) := by
  go_enter Try.func83, Try.ntmps83
  go_wp2
  go_ret
  exact ⟨rfl, rfl⟩

theorem partsTo_zero (s : Nat) : partsTo s 0 = [] := by
  unfold partsTo
  exact List.filter_eq_nil_iff.2 fun x _ => by simp

set_option maxRecDepth 100000 in
set_option maxHeartbeats 4000000 in
theorem parts_iter (s : Nat) (hs : s < 64) (b : Nat) (w0 : World) (hc : w0.cell? ⟨b, 0, none⟩ = some (.int .i64 s)) :
    Iter Try.prog 95 #[.pointer (some ⟨b, 0, none⟩)] EI (fun k => k = b) (partsL s) w0 := by
  intro T l J Jx W hW hPr hT hJ hJx hY h0
  have hnb : ¬ T b := hPr b rfl
  have hc' : W.cell? ⟨b, 0, none⟩ = some (.int .i64 s) := (hW.cell (p := ⟨b, 0, none⟩) (World.block_lt_of_cell? _ _ hc)).trans hc
  have HC := Lib.hid (fun W' (h : Keep T W W') => h.cell hc' hnb)
  have HY := Lib.hid hY
  have H0 : Hid (J (partsTo s 0) W) := by rw [Hid, partsTo_zero]; exact h0
  have hw1 : ∀ f, Fence.wide.fn f := fun _ => trivial
  have hw2 : Fence.wide.depth = none := rfl
  clear hW hPr hT hY h0 hc hc' hnb hJ hJx
  refine callsIn_wide (n := 0).1 ?_
  refine callsIn_of_wp Try.func95 rfl trivial ?_ rfl
  simp only [Try.ntmps95, List.size_toArray, List.length_cons, List.length_nil, Nat.reduceAdd, Nat.reduceSub, Array.replicate_succ, Array.replicate_zero, List.push_toArray, List.append_toArray, List.nil_append, List.cons_append]
  gi_wp2
  gi_loopw [3] (fun i wr => ∃ t : Nat, t < 64 ∧ Hid (t &&& s = t) ∧ i = .int .i64 t ∧ Keep T W wr ∧ J (partsTo s t) wr) (fun i _ => 64 - (intOf i).toNat)
  case atStart => exact ⟨0, by omega, by simp [Hid], rfl, Keep.refl _ _, H0.out⟩
  case round =>
    obtain ⟨t, ht, HS, rfl, hb, hj⟩ := hrel
    have HB := Lib.hid hb
    have HJ := Lib.hid hj
    have hsz := hb.size
    have HP := Lib.hid (parts_pre hs ht HS.out)
    have hy0 := HY.out (partsTo s t) t (.int .i64 t) wr HP.out hsz HJ.out rfl (ei_avoid rfl)
    obtain ⟨fn, tmps, assign, body, hy, hR⟩ := hy0
    have HR := Lib.hid hR
    clear hR hb hj
    by_cases he : t = s
    · have HE := Lib.hid he
      have G : ((t : Int) != (s : Int)) = false := by simp [he]
      have G' : ((t : Int) == (s : Int)) = true := by simp [he]
      clear he
      gi_wp2
      refine HR.out.mono ?_
      rintro e W2 ⟨hb2, (⟨rfl, hj2⟩ | ⟨rfl, hj2⟩)⟩
      · have c0 := HC.out W2 (HB.out.trans hb2)
        have HB2 : Hid (Keep T W W2) := HB.out.trans hb2
        have HF : Hid (J (partsL s) W2) := by rw [Hid, ← parts_last hs]; have := hj2; rw [HE.out] at this; exact this
        clear hb2 hj2
        gi_wp2
        go_end0
        exact ⟨⟨_, rfl⟩, HB2.out, Or.inl HF.out⟩
      · have HB2 : Hid (Keep T W W2) := HB.out.trans hb2
        have HN : Hid (Jx (partsTo s t ++ [t]) W2) := hj2
        clear hb2 hj2
        gi_wp2
        go_end0
        exact ⟨⟨_, rfl⟩, HB2.out, Or.inr ⟨_, HP.out, HN.out⟩⟩
    · have G : ((t : Int) != (s : Int)) = true := by simp; omega
      have G' : ((t : Int) == (s : Int)) = false := by simp; omega
      obtain ⟨e1, e2, e3, e4, e5⟩ := parts_next hs ht HS.out he
      have HE1 := Lib.hid e1
      have HE4 : Hid (nextP s t &&& s = nextP s t) := e4
      have HE5 := Lib.hid e5
      clear he e1 e4 e5
      gi_wp2
      refine HR.out.mono ?_
      rintro e W2 ⟨hb2, (⟨rfl, hj2⟩ | ⟨rfl, hj2⟩)⟩
      · have c0 := HC.out W2 (HB.out.trans hb2)
        have HB2 : Hid (Keep T W W2) := HB.out.trans hb2
        have HN : Hid (J (partsTo s (nextP s t)) W2) := by rw [Hid, HE5.out]; exact hj2
        clear hb2 hj2
        gi_wp2
        go_roundw
        case rel => exact ⟨nextP s t, e2, HE4, by rw [HE1.out], HB2.out, HN.out⟩
        case measure => simp [intOf, HE1.out]; omega
      · have HB2 : Hid (Keep T W W2) := HB.out.trans hb2
        have HN : Hid (Jx (partsTo s t ++ [t]) W2) := hj2
        clear hb2 hj2
        gi_wp2
        go_end0
        exact ⟨⟨_, rfl⟩, HB2.out, Or.inr ⟨_, HP.out, HN.out⟩⟩

end Go.Proofs.Ytgednacoeifclaa
