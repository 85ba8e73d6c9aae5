import Derived.Test.YtgednacoeifclaaB2
import Derived.Test.YtgednacoeifclaaI1
import Derived.Laws.BitsLemmas
import Derived.RangeFuncNested
import Derived.RangeFuncBound
import Derived.RangeFuncCalls
import Derived.RangeFuncLeaves
import Derived.Shelf.Abstract
import Derived.Shelf.RegionOpen
import Derived.OwnWalkIn
import Derived.TacticsInMore
import Derived.LoopNIn
import Derived.LoopIn
/-
  Sets as numbers; the iterators over the kinds of a set and over its parts.
-/
namespace Go.Proofs.Ytgednacoeifclaa
open Go.RowKit Go.Shelf

attribute [local go_sem] Oper.semAt_some

theorem wraps_i64 (n : Int) (h0 : 0 ≤ n) (h1 : n < 2 ^ 62) : IntKind.i64.wrap n = n := by
  have e : (2 : Int) ^ 62 = 4611686018427387904 := by decide
  rw [e] at h1
  exact IntWalk.i64_in _ (by omega)

theorem band_nat (a b : Nat) (ha : a < 2 ^ 62) (hb : b < 2 ^ 62) : bits .and .i64 (a : Int) (b : Int) = ((a &&& b : Nat) : Int) := (bits_nat .i64 62 (by decide) wraps_i64 a b ha hb).1
theorem bor_nat (a b : Nat) (ha : a < 2 ^ 62) (hb : b < 2 ^ 62) : bits .or .i64 (a : Int) (b : Int) = ((a ||| b : Nat) : Int) := (bits_nat .i64 62 (by decide) wraps_i64 a b ha hb).2

/-- Is bit y set? -/
theorem bit_at (M y : Nat) (hM : M < 2 ^ 62) : (bits BinOp.and IntKind.i64 ((M : Int) / 2 ^ y) 1 == 1) = M.testBit y := by
  have e : ((M : Int) / 2 ^ y) = ((M / 2 ^ y : Nat) : Int) := by simp
  have h1 : M / 2 ^ y < 2 ^ 62 := Nat.lt_of_le_of_lt (Nat.div_le_self _ _) hM
  rw [e, show (1 : Int) = ((1 : Nat) : Int) from rfl, band_nat _ 1 h1 (by decide), Nat.and_one_is_mod]
  rw [Nat.testBit, Nat.shiftRight_eq_div_pow, Nat.and_comm, Nat.and_one_is_mod]
  rw [Bool.eq_iff_iff]
  simp
  omega

set_option maxHeartbeats 1000000 in
theorem has_r (r : Bool) (s y : Nat) (w : World) (hs : s < 2 ^ 62) (hy : y ≤ 60) (hr : s.testBit y = r) :
    Calls Try.prog 51 #[.int .i64 s, .int .i64 y] w fun e w' => e = .returned (.bool r) ∧ w = w' := by
  have B := bit_at s y hs
  rw [hr] at B
  clear hr hs
  go_enter Try.func51, Try.ntmps51
  go_wp2
  go_ret
  exact ⟨rfl, rfl⟩

/-- The kinds of a set, those below k. -/
def kindsTo (s k : Nat) : List Nat := (List.range k).filter fun i => s.testBit i
def kindsL (s : Nat) : List Nat := kindsTo s 6
theorem kindsTo_yes {s k : Nat} (h : s.testBit k = true) : kindsTo s (k + 1) = kindsTo s k ++ [k] := by simp [kindsTo, List.range_succ, h]
theorem kindsTo_no {s k : Nat} (h : s.testBit k = false) : kindsTo s (k + 1) = kindsTo s k := by simp [kindsTo, List.range_succ, h]
theorem kindsTo_le {s k m : Nat} (h : k ≤ m) : kindsTo s k <+: kindsTo s m := by
  induction m with
  | zero => have : k = 0 := by omega
            subst this; exact List.prefix_refl _
  | succ m ih =>
    by_cases e : k = m + 1
    · subst e; exact List.prefix_refl _
    · refine (ih (by omega)).trans ?_
      cases hm : s.testBit m
      · rw [kindsTo_no hm]; exact List.prefix_refl _
      · rw [kindsTo_yes hm]; exact List.prefix_append _ _

/-- A number that an iterator hands over. -/
def EI (x : Nat) (v : Value) (_ : World) : Prop := v = .int .i64 x
theorem ei_own (B : Nat) (x : Nat) (v : Value) : OwnFrom B (fun (_ : Unit) W => EI x v W) := fun _ _ _ _ h _ _ => h
theorem ei_avoid {T : Nat → Prop} {x : Nat} {v : Value} (h : v = .int .i64 x) : Avoid T v := by
  subst h; intro b o s n c h; cases h

theorem kinds_any (s : Int) (w : World) :
    Calls Try.prog 79 #[.int .i64 s] w fun e w' => e = .returned (.func (.func 94) #[] #[.pointer (some ⟨w.heap.size, 0, none⟩)]) ∧ w' = w.alloc (.cells #[.int .i64 s] 3) := by
  go_enter Try.func79, Try.ntmps79
  go_wp2
  go_ret
  exact ⟨rfl, rfl⟩

set_option maxRecDepth 100000 in
set_option maxHeartbeats 4000000 in
theorem kinds_iter (s : Nat) (hs : s < 64) (b : Nat) (w0 : World) (hc : w0.cell? ⟨b, 0, none⟩ = some (.int .i64 s)) :
    Iter Try.prog 94 #[.pointer (some ⟨b, 0, none⟩)] EI (fun k => k = b) (kindsL s) w0 := by
  intro T l J Jx W hW hPr hT hJ hJx hY h0
  have hnb : ¬ T b := hPr b rfl
  have hc' : W.cell? ⟨b, 0, none⟩ = some (.int .i64 s) := (hW.cell (p := ⟨b, 0, none⟩) (World.block_lt_of_cell? _ _ hc)).trans hc
  have HC := Lib.hid (fun W' (h : Keep T W W') => h.cell hc' hnb)
  have HY := Lib.hid hY
  have H0 := Lib.hid h0
  have hw1 : ∀ f, Fence.wide.fn f := fun _ => trivial
  have hw2 : Fence.wide.depth = none := rfl
  have hs62 : s < 2 ^ 62 := Nat.lt_of_lt_of_le hs (by decide)
  clear hW hPr hT hY h0 hc hc' hnb hJ hJx
  refine callsIn_wide (n := 0).1 ?_
  refine callsIn_of_wp Try.func94 rfl trivial ?_ rfl
  simp only [Try.ntmps94, List.size_toArray, List.length_cons, List.length_nil, Nat.reduceAdd, Nat.reduceSub, Array.replicate_succ, Array.replicate_zero, List.push_toArray, List.append_toArray, List.nil_append, List.cons_append]
  gi_wp2
  gi_loopw [4] (fun i wr => ∃ k : Nat, k ≤ 6 ∧ i = .int .i64 k ∧ Keep T W wr ∧ J (kindsTo s k) wr) (fun i _ => 6 - (intOf i).toNat)
  case atStart => exact ⟨0, Nat.zero_le _, rfl, Keep.refl _ _, H0.out⟩
  case round =>
    obtain ⟨k, hk, rfl, hb, hj⟩ := hrel
    have HB := Lib.hid hb
    have HJ := Lib.hid hj
    have c0 := HC.out wr hb
    have hsz := hb.size
    clear hb hj
    by_cases hlt : k < 6
    · have hk60 : k ≤ 60 := by omega
      cases hbit : s.testBit k
      · have HE := Lib.hid hbit
        have HN : Hid (J (kindsTo s (k + 1)) wr) := by rw [Hid, kindsTo_no hbit]; exact HJ.out
        clear hbit
        gi_wp2_with (gi_at_call 51; refine (callsIn_wide.2 (has_r false s k _ hs62 hk60 HE.out)).mono ?_; rintro e w' ⟨rfl, rfl⟩)
        go_roundw
        case rel => exact ⟨k + 1, by omega, by go_num, HB.out, HN.out⟩
        case measure => simp [intOf]; omega
      · have HE := Lib.hid hbit
        have HP : Hid (kindsTo s k ++ [k] <+: kindsL s) := by rw [Hid, ← kindsTo_yes hbit]; exact kindsTo_le (by omega)
        have hy0 := HY.out (kindsTo s k) k (.int .i64 k) wr HP.out hsz HJ.out rfl (ei_avoid rfl)
        obtain ⟨fn, tmps, assign, body, hy, hR⟩ := hy0
        have HR := Lib.hid hR
        clear hR hbit
        gi_wp2_with (gi_at_call 51; refine (callsIn_wide.2 (has_r true s k _ hs62 hk60 HE.out)).mono ?_; rintro e w' ⟨rfl, rfl⟩)
        refine HR.out.mono ?_
        rintro e W2 ⟨hb2, (⟨rfl, hj2⟩ | ⟨rfl, hj2⟩)⟩
        · have HB2 : Hid (Keep T W W2) := HB.out.trans hb2
          have HN : Hid (J (kindsTo s (k + 1)) W2) := by rw [Hid, kindsTo_yes HE.out]; exact hj2
          clear hb2 hj2
          gi_wp2
          go_roundw
          case rel => exact ⟨k + 1, by omega, by go_num, HB2.out, HN.out⟩
          case measure => simp [intOf]; omega
        · have HB2 : Hid (Keep T W W2) := HB.out.trans hb2
          have HN : Hid (Jx (kindsTo s k ++ [k]) W2) := hj2
          clear hb2 hj2
          gi_wp2
          exact bodyPost_ret (results_none rfl _ _ _) rfl ⟨⟨_, rfl⟩, HB2.out, Or.inr ⟨_, HP.out, HN.out⟩⟩
    · have e : k = 6 := by omega
      have HF : Hid (J (kindsL s) wr) := by rw [Hid, kindsL, ← e]; exact HJ.out
      have hge : (6 : Int) ≤ k := by omega
      clear e
      gi_wp2
      go_end0
      exact ⟨⟨_, rfl⟩, HB.out, Or.inl HF.out⟩

/-- The parts of a set, rising. -/
def partsL (s : Nat) : List Nat := (List.range 64).filter fun t => t &&& s == t
/-- The part behind another one. -/
def nextP (s t : Nat) : Nat := ((List.range 64).filter fun u => u &&& s == u && decide (t < u)).headD 0
/-- The parts up to one of them. -/
def partsTo (s t : Nat) : List Nat := (List.range 64).filter fun u => u &&& s == u && decide (u < t)
/-- One step of the iterator over the parts, for all sets. -/
def stepB (s t : Nat) : Bool :=
  !(t &&& s == t) || ((partsTo s t ++ [t]).isPrefixOf (partsL s) &&
    (t == s || (bits .and .i64 ((t : Int) - s) s == ((nextP s t : Nat) : Int) && decide (nextP s t < 64) && decide (t < nextP s t) && (nextP s t &&& s == nextP s t) && partsTo s (nextP s t) == partsTo s t ++ [t])))
theorem step_all : (List.range 64).all (fun s => (List.range 64).all (stepB s)) = true := by decide +kernel
theorem last_all : (List.range 64).all (fun s => partsTo s s ++ [s] == partsL s) = true := by decide +kernel
theorem step_at {s t : Nat} (hs : s < 64) (ht : t < 64) (_h : t &&& s = t) : stepB s t = true :=
  List.all_eq_true.1 (List.all_eq_true.1 step_all s (List.mem_range.2 hs)) t (List.mem_range.2 ht)
theorem parts_pre {s t : Nat} (hs : s < 64) (ht : t < 64) (h : t &&& s = t) : partsTo s t ++ [t] <+: partsL s := by
  have := step_at hs ht h
  simp only [stepB, h, beq_self_eq_true, Bool.not_true, Bool.false_or, Bool.and_eq_true, List.isPrefixOf_iff_prefix] at this
  exact this.1
theorem parts_next {s t : Nat} (hs : s < 64) (ht : t < 64) (h : t &&& s = t) (hne : t ≠ s) :
    bits .and .i64 ((t : Int) - s) s = ((nextP s t : Nat) : Int) ∧ nextP s t < 64 ∧ t < nextP s t ∧ nextP s t &&& s = nextP s t ∧ partsTo s (nextP s t) = partsTo s t ++ [t] := by
  have := step_at hs ht h
  have hb : (t == s) = false := by simpa using hne
  simp only [stepB, h, hb, beq_self_eq_true, Bool.not_true, Bool.false_or, Bool.and_eq_true, decide_eq_true_eq, beq_iff_eq] at this
  obtain ⟨_, ⟨⟨⟨h1, h2⟩, h3⟩, h4⟩, h5⟩ := this
  exact ⟨h1, h2, h3, h4, h5⟩
theorem parts_last {s : Nat} (hs : s < 64) : partsTo s s ++ [s] = partsL s := by
  simpa using List.all_eq_true.1 last_all s (List.mem_range.2 hs)

end Go.Proofs.Ytgednacoeifclaa
