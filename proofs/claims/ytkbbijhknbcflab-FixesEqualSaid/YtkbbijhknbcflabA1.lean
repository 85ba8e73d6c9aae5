import Derived.Test.YtkbbijhknbcflabProg
import Derived.Test.YtkbbijhknbcflabMem
import Derived.Test.YtkbbijhknbcflabMath4
import Derived.Laws.BitsLemmas
import Derived.WalkSpells
import Derived.WalkLawsBesides
import Derived.BigQuiet
import Derived.Deep.QuietTactic
/-
  Sets as numbers in the program: all, isSet, has, before, marked.
-/
namespace Go.Proofs.Ytkbbijhknbcflab
open Go.RowKit

abbrev wkV (aN : Option Addr) (n cN : Nat) (aM : Option Addr) (m cM : Nat) : Value := .agg #[.slice aN n cN, .slice aM m cM]

theorem wraps_i64 (n : Int) (h0 : 0 ≤ n) (h1 : n < 2 ^ 62) : IntKind.i64.wrap n = n := by
  have e : (2 : Int) ^ 62 = 4611686018427387904 := by decide
  rw [e] at h1
  exact IntWalk.i64_in _ (by omega)
theorem band_nat (a b : Nat) (ha : a < 2 ^ 62) (hb : b < 2 ^ 62) : bits .and .i64 (a : Int) (b : Int) = ((a &&& b : Nat) : Int) := (bits_nat .i64 62 (by decide) wraps_i64 a b ha hb).1
theorem bor_nat (a b : Nat) (ha : a < 2 ^ 62) (hb : b < 2 ^ 62) : bits .or .i64 (a : Int) (b : Int) = ((a ||| b : Nat) : Int) := (bits_nat .i64 62 (by decide) wraps_i64 a b ha hb).2
theorem andNot_all : (List.range 64).all (fun s => (List.range 64).all fun t => bits .andNot .i64 (s : Int) (t : Int) == ((sdf s t : Nat) : Int)) = true := by decide +kernel
theorem andNot_nat {s t : Nat} (hs : s < 64) (ht : t < 64) : bits .andNot .i64 (s : Int) (t : Int) = ((sdf s t : Nat) : Int) := by
  have := List.all_eq_true.1 (List.all_eq_true.1 andNot_all s (List.mem_range.2 hs)) t (List.mem_range.2 ht)
  simpa using this
theorem bit_at (M y : Nat) (hM : M < 2 ^ 62) : (bits BinOp.and IntKind.i64 ((M : Int) / 2 ^ y) 1 == 1) = M.testBit y := by
  have e : ((M : Int) / 2 ^ y) = ((M / 2 ^ y : Nat) : Int) := by simp
  have h1 : M / 2 ^ y < 2 ^ 62 := Nat.lt_of_le_of_lt (Nat.div_le_self _ _) hM
  rw [e, show (1 : Int) = ((1 : Nat) : Int) from rfl, band_nat _ 1 h1 (by decide), Nat.and_one_is_mod]
  rw [Nat.testBit, Nat.shiftRight_eq_div_pow, Nat.and_comm, Nat.and_one_is_mod]
  rw [Bool.eq_iff_iff]
  simp
  omega
theorem two_le6 {n : Nat} (h : n ≤ 6) : 2 ^ n ≤ 64 := Nat.pow_le_pow_right (by decide : 0 < 2) h
theorem lt64 {s n : Nat} (hs : s < 2 ^ n) (hn : n ≤ 6) : s < 64 := Nat.lt_of_lt_of_le hs (two_le6 hn)
theorem pow_int (n : Nat) : ((2 ^ n : Nat) : Int) = (2 : Int) ^ n := by simp
theorem wrap_two {n : Nat} (h : n ≤ 9) : wrap64 ((2 : Int) ^ n) = ((2 ^ n : Nat) : Int) := by
  have : 2 ^ n ≤ 2 ^ 9 := Nat.pow_le_pow_right (by decide : 0 < 2) h
  rw [← pow_int]
  generalize 2 ^ n = x at this ⊢
  have h9 : (2 : Nat) ^ 9 = 512 := by decide
  exact IntWalk.wrap64_in _ ⟨by omega, by omega⟩
theorem wrap_full {n : Nat} (h : n ≤ 9) : wrap64 (wrap64 ((2 : Int) ^ n) - 1) = ((2 ^ n - 1 : Nat) : Int) := by
  have h1 : 2 ^ n ≤ 2 ^ 9 := Nat.pow_le_pow_right (by decide : 0 < 2) h
  have h2 : 1 ≤ 2 ^ n := Nat.one_le_two_pow
  rw [wrap_two h]
  have h9 : (2 : Nat) ^ 9 = 512 := by decide
  generalize 2 ^ n = x at h1 h2 ⊢
  have e : (x : Int) - 1 = ((x - 1 : Nat) : Int) := by omega
  rw [e]
  exact IntWalk.wrap64_in _ ⟨by omega, by omega⟩
theorem below_one (w : World) (o : Obj) : Below w.heap.size w (w.alloc o) := (Below.refl _ w).alloc (Nat.le_refl _) _
theorem below_two (w : World) (o1 o2 : Obj) : Below w.heap.size w ((w.alloc o1).alloc o2) := ((Below.refl _ w).alloc (Nat.le_refl _) _).alloc (by simp) _
theorem band {a b c : World} (h : Below a.heap.size a b) (k : Below b.heap.size b c) : Below a.heap.size a c := h.trans (k.mono h.size)

set_option maxHeartbeats 1000000 in
theorem all_any (aN : Option Addr) (n cN : Nat) (aM : Option Addr) (m cM : Nat) (w : World) (hn : n ≤ 9) :
    Calls Try.prog 32 #[wkV aN n cN aM m cM] w fun e w' => e = .returned (.int .i64 ((2 ^ n - 1 : Nat) : Int)) ∧ Below w.heap.size w w' := by
  have hw := Lib.hid (wrap_full hn)
  go_enter Try.func32, Try.ntmps32
  go_wp2
  go_ret
  exact ⟨by rw [← hw.out]; rfl, below_one _ _⟩

set_option maxHeartbeats 1000000 in
theorem isSet_any (r : Bool) (aN : Option Addr) (n cN : Nat) (aM : Option Addr) (m cM : Nat) (x : Int) (w : World) (hn : n ≤ 9) (hr : decide (0 ≤ x ∧ x ≤ ((2 ^ n - 1 : Nat) : Int)) = r) :
    Calls Try.prog 29 #[wkV aN n cN aM m cM, .int .i64 x] w fun e w' => e = .returned (.bool r) ∧ Below w.heap.size w w' := by
  have HA := Lib.hid (all_any aN n cN aM m cM (w.alloc (.cells #[.slice aN n cN, .slice aM m cM] 33)) hn)
  have HB := Lib.hid (below_one w (.cells #[.slice aN n cN, .slice aM m cM] 33))
  by_cases h0 : 0 ≤ x
  · by_cases h1 : x ≤ ((2 ^ n - 1 : Nat) : Int)
    · obtain rfl : true = r := by rw [← hr]; exact (decide_eq_true ⟨h0, h1⟩).symm
      clear hr
      go_enter Try.func29, Try.ntmps29
      go_wp2_with fail
      refine HA.out.mono ?_
      rintro e w1 ⟨rfl, hb⟩
      have HB1 := Lib.hid (band HB.out hb)
      clear hb
      go_wp2
      go_ret
      exact ⟨rfl, HB1.out⟩
    · have HD : Hid (decide (x ≤ ((2 ^ n - 1 : Nat) : Int)) = false) := decide_eq_false h1
      obtain rfl : false = r := by rw [← hr]; exact (decide_eq_false fun h => h1 h.2).symm
      clear hr
      go_enter Try.func29, Try.ntmps29
      go_wp2_with fail
      refine HA.out.mono ?_
      rintro e w1 ⟨rfl, hb⟩
      have HB1 := Lib.hid (band HB.out hb)
      clear hb
      go_wp2
      go_ret
      exact ⟨congrArg (fun b => Ending.returned (.bool b)) HD.out, HB1.out⟩
  · obtain rfl : false = r := by rw [← hr]; exact (decide_eq_false fun h => h0 h.1).symm
    clear hr
    go_enter Try.func29, Try.ntmps29
    go_wp2
    go_ret
    exact ⟨rfl, HB.out⟩

set_option maxHeartbeats 1000000 in
theorem has_r (r : Bool) (s y : Nat) (w : World) (hs : s < 2 ^ 62) (hy : y ≤ 60) (hr : s.testBit y = r) :
    Calls Try.prog 51 #[.int .i64 s, .int .i64 y] w fun e w' => e = .returned (.bool r) ∧ w = w' := by
  have B := bit_at s y hs
  rw [hr] at B
  clear hr hs
  go_enter Try.func51, Try.ntmps51
  go_wp2
  go_ret
  exact ⟨rfl, rfl⟩
end Go.Proofs.Ytkbbijhknbcflab
