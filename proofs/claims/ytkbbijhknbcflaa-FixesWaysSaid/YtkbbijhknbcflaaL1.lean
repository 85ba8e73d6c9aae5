import Derived.Test.YtkbbijhknbcflaaH1
import Derived.Test.YtkbbijhknbcflaaA5
import Derived.Test.YtkbbijhknbcflaaB3
import Derived.Test.YtkbbijhknbcflaaR2
/-
  The law FixesReaches.
-/
namespace Go.Proofs.Ytkbbijhknbcflaa
open Go.RowKit Go.Shelf

/-- The box of the law's works, and nothing that was there has turned. -/
structure RInv (aN : Option Addr) (n cN : Nat) (aM : Option Addr) (m cM : Nat) (w wr : World) : Prop where
  box : wr.heap[w.heap.size]? = some (.cells #[.slice aN n cN, .slice aM m cM] 24)
  bel : Below w.heap.size w wr
theorem RInv.start (aN : Option Addr) (n cN : Nat) (aM : Option Addr) (m cM : Nat) (w : World) : RInv aN n cN aM m cM w (w.alloc (.cells #[.slice aN n cN, .slice aM m cM] 24)) := ⟨heap_alloc_new w _, below_one _ _⟩
theorem RInv.keep {aN : Option Addr} {n cN : Nat} {aM : Option Addr} {m cM : Nat} {w wr wr' : World} (h : RInv aN n cN aM m cM w wr) (hb : Below wr.heap.size wr wr') : RInv aN n cN aM m cM w wr' :=
  ⟨by rw [hb.block _ (Array.getElem?_eq_some_iff.1 h.box).1]; exact h.box, band h.bel hb⟩
theorem RInv.cells {aN : Option Addr} {n cN : Nat} {aM : Option Addr} {m cM : Nat} {w wr : World} (h : RInv aN n cN aM m cM w wr) : wr.cell? ⟨w.heap.size, 0, none⟩ = some (.slice aN n cN) ∧ wr.cell? ⟨w.heap.size, 1, none⟩ = some (.slice aM m cM) := ⟨block_cell h.box 0, block_cell h.box 1⟩

theorem rvalid_r (r : Bool) (aN : Option Addr) (n cN : Nat) (aM : Option Addr) (m cM : Nat) (T L : Nat → Int) (w : World) (hr : isWk n m T L = r) (hn : n * 8 ≤ 140737488355328) (hm : m * 8 ≤ 140737488355328) (hT : Ints w aN n T) (hL : Ints w aM m L) :
    Calls Try.prog 11 #[wkV aN n cN aM m cM] w fun e w' => SomeB r w e w' := by
  subst hr; exact rvalid_any aN n cN aM m cM T L w hn hm hT hL

set_option maxHeartbeats 4000000 in
set_option maxRecDepth 100000 in
theorem reaches_good (W : World) (aN : Option Addr) (n cN : Nat) (aM : Option Addr) (cM : Nat) (T L : Nat → Int) (hn : n ≤ cN) (hm : n ≤ cM) (hT : Ints W aN n T) (hL : Ints W aM n L) (s : Nat) (hv : isWk n n T L = true) (hs : s < 2 ^ n) :
    Calls Try.prog 3 #[wkV aN n cN aM n cM, .int .i64 (s : Nat)] W fun e W' => SomeB true W e W' := by
  have h6 := (isWk_iff.1 hv).2.1
  have HOf : Hid (∀ W', Below W.heap.size W W' → Calls Try.prog 9 #[wkV aN n cN aM n cM] W' fun e w' => ∃ a1 c1 a2 c2, e = .returned (wkV a1 n c1 a2 n c2) ∧ Ints w' a1 n T ∧ Ints w' a2 n L ∧ Below W'.heap.size W' w') := by
    intro W' hb
    have := of_any aN n cN aM n cM T L W' hn (by omega) hm (by omega) (hT.keep (Nat.le_refl _) hb) (hL.keep (Nat.le_refl _) hb)
    unfold OfOut at this
    rw [show min n 9 = n by omega] at this
    exact this
  have HRe := Lib.hid (fun a1 c1 a2 c2 W' (h1 : Ints W' a1 n T) (h2 : Ints W' a2 n L) => fReach_good a1 n c1 a2 n c2 T L s W' hv hs h1 h2)
  have HAl := Lib.hid (fun a1 c1 a2 c2 W' (h1 : Ints W' a1 n T) (h2 : Ints W' a2 n L) => fAlways_good a1 n c1 a2 n c2 T L s W' hv hs h1 h2)
  have HV := Lib.hid (fun W' (hb : Below W.heap.size W W') => rvalid_r true aN n cN aM n cM T L W' hv (by omega) (by omega) (hT.keep (Nat.le_refl _) hb) (hL.keep (Nat.le_refl _) hb))
  have HSet := Lib.hid (fun W' => rset_any true aN n cN aM n cM (s : Int) W' h6 (decide_eq_true ⟨by omega, by have := Nat.one_le_two_pow (n := n); omega⟩))
  have HRR := Lib.hid (fun W' (hb : Below W.heap.size W W') => rreach_any aN n cN aM cM (nat T) (nat L) s W' ((wk_of hv hT hL).keep (Nat.le_refl _) hb) hs)
  have HRA := Lib.hid (fun W' (hb : Below W.heap.size W W') => ralways_any aN n cN aM cM (nat T) (nat L) s W' ((wk_of hv hT hL).keep (Nat.le_refl _) hb) hs)
  rw [reach_is hs] at HRR
  rw [always_is hs] at HRA
  generalize fixp false n (reF n (nat T) s) = X at *
  generalize fixp true n (stF n (nat T) s) = Y at *
  clear hn hm hT hL hv hs
  have HI0 := Lib.hid (RInv.start aN n cN aM n cM W)
  obtain ⟨q0, q1⟩ := HI0.out.cells
  go_enter Try.func3, Try.ntmps3
  go_wp2_with fail
  refine (HOf.out _ HI0.out.bel).mono ?_
  rintro e w1 ⟨a1, c1, a2, c2, rfl, k1, k2, hb⟩
  have H1 := Lib.hid (HRe.out a1 c1 a2 c2 _ k1 k2)
  have HI1 := Lib.hid (HI0.out.keep hb)
  clear hb q0 q1 k1 k2
  obtain ⟨q0, q1⟩ := HI1.out.cells
  go_wp2_with fail
  refine (H1.out).mono ?_
  rintro e w2 ⟨rfl, hb⟩
  have HI2 := Lib.hid (HI1.out.keep hb)
  clear hb q0 q1
  obtain ⟨q0, q1⟩ := HI2.out.cells
  go_wp2_with fail
  refine (HOf.out _ HI2.out.bel).mono ?_
  rintro e w3 ⟨a3, c3, a4, c4, rfl, k3, k4, hb⟩
  have H2 := Lib.hid (HAl.out a3 c3 a4 c4 _ k3 k4)
  have HI3 := Lib.hid (HI2.out.keep hb)
  clear hb q0 q1 k3 k4
  obtain ⟨q0, q1⟩ := HI3.out.cells
  go_wp2_with fail
  refine (H2.out).mono ?_
  rintro e w4 ⟨rfl, hb⟩
  have HI4 := Lib.hid (HI3.out.keep hb)
  clear hb q0 q1
  obtain ⟨q0, q1⟩ := HI4.out.cells
  go_wp2_with fail
  refine (HV.out _ HI4.out.bel).mono ?_
  rintro e w5 ⟨rfl, hb⟩
  have HI5 := Lib.hid (HI4.out.keep hb)
  clear hb q0 q1
  obtain ⟨q0, q1⟩ := HI5.out.cells
  go_wp2_with fail
  refine (HSet.out _).mono ?_
  rintro e w6 ⟨rfl, hb⟩
  have HI6 := Lib.hid (HI5.out.keep hb)
  clear hb q0 q1
  obtain ⟨q0, q1⟩ := HI6.out.cells
  go_wp2_with fail
  refine (HRR.out _ HI6.out.bel).mono ?_
  rintro e w7 ⟨rfl, hb⟩
  have HI7 := Lib.hid (HI6.out.keep hb)
  clear hb q0 q1
  obtain ⟨q0, q1⟩ := HI7.out.cells
  go_wp2_with fail
  refine (HRA.out _ HI7.out.bel).mono ?_
  rintro e w8 ⟨rfl, hb⟩
  have HI8 := Lib.hid (HI7.out.keep hb)
  clear hb q0 q1
  obtain ⟨q0, q1⟩ := HI8.out.cells
  go_wp2_with fail
  refine (awake_any _).mono ?_
  rintro e w9 ⟨rfl, hb⟩
  have HI9 := Lib.hid (HI8.out.keep hb)
  clear hb q0 q1
  obtain ⟨q0, q1⟩ := HI9.out.cells
  go_wp2
  go_ret
  exact ⟨rfl, HI9.out.bel⟩

set_option maxHeartbeats 4000000 in
set_option maxRecDepth 100000 in
theorem reaches_bad (W : World) (aN : Option Addr) (n cN : Nat) (aM : Option Addr) (m cM : Nat) (T L : Nat → Int) (hn : n ≤ cN) (hn8 : n * 8 ≤ 140737488355328) (hm : m ≤ cM) (hm8 : m * 8 ≤ 140737488355328) (hT : Ints W aN n T) (hL : Ints W aM m L) (z : Int)
    (hbad : isWk n m T L = false ∨ ¬ (0 ≤ z ∧ z ≤ ((2 ^ n - 1 : Nat) : Int))) :
    Calls Try.prog 3 #[wkV aN n cN aM m cM, .int .i64 z] W fun e W' => SomeB true W e W' := by
  have HOf : Hid (∀ W', Below W.heap.size W W' → Calls Try.prog 9 #[wkV aN n cN aM m cM] W' fun e w' => ∃ a1 c1 a2 c2, e = .returned (wkV a1 (min n 9) c1 a2 (min m 9) c2) ∧ Ints w' a1 (min n 9) T ∧ Ints w' a2 (min m 9) L ∧ Below W'.heap.size W' w') :=
    fun W' hb => of_any aN n cN aM m cM T L W' hn hn8 hm hm8 (hT.keep (Nat.le_refl _) hb) (hL.keep (Nat.le_refl _) hb)
  have hbad' : isWk (min n 9) (min m 9) T L = false ∨ ¬ (0 ≤ z ∧ z ≤ ((2 ^ (min n 9) - 1 : Nat) : Int)) := by
    rw [isWk_cut]
    cases hv : isWk n m T L
    · exact Or.inl rfl
    · rw [hv] at hbad
      have := (isWk_iff.1 hv).2.1
      rw [show min n 9 = n by omega]
      exact hbad
  have HRe := Lib.hid (fun a1 c1 a2 c2 W' (h1 : Ints W' a1 (min n 9) T) (h2 : Ints W' a2 (min m 9) L) => fReach_bad a1 (min n 9) c1 a2 (min m 9) c2 T L z W' (by omega) (by omega) hbad' h1 h2)
  have HAl := Lib.hid (fun a1 c1 a2 c2 W' (h1 : Ints W' a1 (min n 9) T) (h2 : Ints W' a2 (min m 9) L) => fAlways_bad a1 (min n 9) c1 a2 (min m 9) c2 T L z W' (by omega) (by omega) hbad' h1 h2)
  generalize min n 9 = n9 at *
  generalize min m 9 = m9 at *
  cases hv : isWk n m T L
  · have HV := Lib.hid (fun W' (hb : Below W.heap.size W W') => rvalid_r false aN n cN aM m cM T L W' hv hn8 hm8 (hT.keep (Nat.le_refl _) hb) (hL.keep (Nat.le_refl _) hb))
    clear hn hm hT hL hv hbad hbad'
    have HI0 := Lib.hid (RInv.start aN n cN aM m cM W)
    obtain ⟨q0, q1⟩ := HI0.out.cells
    go_enter Try.func3, Try.ntmps3
    go_wp2_with fail
    refine (HOf.out _ HI0.out.bel).mono ?_
    rintro e w1 ⟨a1, c1, a2, c2, rfl, k1, k2, hb⟩
    have H1 := Lib.hid (HRe.out a1 c1 a2 c2 _ k1 k2)
    have HI1 := Lib.hid (HI0.out.keep hb)
    clear hb q0 q1 k1 k2
    obtain ⟨q0, q1⟩ := HI1.out.cells
    go_wp2_with fail
    refine (H1.out).mono ?_
    rintro e w2 ⟨rfl, hb⟩
    have HI2 := Lib.hid (HI1.out.keep hb)
    clear hb q0 q1
    obtain ⟨q0, q1⟩ := HI2.out.cells
    go_wp2_with fail
    refine (HOf.out _ HI2.out.bel).mono ?_
    rintro e w3 ⟨a3, c3, a4, c4, rfl, k3, k4, hb⟩
    have H2 := Lib.hid (HAl.out a3 c3 a4 c4 _ k3 k4)
    have HI3 := Lib.hid (HI2.out.keep hb)
    clear hb q0 q1 k3 k4
    obtain ⟨q0, q1⟩ := HI3.out.cells
    go_wp2_with fail
    refine (H2.out).mono ?_
    rintro e w4 ⟨rfl, hb⟩
    have HI4 := Lib.hid (HI3.out.keep hb)
    clear hb q0 q1
    obtain ⟨q0, q1⟩ := HI4.out.cells
    go_wp2_with fail
    refine (HV.out _ HI4.out.bel).mono ?_
    rintro e w5 ⟨rfl, hb⟩
    have HI5 := Lib.hid (HI4.out.keep hb)
    clear hb q0 q1
    obtain ⟨q0, q1⟩ := HI5.out.cells
    go_wp2_with fail
    refine (awake_any _).mono ?_
    rintro e w6 ⟨rfl, hb⟩
    have HI6 := Lib.hid (HI5.out.keep hb)
    clear hb q0 q1
    obtain ⟨q0, q1⟩ := HI6.out.cells
    go_wp2
    go_ret
    exact ⟨rfl, HI6.out.bel⟩
  · have hz : ¬ (0 ≤ z ∧ z ≤ ((2 ^ n - 1 : Nat) : Int)) := hbad.resolve_left (by rw [hv]; decide)
    have HV := Lib.hid (fun W' (hb : Below W.heap.size W W') => rvalid_r true aN n cN aM m cM T L W' hv hn8 hm8 (hT.keep (Nat.le_refl _) hb) (hL.keep (Nat.le_refl _) hb))
    have HSet := Lib.hid (fun W' => rset_any false aN n cN aM m cM z W' (isWk_iff.1 hv).2.1 (decide_eq_false hz))
    clear hn hm hT hL hv hbad hbad' hz
    have HI0 := Lib.hid (RInv.start aN n cN aM m cM W)
    obtain ⟨q0, q1⟩ := HI0.out.cells
    go_enter Try.func3, Try.ntmps3
    go_wp2_with fail
    refine (HOf.out _ HI0.out.bel).mono ?_
    rintro e w1 ⟨a1, c1, a2, c2, rfl, k1, k2, hb⟩
    have H1 := Lib.hid (HRe.out a1 c1 a2 c2 _ k1 k2)
    have HI1 := Lib.hid (HI0.out.keep hb)
    clear hb q0 q1 k1 k2
    obtain ⟨q0, q1⟩ := HI1.out.cells
    go_wp2_with fail
    refine (H1.out).mono ?_
    rintro e w2 ⟨rfl, hb⟩
    have HI2 := Lib.hid (HI1.out.keep hb)
    clear hb q0 q1
    obtain ⟨q0, q1⟩ := HI2.out.cells
    go_wp2_with fail
    refine (HOf.out _ HI2.out.bel).mono ?_
    rintro e w3 ⟨a3, c3, a4, c4, rfl, k3, k4, hb⟩
    have H2 := Lib.hid (HAl.out a3 c3 a4 c4 _ k3 k4)
    have HI3 := Lib.hid (HI2.out.keep hb)
    clear hb q0 q1 k3 k4
    obtain ⟨q0, q1⟩ := HI3.out.cells
    go_wp2_with fail
    refine (H2.out).mono ?_
    rintro e w4 ⟨rfl, hb⟩
    have HI4 := Lib.hid (HI3.out.keep hb)
    clear hb q0 q1
    obtain ⟨q0, q1⟩ := HI4.out.cells
    go_wp2_with fail
    refine (HV.out _ HI4.out.bel).mono ?_
    rintro e w5 ⟨rfl, hb⟩
    have HI5 := Lib.hid (HI4.out.keep hb)
    clear hb q0 q1
    obtain ⟨q0, q1⟩ := HI5.out.cells
    go_wp2_with fail
    refine (HSet.out _).mono ?_
    rintro e w6 ⟨rfl, hb⟩
    have HI6 := Lib.hid (HI5.out.keep hb)
    clear hb q0 q1
    obtain ⟨q0, q1⟩ := HI6.out.cells
    go_wp2_with fail
    refine (awake_any _).mono ?_
    rintro e w7 ⟨rfl, hb⟩
    have HI7 := Lib.hid (HI6.out.keep hb)
    clear hb q0 q1
    obtain ⟨q0, q1⟩ := HI7.out.cells
    go_wp2
    go_ret
    exact ⟨rfl, HI7.out.bel⟩

theorem reaches_core (W : World) (aN : Option Addr) (n cN : Nat) (aM : Option Addr) (m cM : Nat) (T L : Nat → Int) (hn : n ≤ cN) (hn8 : n * 8 ≤ 140737488355328) (hm : m ≤ cM) (hm8 : m * 8 ≤ 140737488355328) (hT : Ints W aN n T) (hL : Ints W aM m L) (z : Int)
    (_ : -9223372036854775808 ≤ z ∧ z ≤ 9223372036854775807) :
    Calls Try.prog 3 #[wkV aN n cN aM m cM, .int .i64 z] W fun e W' => SomeB true W e W' := by
  by_cases hv : isWk n m T L = true
  · by_cases hz : 0 ≤ z ∧ z ≤ ((2 ^ n - 1 : Nat) : Int)
    · obtain rfl := (isWk_iff.1 hv).2.2.1
      have hp := Nat.one_le_two_pow (n := m)
      have := reaches_good W aN m cN aM cM T L hn hm hT hL z.toNat hv (by omega)
      rw [show ((z.toNat : Nat) : Int) = z by omega] at this
      exact this
    · exact reaches_bad W aN n cN aM m cM T L hn hn8 hm hm8 hT hL z (Or.inr hz)
  · exact reaches_bad W aN n cN aM m cM T L hn hn8 hm hm8 hT hL z (Or.inl (by simpa using hv))
end Go.Proofs.Ytkbbijhknbcflaa
