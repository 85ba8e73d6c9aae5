import Derived.Test.YtmbccdjoliegiaaR2
import Derived.Test.YtmbccdjoliegiaaC3
import Derived.Handy
namespace Go.Proofs.Ytmbccdjoliegiaa
open Go.RowKit

/-- Do two creases cross, by the places of their leaves? -/
def crossR (pz : Nat → Int) (p1 q1 p2 q2 : Nat) (s1 s2 : Int) : Bool := (s1 == s2) && (between (pz p1) (pz q1) (pz p2) != between (pz p1) (pz q1) (pz q2))

theorem xor_between (p q r s : Int) : (between p q r != between p q s) = true ↔ ¬ ((min p q < r ∧ r < max p q) ↔ (min p q < s ∧ s < max p q)) := by
  have h : ∀ r, between p q r = true ↔ (min p q < r ∧ r < max p q) := fun r => by simp [between]
  rw [bne_iff_ne, ne_eq, Bool.eq_iff_iff, h, h]

structure RxAt (w wr : World) (p1 q1 p2 q2 : Nat) (s1 s2 : Int) : Prop where
  bel : Below w.heap.size w wr
  b0 : wr.heap[w.heap.size]? = some (.cells #[.int .i64 p1, .int .i64 q1, .int .i64 s1] 80)
  b1 : wr.heap[w.heap.size + 1]? = some (.cells #[.int .i64 p2, .int .i64 q2, .int .i64 s2] 80)

set_option maxHeartbeats 4000000 in
set_option maxRecDepth 100000 in
theorem rcross_any (a : Option Addr) (cap n : Nat) (pz : Nat → Int) (p1 q1 p2 q2 : Nat) (s1 s2 : Int) (w : World) (hn : n ≤ 1000) (h1 : p1 < n) (h2 : q1 < n) (h3 : p2 < n) (h4 : q2 < n) (hc : Ints w a n pz) :
    Calls Try.prog 71 #[.slice a n cap, .agg #[.int .i64 p1, .int .i64 q1, .int .i64 s1], .agg #[.int .i64 p2, .int .i64 q2, .int .i64 s2]] w fun e w' => e = .returned (.bool (crossR pz p1 q1 p2 q2 s1 s2)) ∧ Below w.heap.size w w' := by
  have hb0 : Below w.heap.size w ((w.alloc (.cells #[.int .i64 p1, .int .i64 q1, .int .i64 s1] 80)).alloc (.cells #[.int .i64 p2, .int .i64 q2, .int .i64 s2] 80)) := ((Below.refl _ w).alloc (Nat.le_refl _) _).alloc (by simp) _
  have HB0 := Lib.hid hb0
  by_cases hs : s1 = s2
  · have G1 : (s1 != s2) = false := by simp [hs]
    have HR : Hid (crossR pz p1 q1 p2 q2 s1 s2 = (between (pz p1) (pz q1) (pz p2) != between (pz p1) (pz q1) (pz q2))) := by simp [Hid, crossR, hs]
    obtain ⟨b, o, rfl, c1⟩ := hc p1 h1
    obtain ⟨b', o', he, c2⟩ := hc q1 h2
    cases he
    obtain ⟨b', o', he, c3⟩ := hc p2 h3
    cases he
    obtain ⟨b', o', he, c4⟩ := hc q2 h4
    cases he
    have bl : b < w.heap.size := World.block_lt_of_cell? _ _ c1
    generalize pz p1 = A at *
    generalize pz q1 = B at *
    generalize pz p2 = C at *
    generalize pz q2 = D at *
    have i1 : (p1 : Int) < n := by omega
    have i2 : (q1 : Int) < n := by omega
    have i3 : (p2 : Int) < n := by omega
    have i4 : (q2 : Int) < n := by omega
    have k0 : ∀ w, (Instr.index 27 (.agg #[.int .i64 C, .int .i64 D]) (.int .i64 0)).run Try.prog w = .ok (.int .i64 C) w := fun _ => by kernel_rfl
    have k1 : ∀ w, (Instr.index 27 (.agg #[.int .i64 C, .int .i64 D]) (.int .i64 1)).run Try.prog w = .ok (.int .i64 D) w := fun _ => by kernel_rfl
    clear hc hs hb0
    rcases Int.lt_trichotomy A B with hAB | hAB | hAB
    · have hAB2 : A ≤ B := by omega
      go_enter Try.func71, Try.ntmps71
      go_wp2
      go_quiet (fail)
      go_wp2
      go_quiet (fail)
      go_wp2
      refine wp_loop_rounds 3 ?_
      rw [rounds_succ]
      go_wp2
      all_goals rw [rounds_succ]
      all_goals go_wp2
      all_goals rw [rounds_succ]
      all_goals go_wp2
      all_goals go_ret
      all_goals refine ⟨?_, ⟨rfl, rfl, rfl, HB0.out.size, HB0.out.block⟩⟩
      all_goals
        rw [HR.out]
        refine rb ?_
        rw [Bool.eq_iff_iff, xor_between]
        simp only [decide_eq_true_eq, Bool.false_eq_true, true_iff, false_iff]
        omega
    · subst hAB
      go_enter Try.func71, Try.ntmps71
      go_wp2
      go_quiet (fail)
      go_wp2
      go_quiet (fail)
      go_wp2
      refine wp_loop_rounds 3 ?_
      rw [rounds_succ]
      go_wp2
      all_goals rw [rounds_succ]
      all_goals go_wp2
      all_goals rw [rounds_succ]
      all_goals go_wp2
      all_goals go_ret
      all_goals refine ⟨?_, ⟨rfl, rfl, rfl, HB0.out.size, HB0.out.block⟩⟩
      all_goals
        rw [HR.out]
        refine rb ?_
        rw [Bool.eq_iff_iff, xor_between]
        simp only [decide_eq_true_eq, Bool.false_eq_true, true_iff, false_iff]
        omega
    · have hAB2 : B ≤ A := by omega
      go_enter Try.func71, Try.ntmps71
      go_wp2
      go_quiet (fail)
      go_wp2
      go_quiet (fail)
      go_wp2
      refine wp_loop_rounds 3 ?_
      rw [rounds_succ]
      go_wp2
      all_goals rw [rounds_succ]
      all_goals go_wp2
      all_goals rw [rounds_succ]
      all_goals go_wp2
      all_goals go_ret
      all_goals refine ⟨?_, ⟨rfl, rfl, rfl, HB0.out.size, HB0.out.block⟩⟩
      all_goals
        rw [HR.out]
        refine rb ?_
        rw [Bool.eq_iff_iff, xor_between]
        simp only [decide_eq_true_eq, Bool.false_eq_true, true_iff, false_iff]
        omega
  · have G1 : (s1 != s2) = true := by simp [hs]
    have HR : Hid (crossR pz p1 q1 p2 q2 s1 s2 = false) := by simp [Hid, crossR, hs]
    clear hs hc hb0
    go_enter Try.func71, Try.ntmps71
    go_wp2
    go_ret
    exact ⟨by rw [HR.out]; rfl, HB0.out⟩

end Go.Proofs.Ytmbccdjoliegiaa
