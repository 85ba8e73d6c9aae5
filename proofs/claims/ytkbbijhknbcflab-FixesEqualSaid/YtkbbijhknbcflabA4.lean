import Derived.Test.YtkbbijhknbcflabA3
namespace Go.Proofs.Ytkbbijhknbcflab
open Go.RowKit

theorem Try.info3 : (Try.prog.info? 3).map (fun i => (i.zero, i.size, i.bytes)) = some (some (.int .i64 0), 1, 8) := by kernel_rfl
theorem Try.info22 : (Try.prog.info? 22).map (fun i => (i.zero, i.size, i.bytes)) = some (some (.slice none 0 0), 1, 24) := by kernel_rfl

theorem Try.eqlnil (w : World) (a : Option Addr) (n c n' c' : Nat) : (binOp .eql 22 (.slice a n c) (.slice none n' c')).run Try.prog w = .ok (.bool a.isNone) w :=
  Lib.run_eql_slice_nil w _ _ a n c n' c' Try.underlying22

set_option maxHeartbeats 1000000 in
theorem clone_any (a : Option Addr) (cap n : Nat) (z : Nat → Int) (w : World) (hs : n * 8 ≤ 140737488355328) (hc : Ints w a n z) :
    Calls Try.prog 30 #[.slice a n cap] w fun e w' => ∃ a' cap', e = .returned (.slice a' n cap') ∧ Own w' w.heap.size a' n cap' z ∧ Below w.heap.size w w' := by
  have q := Try.eqlnil
  cases a with
  | none =>
    have := hc.nil
    subst this
    go_enter Try.func30, Try.ntmps30
    go_wp2
    go_ret
    exact ⟨none, 0, rfl, World.ownsRow_nil _ _ _ _, Below.refl _ _⟩
  | some ad =>
    obtain ⟨i0, hi, hz0, hz1, hz2⟩ := info_parts Try.info3
    have hnews := Lib.hid (Ints.keep hc (Nat.le_refl _) ((Below.refl w.heap.size w).alloc (Nat.le_refl _) (.cells #[] 3))).news
    clear hc
    go_enter Try.func30, Try.ntmps30
    go_wp2_with (at_builtin; refine wpList_append_own _ rfl _ _ 22 rfl w.heap.size 3 i0 (.int .i64 0) 1 8 Try.underlying22 hi hz0 hz1 hz2 rfl (by decide) _ _ _ rfl (World.ownsRow_made w #[] 0 (Nat.le_refl _) (Nat.zero_le _) rfl) ad n cap ((List.range n).map fun j => .int .i64 (z j)) rfl ?qc1 ?qc2 ?qc3 ?qc4 ?qc5 ?qc6 ?_)
    case qc1 => simp
    case qc2 => exact hnews.out
    case qc3 => intro u hu; obtain ⟨x, _, rfl⟩ := List.mem_map.1 hu; rfl
    case qc4 => unfold maxLen; omega
    case qc5 => omega
    case qc6 => simp
    intro v' w1 hown hgrow hnil
    have hb : Below w.heap.size w w1 := ((Below.refl _ w).alloc (Nat.le_refl _) _).grown hgrow (by simp) (by intro k hk; simp [Value.ownBlock] at hk; omega)
    obtain ⟨a', cap', rfl, h1⟩ := own_mk hown
    go_wp2
    go_ret
    exact ⟨a', cap', rfl, h1, hb⟩

set_option maxHeartbeats 1000000 in
theorem list_any (a : Option Addr) (cap n : Nat) (z : Nat → Int) (w : World) (hs : n ≤ cap) (hs2 : n * 8 ≤ 140737488355328) (hc : Ints w a n z) :
    Calls Try.prog 20 #[.slice a n cap] w fun e w' => ∃ a' cap', e = .returned (.slice a' (min n 9) cap') ∧ Own w' w.heap.size a' (min n 9) cap' z ∧ Below w.heap.size w w' := by
  have hc' := hc.take (Nat.min_le_left n 9)
  by_cases h : n ≤ 9
  · have e : min n 9 = n := by omega
    rw [e] at hc' ⊢
    clear e
    go_enter Try.func20, Try.ntmps20
    go_wp2_with fail
    refine (clone_any _ _ _ _ _ (by omega) hc').mono ?_
    rintro e w1 ⟨a', cap', rfl, h1, hb⟩
    go_wp2
    go_ret
    exact ⟨a', cap', rfl, h1, hb⟩
  · have e : min n 9 = 9 := by omega
    rw [e] at hc' ⊢
    clear e
    go_enter Try.func20, Try.ntmps20
    go_wp2_with fail
    refine (clone_any _ _ _ _ _ (by omega) hc').mono ?_
    rintro e w1 ⟨a', cap', rfl, h1, hb⟩
    go_wp2
    go_ret
    exact ⟨a', cap', rfl, h1, hb⟩


end Go.Proofs.Ytkbbijhknbcflab
