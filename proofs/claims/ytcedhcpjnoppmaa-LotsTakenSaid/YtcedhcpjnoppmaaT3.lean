import Derived.Test.YtcedhcpjnoppmaaT1
namespace Go.Proofs.Ytcedhcpjnoppmaa
open Go.RowKit

theorem awake_tk : tk 1 3 (fun _ => 0) (fun _ => 1) 1 = 2 := by decide

set_option maxHeartbeats 4000000 in
set_option maxRecDepth 100000 in
theorem awake_any (w : World) : Calls Try.prog 26 #[] w fun e w' => SomeB true w e w' := by
  go_enter Try.func26, Try.ntmps26
  go_wp2_with fail
  refine (taken_yes (some ⟨w.heap.size, 0, none⟩) 1 1 (some ⟨w.heap.size + 1, 0, none⟩) 1 1 (fun _ => 0) (fun _ => 1) 1 3 _ (by decide) (by decide) ?_ ?_).mono ?_
  · intro j hj
    have : j = 0 := by omega
    subst this
    exact ⟨_, _, rfl, block_cell (heap_two1 _ _ _) 0⟩
  · intro j hj
    have : j = 0 := by omega
    subst this
    exact ⟨_, _, rfl, block_cell (heap_two2 _ _ _) 0⟩
  rintro e w1 ⟨rfl, hb1⟩
  have HB := Lib.hid (band (below_two _ _ _) hb1)
  have HE : Hid (frV (tk 1 3 (fun _ => 0) (fun _ => 1) 1).toNat ((3 : Int) ^ 1).toNat = .agg #[.int .i64 2, .int .i64 3]) := by rw [awake_tk]; rfl
  rw [HE.out]
  clear hb1
  go_wp2
  go_ret
  exact ⟨rfl, band HB.out (below_one _ _)⟩

theorem chance_any (Y O : Int) (w : World) : Calls Try.prog 21 #[chV Y O] w fun e w' => e = .returned (chV Y O) ∧ Below w.heap.size w w' := by
  go_enter Try.func21, Try.ntmps21
  go_wp2
  exact bodyPost_ret (v := chV Y O) (by simp [results, Try.results21, go_sem]) rfl ⟨rfl, below_two _ _ _⟩

theorem none_zero (w : World) : Calls Try.prog 25 #[.agg #[.int .i64 0, .int .i64 0]] w fun e w' => SomeB true w e w' := by
  go_enter Try.func25, Try.ntmps25
  go_wp2
  go_ret
  exact ⟨rfl, below_one _ _⟩

end Go.Proofs.Ytcedhcpjnoppmaa
