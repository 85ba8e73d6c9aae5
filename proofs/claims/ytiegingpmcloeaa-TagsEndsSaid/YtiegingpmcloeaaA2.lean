import Derived.Test.YtiegingpmcloeaaA1
namespace Go.Proofs.Ytiegingpmcloeaa
open Go.RowKit

set_option maxHeartbeats 4000000 in
set_option maxRecDepth 100000 in
theorem ovalid_good (d j t e : Int) (n : Nat) (w : World) (hn : n ≤ 1000) (h1 : okU ⟨d, j, t, e⟩) (h2 : 0 ≤ j ∧ j ≤ 1) :
    Calls Try.prog 42 #[.agg #[.int .i64 d, .int .i64 j, .int .i64 t, .int .i64 e], .int .i64 n] w fun r w' => SomeB (okB n ⟨d, j, t, e⟩) w r w' := by
  have hu := used_eq ⟨d, j, t, e⟩
  have hU := fun w => used_any d j t e w
  generalize usedQ ⟨d, j, t, e⟩ = u at *
  obtain ⟨u0, u1, u2, u3⟩ := u
  have HU := Lib.hid hU
  clear hU
  obtain ⟨W, hW⟩ : ∃ W, W = w.alloc (.cells #[.int .i64 d, .int .i64 j, .int .i64 t, .int .i64 e] 57) := ⟨_, rfl⟩
  have hb : Below w.heap.size w W := by rw [hW]; exact one_le _ _
  have hc : C4 W w.heap.size d j t e := by
    rw [hW]
    have := heap_alloc_new w (.cells #[.int .i64 d, .int .i64 j, .int .i64 t, .int .i64 e] 57)
    exact ⟨block_cell this 0, block_cell this 1, block_cell this 2, block_cell this 3⟩
  have HB := Lib.hid hb
  have HC := Lib.hid hc
  have HW := Lib.hid hW
  obtain ⟨q0, q1, q2, q3⟩ := hc
  have hlt : w.heap.size < W.heap.size := by rw [hW]; simp
  clear hb hW
  have G : ((d == u0) && ((j == u1) && ((t == u2) && (e == u3)))) = true := by rw [hu]; simp [h1]
  simp only [Bool.and_eq_true] at G
  obtain ⟨G0, G1, G2, G3⟩ := G
  clear hu
  have ho : IntKind.i64.wrap ((n : Int) - 1) = (n : Int) - 1 := IntWalk.i64_in _ (by omega)
  have hf : Hid (okB n ⟨d, j, t, e⟩ = decide ((0 ≤ t ∧ t ≤ (n : Int) - 1) ∧ 0 ≤ e ∧ e ≤ (n : Int) - 1)) := by
    unfold Hid okB
    apply decide_eq_decide.2
    unfold okQ
    simp only
    constructor
    · intro h; omega
    · intro h; exact ⟨h1, h2, by omega, by omega, by omega⟩
  clear h1
  generalize hr : okB n ⟨d, j, t, e⟩ = r at *
  have hb2 : ∀ W2 b T, W2.heap[b]? = some (.cells #[.int .i64 t, .int .i64 e] T) → Calls Try.prog 31 #[.int .i64 0, .int .i64 ((n : Int) - 1), .slice (some ⟨b, 0, none⟩) 2 2] W2 fun e w' => e = .returned (.bool r) ∧ W2 = w' :=
    fun W2 b T h => between_two r b _ T t e 0 _ W2 h rfl rfl hf.out.symm
  have hb1 : ∀ W2 b T, W2.heap[b]? = some (.cells #[.int .i64 j] T) → Calls Try.prog 31 #[.int .i64 0, .int .i64 1, .slice (some ⟨b, 0, none⟩) 1 1] W2 fun e w' => e = .returned (.bool true) ∧ W2 = w' :=
    fun W2 b T h => between_one true b _ T j 0 1 W2 h rfl (by simpa using h2)
  have HB1 := Lib.hid hb1
  have HB2 := Lib.hid hb2
  clear hb1 hb2 hr hf h2
  go_enter Try.func42, Try.ntmps42
  go_wp2_with fail
  rw [← HW.out]
  go_region_held3 (fun w' => w'.cell? ⟨w.heap.size, 0, none⟩ = some (.int .i64 d) ∧ w'.cell? ⟨w.heap.size, 1, none⟩ = some (.int .i64 j) ∧ w'.cell? ⟨w.heap.size, 2, none⟩ = some (.int .i64 t) ∧ w'.cell? ⟨w.heap.size, 3, none⟩ = some (.int .i64 e))
    (first
      | (go_split_ands; exact HC1.out)
      | go_keep)
    ((first
      | ((with_reducible refine (HU.out _).mono ?_); rintro e w1 ⟨rfl, hb1⟩; have HC1 := Lib.hid (HC.out.keep (below_drew1 hb1)); have HW1 := Lib.hid (band HB.out (below_drew1 hb1)); clear hb1)
      | ((with_reducible refine (HB1.out _ _ _ (heap_alloc_new _ _)).mono ?_); rintro e w2 ⟨rfl, rfl⟩)
      | ((with_reducible refine (HB2.out _ _ _ (heap_two2 _ _ _)).mono ?_); rintro e w2 ⟨rfl, rfl⟩)))
  all_goals
    go_wp2
    go_ret
    exact ⟨rfl, (HW1.out.alloc HW1.out.size _).alloc (by have := HW1.out.size; simp; omega) _⟩

set_option maxHeartbeats 4000000 in
set_option maxRecDepth 100000 in
theorem ovalid_mid (d j t e : Int) (n : Nat) (w : World) (hn : n ≤ 1000) (h1 : okU ⟨d, j, t, e⟩) (h2 : ¬ (0 ≤ j ∧ j ≤ 1)) :
    Calls Try.prog 42 #[.agg #[.int .i64 d, .int .i64 j, .int .i64 t, .int .i64 e], .int .i64 n] w fun r w' => SomeB (okB n ⟨d, j, t, e⟩) w r w' := by
  have hu := used_eq ⟨d, j, t, e⟩
  have hU := fun w => used_any d j t e w
  generalize usedQ ⟨d, j, t, e⟩ = u at *
  obtain ⟨u0, u1, u2, u3⟩ := u
  have HU := Lib.hid hU
  clear hU
  obtain ⟨W, hW⟩ : ∃ W, W = w.alloc (.cells #[.int .i64 d, .int .i64 j, .int .i64 t, .int .i64 e] 57) := ⟨_, rfl⟩
  have hb : Below w.heap.size w W := by rw [hW]; exact one_le _ _
  have hc : C4 W w.heap.size d j t e := by
    rw [hW]
    have := heap_alloc_new w (.cells #[.int .i64 d, .int .i64 j, .int .i64 t, .int .i64 e] 57)
    exact ⟨block_cell this 0, block_cell this 1, block_cell this 2, block_cell this 3⟩
  have HB := Lib.hid hb
  have HC := Lib.hid hc
  have HW := Lib.hid hW
  obtain ⟨q0, q1, q2, q3⟩ := hc
  have hlt : w.heap.size < W.heap.size := by rw [hW]; simp
  clear hb hW
  have G : ((d == u0) && ((j == u1) && ((t == u2) && (e == u3)))) = true := by rw [hu]; simp [h1]
  simp only [Bool.and_eq_true] at G
  obtain ⟨G0, G1, G2, G3⟩ := G
  clear hu
  have ho : IntKind.i64.wrap ((n : Int) - 1) = (n : Int) - 1 := IntWalk.i64_in _ (by omega)
  have H : Hid (okB n ⟨d, j, t, e⟩ = false) := okB_no (fun h => h2 h.2.1)
  have hb1 : ∀ W2 b T, W2.heap[b]? = some (.cells #[.int .i64 j] T) → Calls Try.prog 31 #[.int .i64 0, .int .i64 1, .slice (some ⟨b, 0, none⟩) 1 1] W2 fun e w' => e = .returned (.bool false) ∧ W2 = w' :=
    fun W2 b T h => between_one false b _ T j 0 1 W2 h rfl (by simpa using h2)
  have HB1 := Lib.hid hb1
  clear hb1 h1 h2
  go_enter Try.func42, Try.ntmps42
  go_wp2_with fail
  rw [← HW.out]
  refine wp_region_held_drew (S := (fun w' => w'.cell? ⟨w.heap.size, 0, none⟩ = some (.int .i64 d) ∧ w'.cell? ⟨w.heap.size, 1, none⟩ = some (.int .i64 j) ∧ w'.cell? ⟨w.heap.size, 2, none⟩ = some (.int .i64 t) ∧ w'.cell? ⟨w.heap.size, 3, none⟩ = some (.int .i64 e))) (by kernel_rfl) ?_ (fun hHeld => ?_)
  · go_split_ands; exact HC.out
  refine wpAnyH_take (i := 0) (oi := ⟨some 5, _, _, _, _, _⟩) (v := .agg #[.int .i64 d, .int .i64 j, .int .i64 t, .int .i64 e]) rfl (by kernel_rfl) (by kernel_rfl) (by kernel_rfl) (fun _ _ _ h => h) (Or.inl ⟨by rfl, fun w2 hSw => ?_⟩) (by assumption) ?_
  · obtain ⟨s0, s1, s2, s3⟩ := hSw; go_simp
  try simp only [Act.put, List.setIfInBounds_toArray, List.set_cons_zero, List.set_cons_succ]
  refine wpAnyH_take (i := 1) (oi := ⟨some 6, _, _, _, _, _⟩) (v := .agg #[.int .i64 d, .int .i64 j, .int .i64 t, .int .i64 e]) rfl (by kernel_rfl) (by kernel_rfl) (by kernel_rfl) (fun _ _ _ h => h) (Or.inl ⟨by rfl, fun w2 hSw => ?_⟩) (by assumption) ?_
  · obtain ⟨s0, s1, s2, s3⟩ := hSw; go_simp
  try simp only [Act.put, List.setIfInBounds_toArray, List.set_cons_zero, List.set_cons_succ]
  refine wpAnyH_ready (rs := [2]) (by kernel_rfl) (by simp) ?_
  refine AllReadyH.cons (o := ⟨some 7, _, _, _, _, _⟩) rfl (fun K hK => ?_) AllReadyH.nil
  go_simp
  refine (HU.out _).mono ?_
  rintro r w1 ⟨rfl, hb1⟩
  have HC1 := Lib.hid (HC.out.keep (below_drew1 hb1))
  have HW1 := Lib.hid (band HB.out (below_drew1 hb1))
  clear hb1 hHeld
  go_wp2_with fail
  refine hK.out _ _ ?_ (fun hHeld => ?_)
  · exact HC1.out
  clear hK K
  try simp only [Act.put, List.setIfInBounds_toArray, List.set_cons_zero, List.set_cons_succ]
  refine wpAnyH_take (i := 3) (oi := ⟨some 8, _, _, _, _, _⟩) (v := .bool true) rfl (by kernel_rfl) (by kernel_rfl) (by kernel_rfl) (fun _ _ _ h => h) (Or.inl ⟨by rfl, fun w2 hSw => ?_⟩) (by assumption) ?_
  · go_simp
  try simp only [Act.put, List.setIfInBounds_toArray, List.set_cons_zero, List.set_cons_succ]
  refine wpAnyH_take (i := 4) (oi := ⟨some 9, _, _, _, _, _⟩) (v := .bool true) rfl (by kernel_rfl) (by kernel_rfl) (by kernel_rfl) (fun _ _ _ h => h) (Or.inl ⟨by rfl, fun w2 hSw => ?_⟩) (by assumption) ?_
  · go_simp
  try simp only [Act.put, List.setIfInBounds_toArray, List.set_cons_zero, List.set_cons_succ]
  refine wpAnyH_take (i := 5) (oi := ⟨some 10, _, _, _, _, _⟩) (v := .pointer (some ⟨w.heap.size, 1, none⟩)) rfl (by kernel_rfl) (by kernel_rfl) (by kernel_rfl) (fun _ _ _ h => h) (Or.inl ⟨by rfl, fun w2 hSw => ?_⟩) (by assumption) ?_
  · go_simp
  try simp only [Act.put, List.setIfInBounds_toArray, List.set_cons_zero, List.set_cons_succ]
  refine wpAnyH_take (i := 6) (oi := ⟨some 11, _, _, _, _, _⟩) (v := .int .i64 j) rfl (by kernel_rfl) (by kernel_rfl) (by kernel_rfl) (fun _ _ _ h => h) (Or.inl ⟨by rfl, fun w2 hSw => ?_⟩) (by assumption) ?_
  · obtain ⟨s0, s1, s2, s3⟩ := hSw; go_simp
  try simp only [Act.put, List.setIfInBounds_toArray, List.set_cons_zero, List.set_cons_succ]
  refine wpAnyH_ready (rs := [7]) (by kernel_rfl) (by simp) ?_
  refine AllReadyH.cons (o := ⟨some 12, _, _, _, _, _⟩) rfl (fun K hK => ?_) AllReadyH.nil
  go_simp
  refine hK.out _ _ ?_ (fun hHeld => ?_)
  · go_split_ands; exact HC1.out.keep (one_le _ _)
  clear hK K
  try simp only [Act.put, List.setIfInBounds_toArray, List.set_cons_zero, List.set_cons_succ]
  refine wpAnyH_ready (rs := [8]) (by kernel_rfl) (by simp) ?_
  refine AllReadyH.cons (o := ⟨some 13, _, _, _, _, _⟩) rfl (fun K hK => ?_) AllReadyH.nil
  go_simp
  refine (HB1.out _ _ _ (heap_alloc_new _ _)).mono ?_
  rintro r w2 ⟨rfl, rfl⟩
  go_wp2_with fail
  refine hK.out _ _ ?_ (fun hHeld => ?_)
  · go_split_ands; exact HC1.out.keep (one_le _ _)
  clear hK K
  try simp only [Act.put, List.setIfInBounds_toArray, List.set_cons_zero, List.set_cons_succ]
  refine wpAnyH_take (i := 9) (oi := ⟨some 14, _, _, _, _, _⟩) (v := .bool false) rfl (by kernel_rfl) (by kernel_rfl) (by kernel_rfl) (fun _ _ _ h => h) (Or.inl ⟨by rfl, fun w2 hSw => ?_⟩) (by assumption) ?_
  · go_simp
  try simp only [Act.put, List.setIfInBounds_toArray, List.set_cons_zero, List.set_cons_succ]
  refine wpAnyH_take (i := 10) (oi := ⟨some 15, _, _, _, _, _⟩) (v := .bool false) rfl (by kernel_rfl) (by kernel_rfl) (by kernel_rfl) (fun _ _ _ h => h) (Or.inl ⟨by rfl, fun w2 hSw => ?_⟩) (by assumption) ?_
  · go_simp
  try simp only [Act.put, List.setIfInBounds_toArray, List.set_cons_zero, List.set_cons_succ]
  refine wpAnyH_take (i := 11) (oi := ⟨some 16, _, _, _, _, _⟩) (v := undef) rfl (by kernel_rfl) (by kernel_rfl) (by kernel_rfl) (fun _ _ _ h => h) (Or.inr ⟨by rfl, rfl⟩) (by assumption) ?_
  try simp only [Act.put, List.setIfInBounds_toArray, List.set_cons_zero, List.set_cons_succ]
  refine wpAnyH_take (i := 12) (oi := ⟨some 17, _, _, _, _, _⟩) (v := undef) rfl (by kernel_rfl) (by kernel_rfl) (by kernel_rfl) (fun _ _ _ h => h) (Or.inr ⟨by rfl, rfl⟩) (by assumption) ?_
  try simp only [Act.put, List.setIfInBounds_toArray, List.set_cons_zero, List.set_cons_succ]
  refine wpAnyH_take (i := 13) (oi := ⟨some 18, _, _, _, _, _⟩) (v := undef) rfl (by kernel_rfl) (by kernel_rfl) (by kernel_rfl) (fun _ _ _ h => h) (Or.inr ⟨by rfl, rfl⟩) (by assumption) ?_
  try simp only [Act.put, List.setIfInBounds_toArray, List.set_cons_zero, List.set_cons_succ]
  refine wpAnyH_take (i := 14) (oi := ⟨some 19, _, _, _, _, _⟩) (v := undef) rfl (by kernel_rfl) (by kernel_rfl) (by kernel_rfl) (fun _ _ _ h => h) (Or.inr ⟨by rfl, rfl⟩) (by assumption) ?_
  try simp only [Act.put, List.setIfInBounds_toArray, List.set_cons_zero, List.set_cons_succ]
  refine wpAnyH_take (i := 15) (oi := ⟨some 20, _, _, _, _, _⟩) (v := undef) rfl (by kernel_rfl) (by kernel_rfl) (by kernel_rfl) (fun _ _ _ h => h) (Or.inr ⟨by rfl, rfl⟩) (by assumption) ?_
  try simp only [Act.put, List.setIfInBounds_toArray, List.set_cons_zero, List.set_cons_succ]
  refine wpAnyH_take (i := 16) (oi := ⟨some 21, _, _, _, _, _⟩) (v := undef) rfl (by kernel_rfl) (by kernel_rfl) (by kernel_rfl) (fun _ _ _ h => h) (Or.inr ⟨by rfl, rfl⟩) (by assumption) ?_
  try simp only [Act.put, List.setIfInBounds_toArray, List.set_cons_zero, List.set_cons_succ]
  refine wpAnyH_take (i := 17) (oi := ⟨some 22, _, _, _, _, _⟩) (v := undef) rfl (by kernel_rfl) (by kernel_rfl) (by kernel_rfl) (fun _ _ _ h => h) (Or.inr ⟨by rfl, rfl⟩) (by assumption) ?_
  try simp only [Act.put, List.setIfInBounds_toArray, List.set_cons_zero, List.set_cons_succ]
  refine wpAnyH_take (i := 18) (oi := ⟨some 23, _, _, _, _, _⟩) (v := undef) rfl (by kernel_rfl) (by kernel_rfl) (by kernel_rfl) (fun _ _ _ h => h) (Or.inr ⟨by rfl, rfl⟩) (by assumption) ?_
  try simp only [Act.put, List.setIfInBounds_toArray, List.set_cons_zero, List.set_cons_succ]
  refine wpAnyH_take (i := 19) (oi := ⟨some 24, _, _, _, _, _⟩) (v := .bool false) rfl (by kernel_rfl) (by kernel_rfl) (by kernel_rfl) (fun _ _ _ h => h) (Or.inl ⟨by rfl, fun w2 hSw => ?_⟩) (by assumption) ?_
  · go_simp
  try simp only [Act.put, List.setIfInBounds_toArray, List.set_cons_zero, List.set_cons_succ]
  refine wpAnyH_take (i := 20) (oi := ⟨some 4, _, _, _, _, _⟩) (v := .bool false) rfl (by kernel_rfl) (by kernel_rfl) (by kernel_rfl) (fun _ _ _ h => h) (Or.inl ⟨by rfl, fun w2 hSw => ?_⟩) (by assumption) ?_
  · go_simp
  try simp only [Act.put, List.setIfInBounds_toArray, List.set_cons_zero, List.set_cons_succ]
  refine wpAnyH_done (by kernel_rfl) ?_ _
  go_wp2
  go_ret
  exact ⟨by rw [H.out]; rfl, HW1.out.alloc HW1.out.size _⟩

set_option maxHeartbeats 4000000 in
set_option maxRecDepth 100000 in
theorem ovalid_bad (d j t e : Int) (n : Nat) (w : World) (_hn : n ≤ 1000) (h1 : ¬ okU ⟨d, j, t, e⟩) :
    Calls Try.prog 42 #[.agg #[.int .i64 d, .int .i64 j, .int .i64 t, .int .i64 e], .int .i64 n] w fun r w' => SomeB (okB n ⟨d, j, t, e⟩) w r w' := by
  have hu := used_eq ⟨d, j, t, e⟩
  have hU := fun w => used_any d j t e w
  generalize usedQ ⟨d, j, t, e⟩ = u at *
  obtain ⟨u0, u1, u2, u3⟩ := u
  have HU := Lib.hid hU
  clear hU
  obtain ⟨W, hW⟩ : ∃ W, W = w.alloc (.cells #[.int .i64 d, .int .i64 j, .int .i64 t, .int .i64 e] 57) := ⟨_, rfl⟩
  have hb : Below w.heap.size w W := by rw [hW]; exact one_le _ _
  have hc : C4 W w.heap.size d j t e := by
    rw [hW]
    have := heap_alloc_new w (.cells #[.int .i64 d, .int .i64 j, .int .i64 t, .int .i64 e] 57)
    exact ⟨block_cell this 0, block_cell this 1, block_cell this 2, block_cell this 3⟩
  have HB := Lib.hid hb
  have HC := Lib.hid hc
  have HW := Lib.hid hW
  obtain ⟨q0, q1, q2, q3⟩ := hc
  have hlt : w.heap.size < W.heap.size := by rw [hW]; simp
  clear hb hW
  have G : ((d == u0) && ((j == u1) && ((t == u2) && (e == u3)))) = false := by rw [hu]; simp [h1]
  have H : Hid (okB n ⟨d, j, t, e⟩ = false) := okB_no (fun h => h1 h.1)
  clear hu h1
  go_enter Try.func42, Try.ntmps42
  go_wp2_with fail
  rw [← HW.out]
  refine wp_region_held_drew (S := (fun w' => w'.cell? ⟨w.heap.size, 0, none⟩ = some (.int .i64 d) ∧ w'.cell? ⟨w.heap.size, 1, none⟩ = some (.int .i64 j) ∧ w'.cell? ⟨w.heap.size, 2, none⟩ = some (.int .i64 t) ∧ w'.cell? ⟨w.heap.size, 3, none⟩ = some (.int .i64 e))) (by kernel_rfl) ?_ (fun hHeld => ?_)
  · go_split_ands; exact HC.out
  refine wpAnyH_take (i := 0) (oi := ⟨some 5, _, _, _, _, _⟩) (v := .agg #[.int .i64 d, .int .i64 j, .int .i64 t, .int .i64 e]) rfl (by kernel_rfl) (by kernel_rfl) (by kernel_rfl) (fun _ _ _ h => h) (Or.inl ⟨by rfl, fun w2 hSw => ?_⟩) (by assumption) ?_
  · obtain ⟨s0, s1, s2, s3⟩ := hSw; go_simp
  try simp only [Act.put, List.setIfInBounds_toArray, List.set_cons_zero, List.set_cons_succ]
  refine wpAnyH_take (i := 1) (oi := ⟨some 6, _, _, _, _, _⟩) (v := .agg #[.int .i64 d, .int .i64 j, .int .i64 t, .int .i64 e]) rfl (by kernel_rfl) (by kernel_rfl) (by kernel_rfl) (fun _ _ _ h => h) (Or.inl ⟨by rfl, fun w2 hSw => ?_⟩) (by assumption) ?_
  · obtain ⟨s0, s1, s2, s3⟩ := hSw; go_simp
  try simp only [Act.put, List.setIfInBounds_toArray, List.set_cons_zero, List.set_cons_succ]
  refine wpAnyH_ready (rs := [2]) (by kernel_rfl) (by simp) ?_
  refine AllReadyH.cons (o := ⟨some 7, _, _, _, _, _⟩) rfl (fun K hK => ?_) AllReadyH.nil
  go_simp
  refine (HU.out _).mono ?_
  rintro r w1 ⟨rfl, hb1⟩
  have HC1 := Lib.hid (HC.out.keep (below_drew1 hb1))
  have HB1 := Lib.hid (band HB.out (below_drew1 hb1))
  clear hb1 hHeld
  go_wp2_with fail
  refine hK.out _ _ ?_ (fun hHeld => ?_)
  · exact HC1.out
  clear hK K
  try simp only [Act.put, List.setIfInBounds_toArray, List.set_cons_zero, List.set_cons_succ]
  refine wpAnyH_take (i := 3) (oi := ⟨some 8, _, _, _, _, _⟩) (v := .bool false) rfl (by kernel_rfl) (by kernel_rfl) (by kernel_rfl) (fun _ _ _ h => h) (Or.inl ⟨by rfl, fun w2 hSw => ?_⟩) (by assumption) ?_
  · by_cases e0 : d = u0 <;> by_cases e1 : j = u1 <;> by_cases e2 : t = u2 <;> by_cases e3 : e = u3 <;> first | (subst e0 e1 e2 e3; simp at G; done) | (simp [e0, e1, e2, e3] at G; done) | (clear G; go_simp)
  try simp only [Act.put, List.setIfInBounds_toArray, List.set_cons_zero, List.set_cons_succ]
  refine wpAnyH_take (i := 4) (oi := ⟨some 9, _, _, _, _, _⟩) (v := .bool false) rfl (by kernel_rfl) (by kernel_rfl) (by kernel_rfl) (fun _ _ _ h => h) (Or.inl ⟨by rfl, fun w2 hSw => ?_⟩) (by assumption) ?_
  · go_simp
  try simp only [Act.put, List.setIfInBounds_toArray, List.set_cons_zero, List.set_cons_succ]
  refine wpAnyH_take (i := 5) (oi := ⟨some 10, _, _, _, _, _⟩) (v := undef) rfl (by kernel_rfl) (by kernel_rfl) (by kernel_rfl) (fun _ _ _ h => h) (Or.inr ⟨by rfl, rfl⟩) (by assumption) ?_
  try simp only [Act.put, List.setIfInBounds_toArray, List.set_cons_zero, List.set_cons_succ]
  refine wpAnyH_take (i := 6) (oi := ⟨some 11, _, _, _, _, _⟩) (v := undef) rfl (by kernel_rfl) (by kernel_rfl) (by kernel_rfl) (fun _ _ _ h => h) (Or.inr ⟨by rfl, rfl⟩) (by assumption) ?_
  try simp only [Act.put, List.setIfInBounds_toArray, List.set_cons_zero, List.set_cons_succ]
  refine wpAnyH_take (i := 7) (oi := ⟨some 12, _, _, _, _, _⟩) (v := undef) rfl (by kernel_rfl) (by kernel_rfl) (by kernel_rfl) (fun _ _ _ h => h) (Or.inr ⟨by rfl, rfl⟩) (by assumption) ?_
  try simp only [Act.put, List.setIfInBounds_toArray, List.set_cons_zero, List.set_cons_succ]
  refine wpAnyH_take (i := 8) (oi := ⟨some 13, _, _, _, _, _⟩) (v := undef) rfl (by kernel_rfl) (by kernel_rfl) (by kernel_rfl) (fun _ _ _ h => h) (Or.inr ⟨by rfl, rfl⟩) (by assumption) ?_
  try simp only [Act.put, List.setIfInBounds_toArray, List.set_cons_zero, List.set_cons_succ]
  refine wpAnyH_take (i := 9) (oi := ⟨some 14, _, _, _, _, _⟩) (v := .bool false) rfl (by kernel_rfl) (by kernel_rfl) (by kernel_rfl) (fun _ _ _ h => h) (Or.inl ⟨by rfl, fun w2 hSw => ?_⟩) (by assumption) ?_
  · go_simp
  try simp only [Act.put, List.setIfInBounds_toArray, List.set_cons_zero, List.set_cons_succ]
  refine wpAnyH_take (i := 10) (oi := ⟨some 15, _, _, _, _, _⟩) (v := .bool false) rfl (by kernel_rfl) (by kernel_rfl) (by kernel_rfl) (fun _ _ _ h => h) (Or.inl ⟨by rfl, fun w2 hSw => ?_⟩) (by assumption) ?_
  · go_simp
  try simp only [Act.put, List.setIfInBounds_toArray, List.set_cons_zero, List.set_cons_succ]
  refine wpAnyH_take (i := 11) (oi := ⟨some 16, _, _, _, _, _⟩) (v := undef) rfl (by kernel_rfl) (by kernel_rfl) (by kernel_rfl) (fun _ _ _ h => h) (Or.inr ⟨by rfl, rfl⟩) (by assumption) ?_
  try simp only [Act.put, List.setIfInBounds_toArray, List.set_cons_zero, List.set_cons_succ]
  refine wpAnyH_take (i := 12) (oi := ⟨some 17, _, _, _, _, _⟩) (v := undef) rfl (by kernel_rfl) (by kernel_rfl) (by kernel_rfl) (fun _ _ _ h => h) (Or.inr ⟨by rfl, rfl⟩) (by assumption) ?_
  try simp only [Act.put, List.setIfInBounds_toArray, List.set_cons_zero, List.set_cons_succ]
  refine wpAnyH_take (i := 13) (oi := ⟨some 18, _, _, _, _, _⟩) (v := undef) rfl (by kernel_rfl) (by kernel_rfl) (by kernel_rfl) (fun _ _ _ h => h) (Or.inr ⟨by rfl, rfl⟩) (by assumption) ?_
  try simp only [Act.put, List.setIfInBounds_toArray, List.set_cons_zero, List.set_cons_succ]
  refine wpAnyH_take (i := 14) (oi := ⟨some 19, _, _, _, _, _⟩) (v := undef) rfl (by kernel_rfl) (by kernel_rfl) (by kernel_rfl) (fun _ _ _ h => h) (Or.inr ⟨by rfl, rfl⟩) (by assumption) ?_
  try simp only [Act.put, List.setIfInBounds_toArray, List.set_cons_zero, List.set_cons_succ]
  refine wpAnyH_take (i := 15) (oi := ⟨some 20, _, _, _, _, _⟩) (v := undef) rfl (by kernel_rfl) (by kernel_rfl) (by kernel_rfl) (fun _ _ _ h => h) (Or.inr ⟨by rfl, rfl⟩) (by assumption) ?_
  try simp only [Act.put, List.setIfInBounds_toArray, List.set_cons_zero, List.set_cons_succ]
  refine wpAnyH_take (i := 16) (oi := ⟨some 21, _, _, _, _, _⟩) (v := undef) rfl (by kernel_rfl) (by kernel_rfl) (by kernel_rfl) (fun _ _ _ h => h) (Or.inr ⟨by rfl, rfl⟩) (by assumption) ?_
  try simp only [Act.put, List.setIfInBounds_toArray, List.set_cons_zero, List.set_cons_succ]
  refine wpAnyH_take (i := 17) (oi := ⟨some 22, _, _, _, _, _⟩) (v := undef) rfl (by kernel_rfl) (by kernel_rfl) (by kernel_rfl) (fun _ _ _ h => h) (Or.inr ⟨by rfl, rfl⟩) (by assumption) ?_
  try simp only [Act.put, List.setIfInBounds_toArray, List.set_cons_zero, List.set_cons_succ]
  refine wpAnyH_take (i := 18) (oi := ⟨some 23, _, _, _, _, _⟩) (v := undef) rfl (by kernel_rfl) (by kernel_rfl) (by kernel_rfl) (fun _ _ _ h => h) (Or.inr ⟨by rfl, rfl⟩) (by assumption) ?_
  try simp only [Act.put, List.setIfInBounds_toArray, List.set_cons_zero, List.set_cons_succ]
  refine wpAnyH_take (i := 19) (oi := ⟨some 24, _, _, _, _, _⟩) (v := .bool false) rfl (by kernel_rfl) (by kernel_rfl) (by kernel_rfl) (fun _ _ _ h => h) (Or.inl ⟨by rfl, fun w2 hSw => ?_⟩) (by assumption) ?_
  · go_simp
  try simp only [Act.put, List.setIfInBounds_toArray, List.set_cons_zero, List.set_cons_succ]
  refine wpAnyH_take (i := 20) (oi := ⟨some 4, _, _, _, _, _⟩) (v := .bool false) rfl (by kernel_rfl) (by kernel_rfl) (by kernel_rfl) (fun _ _ _ h => h) (Or.inl ⟨by rfl, fun w2 hSw => ?_⟩) (by assumption) ?_
  · go_simp
  try simp only [Act.put, List.setIfInBounds_toArray, List.set_cons_zero, List.set_cons_succ]
  refine wpAnyH_done (by kernel_rfl) ?_ _
  go_wp2
  go_ret
  exact ⟨by rw [H.out]; rfl, HB1.out⟩

theorem ovalid_any (d j t e : Int) (n : Nat) (w : World) (hn : n ≤ 1000) :
    Calls Try.prog 42 #[.agg #[.int .i64 d, .int .i64 j, .int .i64 t, .int .i64 e], .int .i64 n] w fun r w' => SomeB (okB n ⟨d, j, t, e⟩) w r w' := by
  by_cases h1 : okU ⟨d, j, t, e⟩
  · by_cases h2 : 0 ≤ j ∧ j ≤ 1
    · exact ovalid_good d j t e n w hn h1 h2
    · exact ovalid_mid d j t e n w hn h1 h2
  · exact ovalid_bad d j t e n w hn h1

end Go.Proofs.Ytiegingpmcloeaa
