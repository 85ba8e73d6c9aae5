import Derived.Test.YtfommfgokpiieabDoorC3
namespace Go.Proofs.YtfommfgokpiieabDoor
open Go.RowKit

/-- Does one point come before another one? -/
def ltB (x0 y0 x1 y1 : Int) : Bool := decide (cmpP x0 y0 x1 y1 < 0)
theorem ltB_iff {x0 y0 x1 y1 : Int} : ltB x0 y0 x1 y1 = true ↔ x0 < x1 ∨ x0 = x1 ∧ y0 < y1 := by
  simp only [ltB, cmpP]
  by_cases h1 : x0 < x1
  · simp [h1]
  · by_cases h2 : x1 < x0
    · have : ¬ x0 = x1 := by omega
      simp [h1, h2, this]
    · have : x0 = x1 := by omega
      by_cases h3 : y0 < y1
      · simp [this, h3]
      · by_cases h4 : y1 < y0
        · simp [this, h3, h4]
        · simp [this, h3, h4]
def okC (X Y : Nat → Int) (k : Nat) : Prop := ∀ i, i < k → nearB (X i) (Y i) = true ∧ (i = 0 ∨ ltB (X (i - 1)) (Y (i - 1)) (X i) (Y i) = true)
instance (X Y : Nat → Int) (k : Nat) : Decidable (okC X Y k) := inferInstanceAs (Decidable (∀ i, i < k → nearB (X i) (Y i) = true ∧ (i = 0 ∨ ltB (X (i - 1)) (Y (i - 1)) (X i) (Y i) = true)))
/-- Are they cells, in order? -/
def cellsB (n : Nat) (X Y : Nat → Int) : Bool := decide (1 ≤ n ∧ n ≤ 30 ∧ okC X Y n)
theorem cellsB_iff {n : Nat} {X Y : Nat → Int} : cellsB n X Y = true ↔ 1 ≤ n ∧ n ≤ 30 ∧ okC X Y n := by simp [cellsB]
theorem cellsB_no {n : Nat} {X Y : Nat → Int} (h : ¬ (1 ≤ n ∧ n ≤ 30 ∧ okC X Y n)) : cellsB n X Y = false := decide_eq_false h
theorem okC_next {X Y : Nat → Int} {k : Nat} (h : okC X Y k) (h1 : nearB (X k) (Y k) = true) (h2 : k = 0 ∨ ltB (X (k - 1)) (Y (k - 1)) (X k) (Y k) = true) : okC X Y (k + 1) := by
  intro i hi
  by_cases e : i = k
  · subst e; exact ⟨h1, h2⟩
  · exact h i (by omega)

set_option maxHeartbeats 8000000 in
set_option maxRecDepth 100000 in
theorem areCells_any (a : Option Addr) (n cap : Nat) (X Y : Nat → Int) (w : World) (hn : n ≤ 140737488351232) (hC : CellsAt w a 2 n (fun i => pcell (X i) (Y i))) :
    Calls Tryd.prog 25 #[.slice a n cap] w fun e w' => e = .returned (.bool (cellsB n X Y)) ∧ Below w.heap.size w w' := by
  have HC := Lib.hid hC
  clear hC
  by_cases h0 : n = 0
  · subst h0
    have HO : Hid (cellsB 0 X Y = false) := cellsB_no (fun h => by omega)
    go_enter Tryd.func25, Tryd.ntmps25
    go_wp2
    go_ret
    exact ⟨by rw [HO.out]; rfl, Below.refl _ _⟩
  have h0I : ((n : Int) == 0) = false := by simp [h0]
  by_cases h30 : n ≤ 30
  rotate_left
  · have HO : Hid (cellsB n X Y = false) := cellsB_no (fun h => by omega)
    have h30I : (30 : Int) < n := by omega
    go_enter Tryd.func25, Tryd.ntmps25
    go_wp2
    go_ret
    exact ⟨by rw [HO.out]; rfl, Below.refl _ _⟩
  have h30I : (n : Int) ≤ 30 := by omega
  go_enter Tryd.func25, Tryd.ntmps25
  go_wp2
  go_loopw [15] (fun i wr => ∃ k : Nat, k ≤ n ∧ i = .int .i64 k ∧ Below w.heap.size w wr ∧ Hid (okC X Y k)) (fun i _ => n - (intOf i).toNat)
  case atStart => exact ⟨0, Nat.zero_le _, rfl, Below.refl _ _, fun i hi => absurd hi (Nat.not_lt_zero _)⟩
  case round =>
    obtain ⟨k, hk, rfl, hb, HO⟩ := hrel
    have HB := Lib.hid hb
    have hC := HC.out.keep (Nat.le_refl _) hb
    clear hb
    by_cases hlt : k < n
    rotate_left
    · have e : k = n := by omega
      subst e
      have HR : Hid (cellsB k X Y = true) := cellsB_iff.2 ⟨by omega, h30, HO.out⟩
      clear hC
      go_wp2
      go_ret
      exact ⟨by rw [HR.out]; rfl, HB.out⟩
    obtain ⟨b, o, rfl, d0, d1⟩ := hC.two hlt
    have hbl := World.block_lt_of_cell? _ _ d0
    have HCw := Lib.hid hC
    clear hC
    have HB0 := Lib.hid (HB.out.trans ((one_le wr (.cells #[.int .i64 (X k), .int .i64 (Y k)] 23)).mono HB.out.size))
    have HA := Lib.hid (heap_alloc_new wr (.cells #[.int .i64 (X k), .int .i64 (Y k)] 23))
    have HPl := Lib.hid (fun W => isPlace_any (X k) (Y k) W)
    obtain ⟨W0, hW0⟩ : ∃ W0, W0 = wr.alloc (.cells #[.int .i64 (X k), .int .i64 (Y k)] 23) := ⟨_, rfl⟩
    have HW0 := Lib.hid hW0
    rw [← hW0] at HB0 HA
    have hsz0 : Hid (wr.heap.size < W0.heap.size) := by simp only [Hid]; rw [hW0]; simp
    have hCW : Hid (CellsAt W0 (some ⟨b, o, none⟩) 2 n (fun i => pcell (X i) (Y i))) := by simp only [Hid]; rw [hW0]; exact HCw.out.keep (Nat.le_refl _) (one_le _ _)
    clear hW0
    by_cases hnr : nearB (X k) (Y k) = true
    rotate_left
    · have HR : Hid (cellsB n X Y = false) := cellsB_no (fun h => hnr (h.2.2 k hlt).1)
      have hnf : nearB (X k) (Y k) = false := by simpa using hnr
      rw [hnf] at HPl
      have HS0 : Hid (W0.drew.cell? ⟨wr.heap.size, 0, none⟩ = some (.int .i64 (X k)) ∧ W0.drew.cell? ⟨wr.heap.size, 1, none⟩ = some (.int .i64 (Y k))) := ⟨block_cell HA.out 0, block_cell HA.out 1⟩
      have HK : Hid (∀ v, Below W0.heap.size W0 v → v.cell? ⟨wr.heap.size, 0, none⟩ = some (.int .i64 (X k)) ∧ v.cell? ⟨wr.heap.size, 1, none⟩ = some (.int .i64 (Y k))) := by
        intro v hv
        have h := (hv.block _ hsz0.out).trans HA.out
        exact ⟨block_cell h 0, block_cell h 1⟩
      clear hnr hnf
      go_wp2_with fail
      rw [← HW0.out]
      refine wp_region_held_drew (S := (fun v => v.cell? ⟨wr.heap.size, 0, none⟩ = some (.int .i64 (X k)) ∧ v.cell? ⟨wr.heap.size, 1, none⟩ = some (.int .i64 (Y k)))) (by kernel_rfl) ?_ (fun hHeld => ?_)
      · go_split_ands; exact HS0.out
      refine wpAnyH_take (i := 0) (oi := ⟨some 20, _, _, _, _, _⟩) (v := .agg #[.int .i64 (X k), .int .i64 (Y k)]) rfl (by kernel_rfl) (by kernel_rfl) (by kernel_rfl) (fun _ _ _ h => h) (Or.inl ⟨by rfl, fun w2 hSw => ?_⟩) (by assumption) ?_
      · obtain ⟨s0, s1⟩ := hSw; go_simp
      try simp only [Act.put, List.setIfInBounds_toArray, List.set_cons_zero, List.set_cons_succ]
      refine wpAnyH_ready (rs := [1]) (by kernel_rfl) (by simp) ?_
      refine AllReadyH.cons (o := ⟨some 21, _, _, _, _, _⟩) rfl (fun K hK => ?_) AllReadyH.nil
      go_simp
      refine (HPl.out _).mono ?_
      rintro r w1 ⟨rfl, hb1⟩
      have HB1 := Lib.hid (below_drew1 hb1)
      have HS1 := Lib.hid (HK.out _ HB1.out)
      clear hb1
      clear hHeld
      go_wp2_with fail
      refine hK.out _ _ ?_ (fun hHeld => ?_)
      · go_split_ands; exact HS1.out
      clear hK K
      try simp only [Act.put, List.setIfInBounds_toArray, List.set_cons_zero, List.set_cons_succ]
      refine wpAnyH_take (i := 2) (oi := ⟨some 22, _, _, _, _, _⟩) (v := .bool true) rfl (by kernel_rfl) (by kernel_rfl) (by kernel_rfl) (fun _ _ _ h => h) (Or.inl ⟨by rfl, fun w2 hSw => ?_⟩) (by assumption) ?_
      · obtain ⟨s0, s1⟩ := hSw; go_simp
      try simp only [Act.put, List.setIfInBounds_toArray, List.set_cons_zero, List.set_cons_succ]
      refine wpAnyH_take (i := 3) (oi := ⟨some 23, _, _, _, _, _⟩) (v := .bool true) rfl (by kernel_rfl) (by kernel_rfl) (by kernel_rfl) (fun _ _ _ h => h) (Or.inl ⟨by rfl, fun w2 hSw => ?_⟩) (by assumption) ?_
      · obtain ⟨s0, s1⟩ := hSw; go_simp
      try simp only [Act.put, List.setIfInBounds_toArray, List.set_cons_zero, List.set_cons_succ]
      refine wpAnyH_take (i := 4) (oi := ⟨some 24, _, _, _, _, _⟩) (v := undef) rfl (by kernel_rfl) (by kernel_rfl) (by kernel_rfl) (fun _ _ _ h => h) (Or.inr ⟨by rfl, rfl⟩) (by assumption) ?_
      try simp only [Act.put, List.setIfInBounds_toArray, List.set_cons_zero, List.set_cons_succ]
      refine wpAnyH_take (i := 5) (oi := ⟨some 25, _, _, _, _, _⟩) (v := undef) rfl (by kernel_rfl) (by kernel_rfl) (by kernel_rfl) (fun _ _ _ h => h) (Or.inr ⟨by rfl, rfl⟩) (by assumption) ?_
      try simp only [Act.put, List.setIfInBounds_toArray, List.set_cons_zero, List.set_cons_succ]
      refine wpAnyH_take (i := 6) (oi := ⟨some 26, _, _, _, _, _⟩) (v := undef) rfl (by kernel_rfl) (by kernel_rfl) (by kernel_rfl) (fun _ _ _ h => h) (Or.inr ⟨by rfl, rfl⟩) (by assumption) ?_
      try simp only [Act.put, List.setIfInBounds_toArray, List.set_cons_zero, List.set_cons_succ]
      refine wpAnyH_take (i := 7) (oi := ⟨some 27, _, _, _, _, _⟩) (v := undef) rfl (by kernel_rfl) (by kernel_rfl) (by kernel_rfl) (fun _ _ _ h => h) (Or.inr ⟨by rfl, rfl⟩) (by assumption) ?_
      try simp only [Act.put, List.setIfInBounds_toArray, List.set_cons_zero, List.set_cons_succ]
      refine wpAnyH_take (i := 8) (oi := ⟨some 28, _, _, _, _, _⟩) (v := undef) rfl (by kernel_rfl) (by kernel_rfl) (by kernel_rfl) (fun _ _ _ h => h) (Or.inr ⟨by rfl, rfl⟩) (by assumption) ?_
      try simp only [Act.put, List.setIfInBounds_toArray, List.set_cons_zero, List.set_cons_succ]
      refine wpAnyH_take (i := 9) (oi := ⟨some 29, _, _, _, _, _⟩) (v := undef) rfl (by kernel_rfl) (by kernel_rfl) (by kernel_rfl) (fun _ _ _ h => h) (Or.inr ⟨by rfl, rfl⟩) (by assumption) ?_
      try simp only [Act.put, List.setIfInBounds_toArray, List.set_cons_zero, List.set_cons_succ]
      refine wpAnyH_take (i := 10) (oi := ⟨some 30, _, _, _, _, _⟩) (v := undef) rfl (by kernel_rfl) (by kernel_rfl) (by kernel_rfl) (fun _ _ _ h => h) (Or.inr ⟨by rfl, rfl⟩) (by assumption) ?_
      try simp only [Act.put, List.setIfInBounds_toArray, List.set_cons_zero, List.set_cons_succ]
      refine wpAnyH_take (i := 11) (oi := ⟨some 31, _, _, _, _, _⟩) (v := undef) rfl (by kernel_rfl) (by kernel_rfl) (by kernel_rfl) (fun _ _ _ h => h) (Or.inr ⟨by rfl, rfl⟩) (by assumption) ?_
      try simp only [Act.put, List.setIfInBounds_toArray, List.set_cons_zero, List.set_cons_succ]
      refine wpAnyH_take (i := 12) (oi := ⟨some 32, _, _, _, _, _⟩) (v := undef) rfl (by kernel_rfl) (by kernel_rfl) (by kernel_rfl) (fun _ _ _ h => h) (Or.inr ⟨by rfl, rfl⟩) (by assumption) ?_
      try simp only [Act.put, List.setIfInBounds_toArray, List.set_cons_zero, List.set_cons_succ]
      refine wpAnyH_take (i := 13) (oi := ⟨some 33, _, _, _, _, _⟩) (v := undef) rfl (by kernel_rfl) (by kernel_rfl) (by kernel_rfl) (fun _ _ _ h => h) (Or.inr ⟨by rfl, rfl⟩) (by assumption) ?_
      try simp only [Act.put, List.setIfInBounds_toArray, List.set_cons_zero, List.set_cons_succ]
      refine wpAnyH_take (i := 14) (oi := ⟨some 34, _, _, _, _, _⟩) (v := undef) rfl (by kernel_rfl) (by kernel_rfl) (by kernel_rfl) (fun _ _ _ h => h) (Or.inr ⟨by rfl, rfl⟩) (by assumption) ?_
      try simp only [Act.put, List.setIfInBounds_toArray, List.set_cons_zero, List.set_cons_succ]
      refine wpAnyH_take (i := 15) (oi := ⟨some 35, _, _, _, _, _⟩) (v := undef) rfl (by kernel_rfl) (by kernel_rfl) (by kernel_rfl) (fun _ _ _ h => h) (Or.inr ⟨by rfl, rfl⟩) (by assumption) ?_
      try simp only [Act.put, List.setIfInBounds_toArray, List.set_cons_zero, List.set_cons_succ]
      refine wpAnyH_take (i := 16) (oi := ⟨some 36, _, _, _, _, _⟩) (v := .bool true) rfl (by kernel_rfl) (by kernel_rfl) (by kernel_rfl) (fun _ _ _ h => h) (Or.inl ⟨by rfl, fun w2 hSw => ?_⟩) (by assumption) ?_
      · obtain ⟨s0, s1⟩ := hSw; go_simp
      try simp only [Act.put, List.setIfInBounds_toArray, List.set_cons_zero, List.set_cons_succ]
      refine wpAnyH_done (by kernel_rfl) ?_ _
      go_wp2
      go_ret
      exact ⟨by rw [HR.out]; rfl, HB0.out.trans (HB1.out.mono HB0.out.size)⟩
    rw [hnr] at HPl
    have HNr := Lib.hid hnr
    clear hnr
    by_cases hk0 : k = 0
    · subst hk0
      simp only [Nat.zero_mul, Nat.add_zero] at d0 d1
      have HS0 : Hid (W0.drew.cell? ⟨wr.heap.size, 0, none⟩ = some (.int .i64 (X 0)) ∧ W0.drew.cell? ⟨wr.heap.size, 1, none⟩ = some (.int .i64 (Y 0))) := ⟨block_cell HA.out 0, block_cell HA.out 1⟩
      have HK : Hid (∀ v, Below W0.heap.size W0 v → v.cell? ⟨wr.heap.size, 0, none⟩ = some (.int .i64 (X 0)) ∧ v.cell? ⟨wr.heap.size, 1, none⟩ = some (.int .i64 (Y 0))) := by
        intro v hv
        have h := (hv.block _ hsz0.out).trans HA.out
        exact ⟨block_cell h 0, block_cell h 1⟩
      have HN1 : Hid (okC X Y (0 + 1)) := okC_next HO.out HNr.out (Or.inl rfl)
      go_wp2_with fail
      rw [← HW0.out]
      refine wp_region_held_drew (S := (fun v => v.cell? ⟨wr.heap.size, 0, none⟩ = some (.int .i64 (X 0)) ∧ v.cell? ⟨wr.heap.size, 1, none⟩ = some (.int .i64 (Y 0)))) (by kernel_rfl) ?_ (fun hHeld => ?_)
      · go_split_ands; exact HS0.out
      refine wpAnyH_take (i := 0) (oi := ⟨some 20, _, _, _, _, _⟩) (v := .agg #[.int .i64 (X 0), .int .i64 (Y 0)]) rfl (by kernel_rfl) (by kernel_rfl) (by kernel_rfl) (fun _ _ _ h => h) (Or.inl ⟨by rfl, fun w2 hSw => ?_⟩) (by assumption) ?_
      · obtain ⟨s0, s1⟩ := hSw; go_simp
      try simp only [Act.put, List.setIfInBounds_toArray, List.set_cons_zero, List.set_cons_succ]
      refine wpAnyH_ready (rs := [1]) (by kernel_rfl) (by simp) ?_
      refine AllReadyH.cons (o := ⟨some 21, _, _, _, _, _⟩) rfl (fun K hK => ?_) AllReadyH.nil
      go_simp
      refine (HPl.out _).mono ?_
      rintro r w1 ⟨rfl, hb1⟩
      have HB1 := Lib.hid (below_drew1 hb1)
      have HS1 := Lib.hid (HK.out _ HB1.out)
      clear hb1
      clear hHeld
      go_wp2_with fail
      refine hK.out _ _ ?_ (fun hHeld => ?_)
      · go_split_ands; exact HS1.out
      clear hK K
      try simp only [Act.put, List.setIfInBounds_toArray, List.set_cons_zero, List.set_cons_succ]
      refine wpAnyH_take (i := 2) (oi := ⟨some 22, _, _, _, _, _⟩) (v := .bool false) rfl (by kernel_rfl) (by kernel_rfl) (by kernel_rfl) (fun _ _ _ h => h) (Or.inl ⟨by rfl, fun w2 hSw => ?_⟩) (by assumption) ?_
      · obtain ⟨s0, s1⟩ := hSw; go_simp
      try simp only [Act.put, List.setIfInBounds_toArray, List.set_cons_zero, List.set_cons_succ]
      refine wpAnyH_take (i := 3) (oi := ⟨some 23, _, _, _, _, _⟩) (v := .bool false) rfl (by kernel_rfl) (by kernel_rfl) (by kernel_rfl) (fun _ _ _ h => h) (Or.inl ⟨by rfl, fun w2 hSw => ?_⟩) (by assumption) ?_
      · obtain ⟨s0, s1⟩ := hSw; go_simp
      try simp only [Act.put, List.setIfInBounds_toArray, List.set_cons_zero, List.set_cons_succ]
      refine wpAnyH_take (i := 4) (oi := ⟨some 24, _, _, _, _, _⟩) (v := .int .i64 0) rfl (by kernel_rfl) (by kernel_rfl) (by kernel_rfl) (fun _ _ _ h => h) (Or.inl ⟨by rfl, fun w2 hSw => ?_⟩) (by assumption) ?_
      · obtain ⟨s0, s1⟩ := hSw; go_simp
      try simp only [Act.put, List.setIfInBounds_toArray, List.set_cons_zero, List.set_cons_succ]
      refine wpAnyH_take (i := 5) (oi := ⟨some 25, _, _, _, _, _⟩) (v := .bool false) rfl (by kernel_rfl) (by kernel_rfl) (by kernel_rfl) (fun _ _ _ h => h) (Or.inl ⟨by rfl, fun w2 hSw => ?_⟩) (by assumption) ?_
      · obtain ⟨s0, s1⟩ := hSw; go_simp
      try simp only [Act.put, List.setIfInBounds_toArray, List.set_cons_zero, List.set_cons_succ]
      refine wpAnyH_take (i := 6) (oi := ⟨some 26, _, _, _, _, _⟩) (v := .bool false) rfl (by kernel_rfl) (by kernel_rfl) (by kernel_rfl) (fun _ _ _ h => h) (Or.inl ⟨by rfl, fun w2 hSw => ?_⟩) (by assumption) ?_
      · obtain ⟨s0, s1⟩ := hSw; go_simp
      try simp only [Act.put, List.setIfInBounds_toArray, List.set_cons_zero, List.set_cons_succ]
      refine wpAnyH_take (i := 7) (oi := ⟨some 27, _, _, _, _, _⟩) (v := undef) rfl (by kernel_rfl) (by kernel_rfl) (by kernel_rfl) (fun _ _ _ h => h) (Or.inr ⟨by rfl, rfl⟩) (by assumption) ?_
      try simp only [Act.put, List.setIfInBounds_toArray, List.set_cons_zero, List.set_cons_succ]
      refine wpAnyH_take (i := 8) (oi := ⟨some 28, _, _, _, _, _⟩) (v := undef) rfl (by kernel_rfl) (by kernel_rfl) (by kernel_rfl) (fun _ _ _ h => h) (Or.inr ⟨by rfl, rfl⟩) (by assumption) ?_
      try simp only [Act.put, List.setIfInBounds_toArray, List.set_cons_zero, List.set_cons_succ]
      refine wpAnyH_take (i := 9) (oi := ⟨some 29, _, _, _, _, _⟩) (v := undef) rfl (by kernel_rfl) (by kernel_rfl) (by kernel_rfl) (fun _ _ _ h => h) (Or.inr ⟨by rfl, rfl⟩) (by assumption) ?_
      try simp only [Act.put, List.setIfInBounds_toArray, List.set_cons_zero, List.set_cons_succ]
      refine wpAnyH_take (i := 10) (oi := ⟨some 30, _, _, _, _, _⟩) (v := undef) rfl (by kernel_rfl) (by kernel_rfl) (by kernel_rfl) (fun _ _ _ h => h) (Or.inr ⟨by rfl, rfl⟩) (by assumption) ?_
      try simp only [Act.put, List.setIfInBounds_toArray, List.set_cons_zero, List.set_cons_succ]
      refine wpAnyH_take (i := 11) (oi := ⟨some 31, _, _, _, _, _⟩) (v := undef) rfl (by kernel_rfl) (by kernel_rfl) (by kernel_rfl) (fun _ _ _ h => h) (Or.inr ⟨by rfl, rfl⟩) (by assumption) ?_
      try simp only [Act.put, List.setIfInBounds_toArray, List.set_cons_zero, List.set_cons_succ]
      refine wpAnyH_take (i := 12) (oi := ⟨some 32, _, _, _, _, _⟩) (v := undef) rfl (by kernel_rfl) (by kernel_rfl) (by kernel_rfl) (fun _ _ _ h => h) (Or.inr ⟨by rfl, rfl⟩) (by assumption) ?_
      try simp only [Act.put, List.setIfInBounds_toArray, List.set_cons_zero, List.set_cons_succ]
      refine wpAnyH_take (i := 13) (oi := ⟨some 33, _, _, _, _, _⟩) (v := undef) rfl (by kernel_rfl) (by kernel_rfl) (by kernel_rfl) (fun _ _ _ h => h) (Or.inr ⟨by rfl, rfl⟩) (by assumption) ?_
      try simp only [Act.put, List.setIfInBounds_toArray, List.set_cons_zero, List.set_cons_succ]
      refine wpAnyH_take (i := 14) (oi := ⟨some 34, _, _, _, _, _⟩) (v := undef) rfl (by kernel_rfl) (by kernel_rfl) (by kernel_rfl) (fun _ _ _ h => h) (Or.inr ⟨by rfl, rfl⟩) (by assumption) ?_
      try simp only [Act.put, List.setIfInBounds_toArray, List.set_cons_zero, List.set_cons_succ]
      refine wpAnyH_take (i := 15) (oi := ⟨some 35, _, _, _, _, _⟩) (v := .bool false) rfl (by kernel_rfl) (by kernel_rfl) (by kernel_rfl) (fun _ _ _ h => h) (Or.inl ⟨by rfl, fun w2 hSw => ?_⟩) (by assumption) ?_
      · obtain ⟨s0, s1⟩ := hSw; go_simp
      try simp only [Act.put, List.setIfInBounds_toArray, List.set_cons_zero, List.set_cons_succ]
      refine wpAnyH_take (i := 16) (oi := ⟨some 36, _, _, _, _, _⟩) (v := .bool false) rfl (by kernel_rfl) (by kernel_rfl) (by kernel_rfl) (fun _ _ _ h => h) (Or.inl ⟨by rfl, fun w2 hSw => ?_⟩) (by assumption) ?_
      · obtain ⟨s0, s1⟩ := hSw; go_simp
      try simp only [Act.put, List.setIfInBounds_toArray, List.set_cons_zero, List.set_cons_succ]
      refine wpAnyH_done (by kernel_rfl) ?_ _
      go_wp2
      go_roundw
      case rel => exact ⟨0 + 1, by omega, by go_num, HB0.out.trans (HB1.out.mono HB0.out.size), HN1⟩
      case measure => simp [intOf]; omega
    · obtain ⟨b', o', e1, d2, d3⟩ := hCW.out.two (show k - 1 < n by omega)
      injection e1 with e1; injection e1 with e1 e1'; subst e1; subst e1'
      have hbl2 := World.block_lt_of_cell? _ _ d2
      have HS0 : Hid (W0.drew.cell? ⟨wr.heap.size, 0, none⟩ = some (.int .i64 (X k)) ∧ W0.drew.cell? ⟨wr.heap.size, 1, none⟩ = some (.int .i64 (Y k)) ∧ W0.drew.cell? ⟨b, o + (k - 1) * 2, none⟩ = some (.int .i64 (X (k - 1))) ∧ W0.drew.cell? ⟨b, o + (k - 1) * 2 + 1, none⟩ = some (.int .i64 (Y (k - 1)))) := ⟨block_cell HA.out 0, block_cell HA.out 1, d2, d3⟩
      have HK : Hid (∀ v, Below W0.heap.size W0 v → v.cell? ⟨wr.heap.size, 0, none⟩ = some (.int .i64 (X k)) ∧ v.cell? ⟨wr.heap.size, 1, none⟩ = some (.int .i64 (Y k)) ∧ v.cell? ⟨b, o + (k - 1) * 2, none⟩ = some (.int .i64 (X (k - 1))) ∧ v.cell? ⟨b, o + (k - 1) * 2 + 1, none⟩ = some (.int .i64 (Y (k - 1)))) := by
        intro v hv
        have h := (hv.block _ hsz0.out).trans HA.out
        refine ⟨block_cell h 0, block_cell h 1, ?_, ?_⟩
        · rw [hv.cell (p := ⟨b, o + (k - 1) * 2, none⟩) hbl2]; exact d2
        · rw [hv.cell (p := ⟨b, o + (k - 1) * 2 + 1, none⟩) hbl2]; exact d3
      have HCm := Lib.hid (fun W => mcompare_any (X (k - 1)) (Y (k - 1)) (X k) (Y k) W)
      have s1 : IntKind.i64.wrap ((k : Int) - 1) = (k : Int) - 1 := IntWalk.i64_in _ (by omega)
      have s2 : ((k : Int) - 1).toNat = k - 1 := by omega
      have s3 : (0 : Int) ≤ (k : Int) - 1 := by omega
      have s3' : (1 : Int) ≤ (k : Int) := by omega
      have s4 : (k : Int) - 1 < n := by omega
      have s5 : (0 : Int) < k := by omega
      have s6 : 0 < k := by omega
      have s7 : decide ((0 : Int) < (k : Int)) = true := decide_eq_true s5
      have s8 : decide (0 < k) = true := decide_eq_true s6
      cases hl : ltB (X (k - 1)) (Y (k - 1)) (X k) (Y k)
      · have HR : Hid (cellsB n X Y = false) := cellsB_no (fun h => by
          have := (h.2.2 k hlt).2
          rcases this with h1 | h1
          · exact hk0 h1
          · rw [hl] at h1; cases h1)
        have hg : 0 ≤ cmpP (X (k - 1)) (Y (k - 1)) (X k) (Y k) := by
          have : ¬ cmpP (X (k - 1)) (Y (k - 1)) (X k) (Y k) < 0 := by simpa [ltB] using hl
          omega
        clear hl hk0 d2 d3
        generalize cmpP (X (k - 1)) (Y (k - 1)) (X k) (Y k) = c at hg HCm
        obtain ⟨q0, q1, q2, q3⟩ := HS0.out
        go_wp2_with fail
        rw [← HW0.out]
        go_region_held3 (fun v => v.cell? ⟨wr.heap.size, 0, none⟩ = some (.int .i64 (X k)) ∧ v.cell? ⟨wr.heap.size, 1, none⟩ = some (.int .i64 (Y k)) ∧ v.cell? ⟨b, o + (k - 1) * 2, none⟩ = some (.int .i64 (X (k - 1))) ∧ v.cell? ⟨b, o + (k - 1) * 2 + 1, none⟩ = some (.int .i64 (Y (k - 1))))
          (first
            | (go_split_ands; exact HS2.out)
            | (go_split_ands; exact HS1.out)
            | (go_split_ands; exact HS0.out)
            | go_keep)
          ((first
            | (go_at_call 26; (with_reducible refine (HPl.out _).mono ?_); rintro r w1 ⟨rfl, hb1⟩; have HB1 := Lib.hid (below_drew1 hb1); have HS1 := Lib.hid (HK.out _ HB1.out); clear hb1)
            | (go_at_call 42; (with_reducible refine (HCm.out _).mono ?_); rintro r w3 ⟨rfl, hb3⟩; have HB2 := Lib.hid (band HB1.out hb3); have HS2 := Lib.hid (HK.out _ HB2.out); clear hb3)))
        all_goals
          clear s1 s2 s3 s3' s4 s7 s8
          go_wp2
          go_ret
          exact ⟨by rw [HR.out]; rfl, HB0.out.trans (HB2.out.mono HB0.out.size)⟩
      · have HN1 : Hid (okC X Y (k + 1)) := okC_next HO.out HNr.out (Or.inr hl)
        have hg : cmpP (X (k - 1)) (Y (k - 1)) (X k) (Y k) < 0 := by simpa [ltB] using hl
        clear hl hk0 d2 d3
        generalize cmpP (X (k - 1)) (Y (k - 1)) (X k) (Y k) = c at hg HCm
        obtain ⟨q0, q1, q2, q3⟩ := HS0.out
        go_wp2_with fail
        rw [← HW0.out]
        go_region_held3 (fun v => v.cell? ⟨wr.heap.size, 0, none⟩ = some (.int .i64 (X k)) ∧ v.cell? ⟨wr.heap.size, 1, none⟩ = some (.int .i64 (Y k)) ∧ v.cell? ⟨b, o + (k - 1) * 2, none⟩ = some (.int .i64 (X (k - 1))) ∧ v.cell? ⟨b, o + (k - 1) * 2 + 1, none⟩ = some (.int .i64 (Y (k - 1))))
          (first
            | (go_split_ands; exact HS2.out)
            | (go_split_ands; exact HS1.out)
            | (go_split_ands; exact HS0.out)
            | go_keep)
          ((first
            | (go_at_call 26; (with_reducible refine (HPl.out _).mono ?_); rintro r w1 ⟨rfl, hb1⟩; have HB1 := Lib.hid (below_drew1 hb1); have HS1 := Lib.hid (HK.out _ HB1.out); clear hb1)
            | (go_at_call 42; (with_reducible refine (HCm.out _).mono ?_); rintro r w3 ⟨rfl, hb3⟩; have HB2 := Lib.hid (band HB1.out hb3); have HS2 := Lib.hid (HK.out _ HB2.out); clear hb3)))
        all_goals
          clear s1 s2 s3 s3' s4 s7 s8
          go_wp2
          go_roundw
          case rel => exact ⟨k + 1, by omega, by go_num, HB0.out.trans (HB2.out.mono HB0.out.size), HN1⟩
          case measure => simp [intOf]; omega

end Go.Proofs.YtfommfgokpiieabDoor
