import Derived.Test.YtaglbnblfhfkeaaB5
namespace Go.Proofs.Ytaglbnblfhfkeaa
open Go.RowKit

theorem dotN_congr {f f' g g' : Nat → Int} : ∀ k, (∀ j, j < k → f j = f' j ∧ g j = g' j) → dotN f g k = dotN f' g' k
  | 0, _ => rfl
  | k + 1, h => by
    simp only [dotN]
    rw [dotN_congr k (fun j hj => h j (by omega)), (h k (by omega)).1, (h k (by omega)).2]

theorem dotN_zero {f g : Nat → Int} : ∀ m k, m ≤ k → (∀ j, m ≤ j → j < k → f j * g j = 0) → dotN f g k = dotN f g m := by
  intro m k hk
  induction hk with
  | refl => intro _; rfl
  | step h ih =>
    rename_i k
    intro hz
    simp only [dotN]
    rw [hz k h (by omega), ih (fun j h1 h2 => hz j h1 (by omega))]
    omega

/-- Behind the columns there is 0: the sum over four is the sum over n. -/
theorem dotN_pad {f z : Nat → Int} {n : Nat} (hn : n ≤ 4) : dotN (padN f n) (padN z n) 4 = dotN f z n := by
  rw [dotN_zero n 4 hn (fun j h1 _ => by simp [padN, Nat.not_lt.2 h1])]
  exact dotN_congr n fun j hj => by simp [padN, hj]

theorem nums4 {z : Nat → Int} {n : Nat} {lo hi : Int} (h : ∀ i, i < n → lo ≤ z i ∧ z i ≤ hi) (h0 : lo ≤ 0) (h1 : 0 ≤ hi) (j : Nat) : lo ≤ padN z n j ∧ padN z n j ≤ hi := by
  unfold padN
  split
  · exact h j ‹_›
  · exact ⟨h0, h1⟩

set_option maxHeartbeats 4000000 in
set_option maxRecDepth 100000 in
theorem times_no (a : Option Addr) (cap R : Nat) (A : Nat → Option Addr) (L C : Nat → Nat) (Z : Nat → Nat → Int) (ax : Option Addr) (n cx : Nat) (z : Nat → Int) (w : World)
    (hs : R ≤ 140737488351232) (hn : n ≤ 140737488351232) (hm : Mat w a R A L C Z) (hz : Ints w ax n z) (hr : isVec R L Z n z (-1000) 1000 = false) :
    Calls Try.prog 15 #[.slice a R cap, .slice ax n cx] w fun e w' => e = .returned (.tuple #[.slice none 0 0, .int .i64 2]) ∧ Below w.heap.size w w' := by
  have main : Calls Try.prog 58 #[.slice a R cap, .slice ax n cx, .int .i64 (-1000), .int .i64 1000] w fun e w' => SomeBoth w e w' := by
    cases hM : isMat R L Z
    · exact readBoth_no1 _ _ _ _ _ _ _ _ _ _ _ _ _ hs hm hM
    · by_cases hnL : n = L 0
      · have hA : allIn z n (-1000) 1000 = false := by simpa [isVec, hM, hnL] using hr
        exact (readBoth_yes false _ _ _ _ _ _ _ _ _ _ _ _ _ _ hm hM hnL hz hA).mono fun e w' h => by simpa using h
      · exact readBoth_no2 _ _ _ _ _ _ _ _ _ _ _ _ _ hn hm hM hnL
  have Main := Lib.hid main
  clear main hr hm hz
  go_enter Try.func15, Try.ntmps15
  go_wp2_with fail
  refine Main.out.mono ?_
  rintro e w1 ⟨r0, r1, v, c, rfl, hb⟩
  have HB := Lib.hid hb
  clear hb
  go_wp2
  go_ret2
  exact ⟨rfl, (HB.out.alloc HB.out.size _).alloc (by have := HB.out.size; simp; omega) _⟩

theorem slice_rows1 (b : Nat) (w : World) : (Instr.sliceAt 62 (.pointer (some ⟨b, 0, none⟩)) none (some (.int .i64 1)) none).run Try.prog w = .ok (.slice (some ⟨b, 0, none⟩) 1 2) w := by kernel_rfl
theorem slice_rows2 (b : Nat) (w : World) : (Instr.sliceAt 62 (.pointer (some ⟨b, 0, none⟩)) none (some (.int .i64 2)) none).run Try.prog w = .ok (.slice (some ⟨b, 0, none⟩) 2 2) w := by kernel_rfl
theorem slice_rows {R : Nat} (h1 : 1 ≤ R) (h2 : R ≤ 2) (b : Nat) (w : World) : (Instr.sliceAt 62 (.pointer (some ⟨b, 0, none⟩)) none (some (.int .i64 (R : Int))) none).run Try.prog w = .ok (.slice (some ⟨b, 0, none⟩) R 2) w := by
  have : R = 1 ∨ R = 2 := by omega
  rcases this with rfl | rfl
  · exact slice_rows1 b w
  · exact slice_rows2 b w

theorem readBoth_true (a : Option Addr) (cap R : Nat) (A : Nat → Option Addr) (L C : Nat → Nat) (Z : Nat → Nat → Int) (ax : Option Addr) (n cx : Nat) (z : Nat → Int) (lo hi : Int) (w : World)
    (hm : Mat w a R A L C Z) (hr : isMat R L Z = true) (hnL : n = L 0) (hz : Ints w ax n z) (hA : allIn z n lo hi = true) :
    Calls Try.prog 58 #[.slice a R cap, .slice ax n cx, .int .i64 lo, .int .i64 hi] w fun e w' => e = .returned (.tuple #[.agg #[.int .i64 (rowN R L Z 0 0), .int .i64 (rowN R L Z 0 1), .int .i64 (rowN R L Z 0 2), .int .i64 (rowN R L Z 0 3), .int .i64 (rowN R L Z 1 0), .int .i64 (rowN R L Z 1 1), .int .i64 (rowN R L Z 1 2), .int .i64 (rowN R L Z 1 3), .int .i64 (n : Int)], .agg #[.int .i64 (padN z n 0), .int .i64 (padN z n 1), .int .i64 (padN z n 2), .int .i64 (padN z n 3)], .bool true]) ∧ Below w.heap.size w w' :=
  (readBoth_yes true a cap R A L C Z ax n cx z lo hi w hm hr hnL hz hA).mono fun e w' h => by simpa using h

theorem isVec_iff {R : Nat} {L : Nat → Nat} {Z : Nat → Nat → Int} {n : Nat} {z : Nat → Int} {lo hi : Int} : isVec R L Z n z lo hi = true ↔ isMat R L Z = true ∧ n = L 0 ∧ allIn z n lo hi = true := by
  simp [isVec, Bool.and_eq_true]

set_option maxHeartbeats 4000000 in
set_option maxRecDepth 100000 in
theorem times_yes (a : Option Addr) (cap R : Nat) (A : Nat → Option Addr) (L C : Nat → Nat) (Z : Nat → Nat → Int) (ax : Option Addr) (n cx : Nat) (z : Nat → Int) (w : World)
    (hm : Mat w a R A L C Z) (hz : Ints w ax n z) (hr : isVec R L Z n z (-1000) 1000 = true) :
    Calls Try.prog 15 #[.slice a R cap, .slice ax n cx] w fun e w' => ∃ a' cap', e = .returned (.tuple #[.slice a' R cap', .int .i64 0]) ∧ Own w' w.heap.size a' R cap' (fun j => dotN (Z j) z n) ∧ Below w.heap.size w w' := by
  obtain ⟨hM, hnL, hA⟩ := isVec_iff.1 hr
  have hM' := isMat_iff.1 hM
  have hR1 := hM'.1
  have hR2 := hM'.2.1
  have hrows := Lib.hid hM'.2.2
  have hn4 : n ≤ 4 := by have := (hrows.out 0 (by omega)).2.2.1; omega
  have HA := Lib.hid (allIn_iff.1 hA)
  have HnL := Lib.hid hnL
  have main := Lib.hid (readBoth_true _ cap _ _ _ _ _ _ _ cx _ _ _ _ hm hM hnL hz hA)
  clear hr hm hz hA hM' hM hnL
  go_enter Try.func15, Try.ntmps15
  go_wp2_with fail
  refine main.out.mono ?_
  rintro e w1 ⟨rfl, hb⟩
  have HB := Lib.hid hb
  clear hb main
  have hsl := slice_rows hR1 hR2
  go_wp2
  obtain ⟨W0, hW0⟩ : ∃ W0, W0 = (w1.alloc (.cells #[.int .i64 (rowN R L Z 0 0), .int .i64 (rowN R L Z 0 1), .int .i64 (rowN R L Z 0 2), .int .i64 (rowN R L Z 0 3), .int .i64 (rowN R L Z 1 0), .int .i64 (rowN R L Z 1 1), .int .i64 (rowN R L Z 1 2), .int .i64 (rowN R L Z 1 3), .int .i64 (n : Int)] 64)).alloc (.cells #[.int .i64 (padN z n 0), .int .i64 (padN z n 1), .int .i64 (padN z n 2), .int .i64 (padN z n 3)] 61) := ⟨_, rfl⟩
  rw [← hW0]
  have hm0 : W0.heap[w1.heap.size]? = some (.cells #[.int .i64 (rowN R L Z 0 0), .int .i64 (rowN R L Z 0 1), .int .i64 (rowN R L Z 0 2), .int .i64 (rowN R L Z 0 3), .int .i64 (rowN R L Z 1 0), .int .i64 (rowN R L Z 1 1), .int .i64 (rowN R L Z 1 2), .int .i64 (rowN R L Z 1 3), .int .i64 (n : Int)] 64) := by rw [hW0]; exact heap_two1 _ _ _
  have hv0 : W0.heap[w1.heap.size + 1]? = some (.cells #[.int .i64 (padN z n 0), .int .i64 (padN z n 1), .int .i64 (padN z n 2), .int .i64 (padN z n 3)] 61) := by rw [hW0]; exact heap_two2 _ _ _
  have hs0 : W0.heap.size = w1.heap.size + 2 := by rw [hW0]; simp
  have HB0 : Hid (Below w.heap.size w W0) := by rw [hW0]; exact (HB.out.alloc HB.out.size _).alloc (by have := HB.out.size; simp; omega) _
  have Hm0 := Lib.hid hm0
  have Hv0 := Lib.hid hv0
  have Hs0 := Lib.hid hs0
  clear hW0 hm0 hv0 hs0 hsl
  go_loopw [9, 26] (fun v i wr => ∃ k : Nat, k ≤ R ∧ i = .int .i64 k ∧ (∃ a' cap', v = .slice a' k cap' ∧ Own wr (w1.heap.size + 2) a' k cap' (fun j => dotN (Z j) z n)) ∧ Below (w1.heap.size + 2) W0 wr) (fun _ i _ => R - (intOf i).toNat)
  case atStart => exact ⟨0, Nat.zero_le _, rfl, ⟨none, 0, rfl, World.ownsRow_nil _ _ _ _⟩, Below.refl _ _⟩
  case round =>
    obtain ⟨k, hk, rfl, ⟨a', cap', rfl, hO⟩, hb⟩ := hrel
    have HO := Lib.hid hO
    have HB2 := Lib.hid hb
    have hmr := (hb.block w1.heap.size (by omega)).trans Hm0.out
    have hvr := (hb.block (w1.heap.size + 1) (by omega)).trans Hv0.out
    have hsr : w1.heap.size + 1 < wr.heap.size := (Array.getElem?_eq_some_iff.1 hvr).1
    have hsr0 : w1.heap.size < wr.heap.size := by omega
    have c0 := mat_cells hmr
    have c1 := vec_cells hvr
    clear hO hb hmr hvr
    by_cases hlt : k < R
    · have hk01 : k = 0 ∨ k = 1 := by omega
      have Hp : Hid (∀ j, j < 4 → -1000000000000 ≤ rowN R L Z k j * padN z n j ∧ rowN R L Z k j * padN z n j ≤ 1000000000000) := by
        intro j _
        have e1 : rowN R L Z k j = padN (Z k) (L k) j := by simp [rowN, hlt]
        have h1 := nums4 (hrows.out k hlt).2.2.2 (by omega) (by omega) j
        have h2 := nums4 HA.out (by omega) (by omega) j
        rw [e1]
        have h3 := mul_two h1.1 h1.2 (M := 1000) h2.1 h2.2
        omega
      have Hd : Hid (dotN (rowN R L Z k) (padN z n) 4 = dotN (Z k) z n) := by
        have e1 : rowN R L Z k = padN (Z k) n := by
          funext j; simp only [rowN, hlt, if_true]; rw [(hrows.out k hlt).1, ← HnL.out]
        simp only [Hid]
        rw [e1]; exact dotN_pad hn4
      have hBs := HB2.out.size
      have hs0 := Hs0.out
      have hbase : w1.heap.size + 2 ≤ wr.heap.size := by omega
      clear hBs hs0
      rcases hk01 with rfl | rfl
      all_goals
        go_wp2_with fail
        refine (vdot_any _ _ _ Hp.out).mono ?_
        rintro e w2 ⟨rfl, hb⟩
        simp only [Hd.out]
        have hb2 : Below wr.heap.size wr w2 := ((Below.refl _ wr).alloc (Nat.le_refl _) _).trans (hb.mono (by simp))
        have HO2 := Lib.hid (HO.out.keep hb2)
        have HB3 : Hid (Below (w1.heap.size + 2) W0 w2) := HB2.out.trans (hb2.mono hbase)
        have hbase2 : w1.heap.size + 2 ≤ w2.heap.size := by have := hb2.size; omega
        clear hb hb2 c0 c1
        obtain ⟨i0, hi, hz0, hz1, hz2⟩ := info_parts Try.info3
        go_wp2_with (at_builtin; refine wpList_append_own _ rfl _ _ 23 rfl (w1.heap.size + 2) 3 i0 (.int .i64 0) 1 8 Try.underlying23 hi hz0 hz1 hz2 rfl (by decide) _ _ _ rfl (HO2.out.alloc _) ⟨w2.heap.size, 0, none⟩ 1 1 [.int .i64 _] rfl rfl (one_new _ _ _) (one_ok _ rfl) (by unfold maxLen; omega) (by omega) (by simp; omega) ?_)
        intro v' w3 hown hgrow _
        have hB' : Below (w1.heap.size + 2) W0 w3 := (HB3.out.alloc (by omega) _).grown hgrow (by simp; omega) (fun k hk => (World.ownsRow.lt HO2.out k hk).1)
        obtain ⟨a2, cap2, rfl, hO2⟩ := Own.snoc HO2.out hown rfl
        clear hown hgrow
        go_wp2
        go_roundw
        case rel => exact ⟨_, by omega, by go_num, ⟨_, _, rfl, hO2⟩, hB'⟩
        case measure => simp [intOf]; omega
    · have e : k = R := by omega
      subst e
      have HBw : Hid (Below w.heap.size w wr) := HB0.out.trans (HB2.out.mono (by have := HB.out.size; omega))
      have HO2 : Hid (Own wr w.heap.size a' k cap' fun j => dotN (Z j) z n) := HO.out.mono (by have := HB.out.size; omega)
      clear c0 c1
      go_wp2
      go_ret2
      exact ⟨_, _, rfl, HO2.out, HBw.out⟩
end Go.Proofs.Ytaglbnblfhfkeaa
