import Derived.Test.YtmbccdjoliegiaaM2
namespace Go.Proofs.Ytmbccdjoliegiaa
open Go.RowKit

set_option maxHeartbeats 1000000 in
set_option maxRecDepth 100000 in
theorem row_one (f : Nat) (w : World) :
    Calls Try.prog 69 #[.int .i64 f, .int .i64 1] w fun e w' => e = .returned (.slice none 0 0) ∧ w = w' := by
  go_enter Try.func69, Try.ntmps69
  go_wp2
  refine wp_loop_rounds 1 ?_
  rw [rounds_succ]
  go_wp2
  go_ret
  exact ⟨rfl, rfl⟩

set_option maxHeartbeats 1000000 in
set_option maxRecDepth 100000 in
theorem growC_zero (w : World) :
    Calls Try.prog 84 #[.slice none 0 0, .int .i64 0] w fun e w' => e = .returned (.slice none 0 0) ∧ w = w' := by
  go_enter Try.func84, Try.ntmps84
  go_wp2
  go_ret
  exact ⟨rfl, rfl⟩

set_option maxHeartbeats 4000000 in
set_option maxRecDepth 100000 in
theorem concatC_nil (b c : Nat) (w : World) (q0 : w.cell? ⟨b, 0, none⟩ = some (.slice none 0 0)) (q1 : w.cell? ⟨b, 1, none⟩ = some (.slice none 0 0)) :
    Calls Try.prog 79 #[.slice (some ⟨b, 0, none⟩) 2 c] w fun e w' => e = .returned (.slice none 0 0) ∧ Below w.heap.size w w' := by
  have HGr := Lib.hid (growC_zero w)
  go_enter Try.func79, Try.ntmps79
  go_wp2
  refine wp_loop_rounds 3 ?_
  rw [rounds_succ]
  go_wp2
  rw [rounds_succ]
  go_wp2
  rw [rounds_succ]
  go_wp2_with fail
  refine HGr.out.mono ?_
  rintro e w2 ⟨rfl, rfl⟩
  go_wp2
  refine wp_loop_rounds 3 ?_
  rw [rounds_succ]
  go_wp2
  rw [rounds_succ]
  go_wp2
  rw [rounds_succ]
  go_wp2
  go_ret
  exact ⟨rfl, Below.refl _ _⟩

set_option maxHeartbeats 4000000 in
set_option maxRecDepth 100000 in
theorem twoRows_one (w : World) :
    Calls Try.prog 67 #[.int .i64 1] w fun e w' => ∃ a cap, e = .returned (.agg #[.int .i64 2, .slice a 1 cap]) ∧ TriAt w' a (mapN 1) ∧ 1 ≤ cap ∧ cap ≤ maxLen ∧ (∀ b o s, a = some ⟨b, o, s⟩ → w.heap.size < b ∧ b < w'.heap.size) ∧ Below w.heap.size w w' := by
  obtain ⟨i0, hi, hz0, hz1, hz2⟩ := info_parts Try.infoC
  have HR0 := row_one 0
  have HR1 := row_one 1
  go_enter Try.func67, Try.ntmps67
  go_wp2_with fail
  refine (HR0 _).mono ?_
  rintro e w' ⟨rfl, rfl⟩
  clear HR0
  go_wp2_with fail
  refine (HR1 _).mono ?_
  rintro e w' ⟨rfl, rfl⟩
  clear HR1
  obtain ⟨w2, hw2⟩ : ∃ w2, w2 = w.alloc (.cells #[.int .i64 0, .slice none 0 0] 62) := ⟨_, rfl⟩
  have hs2 : w2.heap.size = w.heap.size + 1 := by rw [hw2]; simp
  obtain ⟨w3, hw3⟩ : ∃ w3, w3 = w2.alloc (.cells #[.slice none 0 0, .slice none 0 0] 60) := ⟨_, rfl⟩
  have hs3 : w3.heap.size = w.heap.size + 2 := by rw [hw3, World.size_alloc, hs2]
  have HC := Lib.hid (concatC_nil w2.heap.size 2 w3 (by rw [hw3]; exact block_cell (heap_alloc_new w2 _) 0) (by rw [hw3]; exact block_cell (heap_alloc_new w2 _) 1))
  have HB3 : Hid (Below (w.heap.size + 1) w2 w3) := by rw [hw3]; exact (Below.refl _ _).alloc (by omega) _
  rw [hs2] at HC
  go_wp2_with fail
  rw [← hw2, ← hw3]
  refine HC.out.mono ?_
  rintro e w4 ⟨rfl, hb4⟩
  have HB4 : Hid (Below (w.heap.size + 1) w2 w4) := HB3.out.trans (hb4.mono (by omega))
  have Hw2 := Lib.hid hw2
  have hs4 := hb4.size
  rw [hs3] at hs4
  clear hb4 HC hw2 hw3 hs3
  go_wp2
  go_loopw [3, 13] (fun v i wr => ∃ k : Nat, k ≤ 1 ∧ i = .int .i64 k ∧ OwnT 84 wr w4.heap.size v (colN 1 k) ∧ Below w4.heap.size w4 wr) (fun _ i _ => 1 - (intOf i).toNat)
  case atStart => exact ⟨0, Nat.zero_le _, rfl, OwnT.nil _ _ _, Below.refl _ _⟩
  case round =>
    obtain ⟨k, hk, rfl, hO, hb⟩ := hrel
    have HO := Lib.hid hO
    have HB := Lib.hid hb
    have hBs := hb.size
    clear hO hb
    by_cases hlt : k < 1
    · obtain ⟨l, hl⟩ : ∃ l, l = colN 1 k := ⟨_, rfl⟩
      have hll : l.length ≤ 100 := by rw [hl, colN_len]; omega
      have HL : Hid (colN 1 (k + 1) = l ++ [⟨2, (k : Int), (1 : Int) + k⟩]) := by rw [Hid, colN_snoc, ← hl]; simp
      rw [← hl] at HO
      clear hl
      go_wp2_with (at_builtin; refine wpList_append_own _ rfl _ _ 60 rfl w4.heap.size 84 i0 (.agg #[.int .i64 0, .int .i64 0, .int .i64 0]) 3 24 Try.underlying60 hi hz0 hz1 hz2 rfl (by decide) _ _ _ rfl (HO.out.alloc _) ⟨wr.heap.size, 0, none⟩ 1 1 (tcell ⟨2, (k : Int), (1 : Int) + k⟩) rfl rfl (three_new _ _ _) (three_ok _) (by unfold maxLen; omega) (by omega) (by simp; omega) ?_)
      intro v' w5 hown hgrow _
      have HO5 : Hid (OwnT 84 w5 w4.heap.size v' (colN 1 (k + 1))) := by rw [HL.out]; exact OwnT.snoc hown
      have HB5 : Hid (Below w4.heap.size w4 w5) := (HB.out.alloc (by omega) _).grown hgrow (by simp; omega) (fun k hk => (World.ownsRow.lt HO.out k hk).1)
      clear hown hgrow
      go_wp2
      go_roundw
      case rel => exact ⟨k + 1, by omega, by go_num, HO5.out, HB5.out⟩
      case measure => simp [intOf]; omega
    · have e : k = 1 := by omega
      have HO2 : Hid (OwnT 84 wr w4.heap.size u3 (mapN 1)) := by rw [e] at HO; exact HO.out
      obtain ⟨a, cap, rfl, -, hc1, hc2, -⟩ := HO2.out.read
      rw [mapN_len 1 (by omega)] at hc1 HO2 ⊢
      simp only [Nat.reduceMul, Nat.reduceSub] at hc1 HO2 ⊢
      have HC1 := Lib.hid hc1
      have HC2 := Lib.hid hc2
      clear hc1 hc2 HO
      have hge : (1 : Int) ≤ k := by omega
      clear e
      have HBr : Hid (Below (w.heap.size + 1) w2 wr) := HB4.out.trans (HB.out.mono (by omega))
      rw [Hw2.out] at HBr
      have hblk : wr.heap[w.heap.size]? = some (.cells #[.int .i64 0, .slice none 0 0] 62) := (HBr.out.block w.heap.size (Nat.lt_succ_self _)).trans (heap_alloc_new w _)
      have c0 := block_cell hblk 0
      have c1 := block_cell hblk 1
      have f0 := block_free hblk 0
      have f1 := block_free hblk 1
      simp at c0 c1
      have HK := Lib.hid hblk
      clear hblk
      go_wp2
      have hB2 : Below w.heap.size w ((wr.setCell ⟨w.heap.size, 0, none⟩ (.int .i64 2)).setCell ⟨w.heap.size, 1, none⟩ (.slice a 1 cap)) :=
        ((((Below.refl _ w).alloc (Nat.le_refl _) _).trans (HBr.out.mono (by simp))).setCell (Nat.le_refl _) _).setCell (Nat.le_refl _) _
      have hO2 : OwnT 84 ((wr.setCell ⟨w.heap.size, 0, none⟩ (.int .i64 2)).setCell ⟨w.heap.size, 1, none⟩ (.slice a 1 cap)) w4.heap.size (.slice a 1 cap) (mapN 1) :=
        own_set (own_set HO2.out (by show w.heap.size < _; omega) _) (by show w.heap.size < _; omega) _
      obtain ⟨a', cap', he, hT, _, _, hlt2⟩ := hO2.read
      injection he with he1 he2 he3
      subst he1
      exact bodyPost_ret (v := .agg #[.int .i64 2, .slice a 1 cap]) (by simp [results, Try.results67, go_sem, c0, c1]) rfl ⟨a, cap, rfl, hT, HC1.out, HC2.out, fun b o s h => by have := hlt2 b o s h; omega, hB2⟩

/-- The map with n columns. -/
theorem map_wrapper (n : Nat) (w : World) (h1 : 1 ≤ n) (h4 : n ≤ 4) :
    Calls Try.prog 67 #[.int .i64 n] w fun e w' => ∃ a cap, e = .returned (.agg #[.int .i64 (2 * (n : Int)), .slice a (3 * n - 2) cap]) ∧ TriAt w' a (mapN n) ∧ 3 * n - 2 ≤ cap ∧ cap ≤ maxLen ∧ (∀ b o s, a = some ⟨b, o, s⟩ → w.heap.size < b ∧ b < w'.heap.size) ∧ Below w.heap.size w w' := by
  by_cases h : n = 1
  · subst h; exact twoRows_one w
  · exact twoRows_any n w (by omega) h4

end Go.Proofs.Ytmbccdjoliegiaa
