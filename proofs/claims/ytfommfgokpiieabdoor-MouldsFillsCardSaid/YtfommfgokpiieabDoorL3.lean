import Derived.Test.YtfommfgokpiieabDoorA5
import Derived.Test.YtfommfgokpiieabDoorC7
namespace Go.Proofs.YtfommfgokpiieabDoor
open Go.RowKit

def SomeB (r : Bool) (w : World) (e : Ending) (w' : World) : Prop := e = .returned (.bool r) ∧ Below w.heap.size w w'

theorem cellsB_min {n : Nat} {X Y : Nat → Int} : cellsB (min n 33) X Y = cellsB n X Y := by
  by_cases h : n ≤ 33
  · rw [show min n 33 = n by omega]
  · rw [cellsB_no (fun h' => by omega), cellsB_no (fun h' => by omega)]

set_option maxHeartbeats 8000000 in
set_option maxRecDepth 100000 in
theorem lfills_bad (W : World) (a : Option Addr) (n cap : Nat) (X Y : Nat → Int) (vx vy wx wy : Int) (hn : n ≤ cap) (hn8 : n ≤ 8796093022208) (hC : CellsAt W a 2 n (fun i => pcell (X i) (Y i))) (hS : StepsAt W)
    (h : okF n X Y vx vy wx wy = false) :
    Calls Tryd.prog 3 #[.slice a n cap, pV vx vy, pV wx wy] W fun e W' => SomeB true W e W' := by
  have HV := Lib.hid (VW.of W vx vy wx wy 23)
  have HL := Lib.hid (list_any a cap n X Y (((W.alloc (.cells #[.int .i64 vx, .int .i64 vy] 23)).alloc (.cells #[.int .i64 wx, .int .i64 wy] 23)).drew) hn hn8 ((hC.keep (Nat.le_refl _) HV.out.bel).keep (Nat.le_refl _) (Below.drew (Below.refl _ _))))
  have h' : okF (min n 33) X Y vx vy wx wy = false := by unfold okF at h ⊢; rw [cellsB_min]; exact h
  have HF := Lib.hid (fun a' cap' W' hC' => fFills_bad a' (min n 33) cap' X Y vx vy wx wy W' (Nat.min_le_right _ _) h' hC')
  have HS := Lib.hid (hS.keep HV.out.bel)
  have HC0 := Lib.hid (hC.keep (Nat.le_refl _) HV.out.bel)
  have HAw := Lib.hid (fun W' h => awake_any W' h)
  have HRL := Lib.hid (fun W' hC' => list_r a n cap X Y W' (by omega) hC')
  have HN1 := Lib.hid (fun W' => near_r vx vy W')
  have HN2 := Lib.hid (fun W' => near_r wx wy W')
  have hcs : cellsB n X Y = false ∨ (cellsB n X Y = true ∧ nearB vx vy = false) ∨ (cellsB n X Y = true ∧ nearB vx vy = true ∧ nearB wx wy = false) := by
    unfold okF at h
    cases h1 : cellsB n X Y
    · exact .inl rfl
    · cases h2 : nearB vx vy
      · exact .inr (.inl ⟨rfl, rfl⟩)
      · rw [h1, h2] at h; exact .inr (.inr ⟨rfl, rfl, by simpa using h⟩)
  clear hC hS h h'
  obtain ⟨v0, v1, vf0, vf1⟩ := HV.out.v
  obtain ⟨g0, g1, gf0, gf1⟩ := HV.out.w
  go_enter Tryd.func3, Tryd.ntmps3
  go_wp2
  obtain ⟨W0, hW0⟩ : ∃ W0, W0 = (W.alloc (.cells #[.int .i64 vx, .int .i64 vy] 23)).alloc (.cells #[.int .i64 wx, .int .i64 wy] 23) := ⟨_, rfl⟩
  rw [← hW0] at HV HL HS HC0 v0 v1 vf0 vf1 g0 g1 gf0 gf1 ⊢
  have HW0 := Lib.hid hW0
  clear hW0
  have HK : Hid (∀ v, Below W0.heap.size W0 v → v.cell? ⟨W.heap.size, 0, none⟩ = some (.int .i64 vx) ∧ v.cell? ⟨W.heap.size, 1, none⟩ = some (.int .i64 vy) ∧ v.cell? ⟨W.heap.size + 1, 0, none⟩ = some (.int .i64 wx) ∧ v.cell? ⟨W.heap.size + 1, 1, none⟩ = some (.int .i64 wy)) := by
    intro v hv
    have h := HV.out.keep hv
    exact ⟨h.v.c0, h.v.c1, h.w.c0, h.w.c1⟩
  go_region_held3 (fun v => v.cell? ⟨W.heap.size, 0, none⟩ = some (.int .i64 vx) ∧ v.cell? ⟨W.heap.size, 1, none⟩ = some (.int .i64 vy) ∧ v.cell? ⟨W.heap.size + 1, 0, none⟩ = some (.int .i64 wx) ∧ v.cell? ⟨W.heap.size + 1, 1, none⟩ = some (.int .i64 wy))
    (first
      | (go_split_ands; exact HS2.out)
      | (go_split_ands; exact HS1.out)
      | go_keep)
    ((first
      | (go_at_call 8; (with_reducible refine HL.out.mono ?_); rintro r w1 ⟨a', cap', rfl, h1, h2, h3, hb⟩; have HC1 := Lib.hid h3; have HB1 := Lib.hid (below_drew1 hb); have HS1 := Lib.hid (HK.out _ HB1.out); clear h1 h2 h3 hb)
      | (go_at_call 7; (with_reducible refine (HF.out _ _ _ HC1.out).mono ?_); rintro r w2 ⟨rfl, hb⟩; have HB2 := Lib.hid (band HB1.out hb); have HS2 := Lib.hid (HK.out _ HB2.out); clear hb)))
  all_goals
    have HV2 := Lib.hid (HV.out.keep HB2.out)
    have HC2 := Lib.hid (HC0.out.keep (Nat.le_refl _) HB2.out)
    have HT2 := Lib.hid (HS.out.keep HB2.out)
    clear HB1 HB2 HS1 HS2 HC1 HL HF HK HV HC0 HS v0 v1 vf0 vf1 g0 g1 gf0 gf1
    rcases hcs with h1 | ⟨h1, h2⟩ | ⟨h1, h2, h3⟩
    · rw [h1] at HRL
      clear h1
      go_wp2_with fail
      refine (HRL.out _ HC2.out).mono ?_
      rintro r w3 ⟨rfl, hb⟩
      have HBW := Lib.hid (band HV2.out.bel hb)
      have HT3 := Lib.hid (HT2.out.keep hb)
      clear hb
      go_wp2_with fail
      refine (HAw.out _ HT3.out).mono ?_
      rintro r w6 ⟨rfl, hb⟩
      have HBZ := Lib.hid (band HBW.out hb)
      clear hb
      go_wp2
      go_ret
      exact ⟨rfl, HBZ.out⟩
    · rw [h1] at HRL
      rw [h2] at HN1
      clear h1 h2
      go_wp2_with fail
      refine (HRL.out _ HC2.out).mono ?_
      rintro r w3 ⟨rfl, hb⟩
      have HV3 := Lib.hid (HV2.out.keep hb)
      have HT3 := Lib.hid (HT2.out.keep hb)
      clear hb
      obtain ⟨v0, v1, vf0, vf1⟩ := HV3.out.v
      go_wp2_with fail
      refine (HN1.out _).mono ?_
      rintro r w4 ⟨rfl, hb⟩
      have HBW := Lib.hid (band HV3.out.bel hb)
      have HT4 := Lib.hid (HT3.out.keep hb)
      clear hb v0 v1 vf0 vf1
      go_wp2_with fail
      refine (HAw.out _ HT4.out).mono ?_
      rintro r w6 ⟨rfl, hb⟩
      have HBZ := Lib.hid (band HBW.out hb)
      clear hb
      go_wp2
      go_ret
      exact ⟨rfl, HBZ.out⟩
    · rw [h1] at HRL
      rw [h2] at HN1
      rw [h3] at HN2
      clear h1 h2 h3
      go_wp2_with fail
      refine (HRL.out _ HC2.out).mono ?_
      rintro r w3 ⟨rfl, hb⟩
      have HV3 := Lib.hid (HV2.out.keep hb)
      have HT3 := Lib.hid (HT2.out.keep hb)
      clear hb
      obtain ⟨v0, v1, vf0, vf1⟩ := HV3.out.v
      go_wp2_with fail
      refine (HN1.out _).mono ?_
      rintro r w4 ⟨rfl, hb⟩
      have HV4 := Lib.hid (HV3.out.keep hb)
      have HT4 := Lib.hid (HT3.out.keep hb)
      clear hb v0 v1 vf0 vf1
      obtain ⟨v0, v1, vf0, vf1⟩ := HV4.out.w
      go_wp2_with fail
      refine (HN2.out _).mono ?_
      rintro r w5 ⟨rfl, hb⟩
      have HBW := Lib.hid (band HV4.out.bel hb)
      have HT5 := Lib.hid (HT4.out.keep hb)
      clear hb v0 v1 vf0 vf1
      go_wp2_with fail
      refine (HAw.out _ HT5.out).mono ?_
      rintro r w6 ⟨rfl, hb⟩
      have HBZ := Lib.hid (band HBW.out hb)
      clear hb
      go_wp2
      go_ret
      exact ⟨rfl, HBZ.out⟩

set_option maxHeartbeats 16000000 in
set_option maxRecDepth 100000 in
theorem lfills_good (W : World) (a : Option Addr) (n cap : Nat) (X Y : Nat → Int) (vx vy wx wy : Int) (hn : n ≤ cap) (hC : CellsAt W a 2 n (fun i => pcell (X i) (Y i))) (hS : StepsAt W)
    (h : okF n X Y vx vy wx wy = true) :
    Calls Tryd.prog 3 #[.slice a n cap, pV vx vy, pV wx wy] W fun e W' => SomeB true W e W' := by
  obtain ⟨h1, h2, h3⟩ := okF_iff.1 h
  obtain ⟨c1, c2, c3⟩ := cellsB_iff.1 h1
  have em : min n 33 = n := by omega
  have HV := Lib.hid (VW.of W vx vy wx wy 23)
  have HL0 := list_any a cap n X Y (((W.alloc (.cells #[.int .i64 vx, .int .i64 vy] 23)).alloc (.cells #[.int .i64 wx, .int .i64 wy] 23)).drew) hn (by omega) ((hC.keep (Nat.le_refl _) HV.out.bel).keep (Nat.le_refl _) (Below.drew (Below.refl _ _)))
  rw [em] at HL0
  have HL := Lib.hid HL0
  obtain ⟨B, hB⟩ : ∃ B, fillsB n X Y vx vy wx wy = B := ⟨_, rfl⟩
  have HF := Lib.hid (fun a' cap' W' hc1 hc2 hC' => fFills_good a' n cap' X Y vx vy wx wy W' hc1 hc2 h hC')
  have HRF := Lib.hid (fun W' hC' => fills_r a n cap X Y vx vy wx wy B W' hn h hB hC')
  rw [hB] at HF
  have HS := Lib.hid (hS.keep HV.out.bel)
  have HC0 := Lib.hid (hC.keep (Nat.le_refl _) HV.out.bel)
  have HAw := Lib.hid (fun W' h => awake_any W' h)
  have HRL := Lib.hid (fun W' hC' => list_r a n cap X Y W' (by omega) hC')
  have HN1 := Lib.hid (fun W' => near_r vx vy W')
  have HN2 := Lib.hid (fun W' => near_r wx wy W')
  rw [h1] at HRL
  rw [h2] at HN1
  rw [h3] at HN2
  obtain ⟨v0, v1, vf0, vf1⟩ := HV.out.v
  obtain ⟨g0, g1, gf0, gf1⟩ := HV.out.w
  clear hC hS h h1 h2 h3 c3 em HL0 hB
  go_enter Tryd.func3, Tryd.ntmps3
  go_wp2
  obtain ⟨W0, hW0⟩ : ∃ W0, W0 = (W.alloc (.cells #[.int .i64 vx, .int .i64 vy] 23)).alloc (.cells #[.int .i64 wx, .int .i64 wy] 23) := ⟨_, rfl⟩
  rw [← hW0] at HV HL HS HC0 v0 v1 vf0 vf1 g0 g1 gf0 gf1 ⊢
  have HW0 := Lib.hid hW0
  clear hW0
  have HK : Hid (∀ v, Below W0.heap.size W0 v → v.cell? ⟨W.heap.size, 0, none⟩ = some (.int .i64 vx) ∧ v.cell? ⟨W.heap.size, 1, none⟩ = some (.int .i64 vy) ∧ v.cell? ⟨W.heap.size + 1, 0, none⟩ = some (.int .i64 wx) ∧ v.cell? ⟨W.heap.size + 1, 1, none⟩ = some (.int .i64 wy)) := by
    intro v hv
    have h := HV.out.keep hv
    exact ⟨h.v.c0, h.v.c1, h.w.c0, h.w.c1⟩
  go_region_held3 (fun v => v.cell? ⟨W.heap.size, 0, none⟩ = some (.int .i64 vx) ∧ v.cell? ⟨W.heap.size, 1, none⟩ = some (.int .i64 vy) ∧ v.cell? ⟨W.heap.size + 1, 0, none⟩ = some (.int .i64 wx) ∧ v.cell? ⟨W.heap.size + 1, 1, none⟩ = some (.int .i64 wy))
    (first
      | (go_split_ands; exact HS2.out)
      | (go_split_ands; exact HS1.out)
      | go_keep)
    ((first
      | (go_at_call 8; (with_reducible refine HL.out.mono ?_); rintro r w1 ⟨a', cap', rfl, h1, h2, h3, hb⟩; have HC1 := Lib.hid h3; have Hc1 := Lib.hid h1; have Hc2 := Lib.hid h2; have HB1 := Lib.hid (below_drew1 hb); have HS1 := Lib.hid (HK.out _ HB1.out); clear h1 h2 h3 hb)
      | (go_at_call 7; (with_reducible refine (HF.out _ _ _ Hc1.out Hc2.out HC1.out).mono ?_); rintro r w2 ⟨rfl, hb⟩; have HB2 := Lib.hid (band HB1.out hb); have HS2 := Lib.hid (HK.out _ HB2.out); clear hb)))
  all_goals
    have HV2 := Lib.hid (HV.out.keep HB2.out)
    have HC2 := Lib.hid (HC0.out.keep (Nat.le_refl _) HB2.out)
    have HT2 := Lib.hid (HS.out.keep HB2.out)
    clear HB1 HB2 HS1 HS2 HC1 Hc1 Hc2 HL HF HK HV HC0 HS v0 v1 vf0 vf1 g0 g1 gf0 gf1
    go_wp2_with fail
    refine (HRL.out _ HC2.out).mono ?_
    rintro r w3 ⟨rfl, hb⟩
    have HV3 := Lib.hid (HV2.out.keep hb)
    have HC3 := Lib.hid (HC2.out.keep (Nat.le_refl _) hb)
    have HT3 := Lib.hid (HT2.out.keep hb)
    clear hb
    obtain ⟨v0, v1, vf0, vf1⟩ := HV3.out.v
    go_wp2_with fail
    refine (HN1.out _).mono ?_
    rintro r w4 ⟨rfl, hb⟩
    have HV4 := Lib.hid (HV3.out.keep hb)
    have HC4 := Lib.hid (HC3.out.keep (Nat.le_refl _) hb)
    have HT4 := Lib.hid (HT3.out.keep hb)
    clear hb v0 v1 vf0 vf1
    obtain ⟨v0, v1, vf0, vf1⟩ := HV4.out.w
    go_wp2_with fail
    refine (HN2.out _).mono ?_
    rintro r w5 ⟨rfl, hb⟩
    have HV5 := Lib.hid (HV4.out.keep hb)
    have HC5 := Lib.hid (HC4.out.keep (Nat.le_refl _) hb)
    have HT5 := Lib.hid (HT4.out.keep hb)
    clear hb v0 v1 vf0 vf1
    obtain ⟨v0, v1, vf0, vf1⟩ := HV5.out.v
    obtain ⟨g0, g1, gf0, gf1⟩ := HV5.out.w
    cases B
    all_goals
      go_wp2_with fail
      refine (HRF.out _ HC5.out).mono ?_
      rintro r w6 ⟨rfl, hb⟩
      have HB6 := Lib.hid (band HV5.out.bel hb)
      have HT6 := Lib.hid (HT5.out.keep hb)
      clear hb v0 v1 vf0 vf1 g0 g1 gf0 gf1
      go_wp2_with fail
      refine (HAw.out _ HT6.out).mono ?_
      rintro r w7 ⟨rfl, hb⟩
      have HBZ := Lib.hid (band HB6.out hb)
      clear hb
      go_wp2
      go_ret
      exact ⟨rfl, HBZ.out⟩

theorem lfills_core (W : World) (a : Option Addr) (n cap : Nat) (X Y : Nat → Int) (hn : n ≤ cap) (hn8 : n ≤ 8796093022208) (hC : CellsAt W a 2 n (fun i => pcell (X i) (Y i))) (vx vy wx wy : Int) (hS : StepsAt W) :
    Calls Tryd.prog 3 #[.slice a n cap, pV vx vy, pV wx wy] W fun e W' => SomeB true W e W' := by
  cases h : okF n X Y vx vy wx wy
  · exact lfills_bad W a n cap X Y vx vy wx wy hn hn8 hC hS h
  · exact lfills_good W a n cap X Y vx vy wx wy hn hC hS h
end Go.Proofs.YtfommfgokpiieabDoor
