import Derived.Test.YtfommfgokpiieacDoorL1
namespace Go.Proofs.YtfommfgokpiieacDoor
open Go.RowKit

set_option maxHeartbeats 16000000 in
set_option maxRecDepth 100000 in
theorem room_good (W : World) (a : Option Addr) (n cap : Nat) (X Y : Nat → Int) (vx vy wx wy i j I J : Int) (hn : n ≤ cap) (hC : CellsAt W a 2 n (fun i => pcell (X i) (Y i))) (hS : StepsAt W)
    (h : okF n X Y vx vy wx wy = true) (hI : ∃ d : Nat, (d : Int) < 41 ∧ wrap64 ((IntKind.u64.wrap i).tmod 41) = d ∧ I = d - 20) (hJ : ∃ d : Nat, (d : Int) < 41 ∧ wrap64 ((IntKind.u64.wrap j).tmod 41) = d ∧ J = d - 20) :
    Calls Tryd.prog 6 #[.slice a n cap, pV vx vy, pV wx wy, .int .i64 i, .int .i64 j] W fun e W' => SomeB true W e W' := by
  obtain ⟨h1, h2, h3⟩ := okF_iff.1 h
  obtain ⟨c1, c2, c3⟩ := cellsB_iff.1 h1
  obtain ⟨⟨x1, x2⟩, x3, x4⟩ := nearB_iff.1 h2
  obtain ⟨⟨y1, y2⟩, y3, y4⟩ := nearB_iff.1 h3
  have em : min n 33 = n := by omega
  obtain ⟨d, hd1, hd2, rfl⟩ := hI
  obtain ⟨f, hf1, hf2, rfl⟩ := hJ
  have HD := Lib.hid hd2
  have HFF := Lib.hid hf2
  have HV := Lib.hid (VW.of W vx vy wx wy 31)
  have HL0 := list_any a cap n X Y (((W.alloc (.cells #[.int .i64 vx, .int .i64 vy] 31)).alloc (.cells #[.int .i64 wx, .int .i64 wy] 31)).drew) hn (by omega) ((hC.keep (Nat.le_refl _) HV.out.bel).keep (Nat.le_refl _) (Below.drew (Below.refl _ _)))
  rw [em] at HL0
  have HL := Lib.hid HL0
  have HF := Lib.hid (fun a' cap' W' hc1 hc2 hC' => fFills_good a' n cap' X Y vx vy wx wy W' hc1 hc2 h hC')
  have HS := Lib.hid (hS.keep HV.out.bel)
  have HC0 := Lib.hid (hC.keep (Nat.le_refl _) HV.out.bel)
  have HAw := Lib.hid (fun W' h => awake_any W' h)
  have HRL := Lib.hid (fun W' hC' => list_r a n cap X Y W' (by omega) hC')
  have HN1 := Lib.hid (fun W' => near_r vx vy W')
  have HN2 := Lib.hid (fun W' => near_r wx wy W')
  have HIn := Lib.hid (fun x y W' hC' => in_r a n cap X Y x y W' (by omega) hC')
  have HX : Hid (∀ i, i < n → (-100 ≤ X i ∧ X i ≤ 100) ∧ -100 ≤ Y i ∧ Y i ≤ 100) := fun i hi => nearB_iff.1 (c3 i hi).1
  rw [h1] at HRL
  rw [h2] at HN1
  rw [h3] at HN2
  have HNo := Lib.hid (fun hb hij q hq => moved_no (n := n) (X := X) (Y := Y) (vx := vx) (vy := vy) (wx := wx) (wy := wy) (I := (d : Int) - 20) (J := (f : Int) - 20) hb c1 hij (a := q) hq)
  have HA := Lib.hid (fun hb => (fillsB_iff (n := n) (X := X) (Y := Y) (vx := vx) (vy := vy) (wx := wx) (wy := wy)).1 hb)
  obtain ⟨B, hB⟩ : ∃ B, fillsB n X Y vx vy wx wy = B := ⟨_, rfl⟩
  rw [hB] at HF HNo HA
  have m1 := mul_le (a := vx) (b := wy) (by omega) (by omega)
  have m2 := mul_le (a := vy) (b := wx) (by omega) (by omega)
  have m3 := mul_le (a := (d : Int) - 20) (b := vx) (by omega) (by omega)
  have m4 := mul_le (a := (d : Int) - 20) (b := vy) (by omega) (by omega)
  have m5 := mul_le (a := (f : Int) - 20) (b := wx) (by omega) (by omega)
  have m6 := mul_le (a := (f : Int) - 20) (b := wy) (by omega) (by omega)
  obtain ⟨v0, v1, vf0, vf1⟩ := HV.out.v
  obtain ⟨g0, g1, gf0, gf1⟩ := HV.out.w
  clear hC hS h h1 h2 h3 c3 em HL0 hB hd2 hf2 y1 y2 y3 y4 x1 x2 x3 x4
  go_enter Tryd.func6, Tryd.ntmps6
  go_wp2
  obtain ⟨W0, hW0⟩ : ∃ W0, W0 = (W.alloc (.cells #[.int .i64 vx, .int .i64 vy] 31)).alloc (.cells #[.int .i64 wx, .int .i64 wy] 31) := ⟨_, rfl⟩
  rw [← hW0] at HV HL HS HC0 v0 v1 vf0 vf1 g0 g1 gf0 gf1 ⊢
  have HW0 := Lib.hid hW0
  clear hW0
  have HK : Hid (∀ v, Below W0.heap.size W0 v → v.cell? ⟨W.heap.size, 0, none⟩ = some (.int .i64 vx) ∧ v.cell? ⟨W.heap.size, 1, none⟩ = some (.int .i64 vy) ∧ v.cell? ⟨W.heap.size + 1, 0, none⟩ = some (.int .i64 wx) ∧ v.cell? ⟨W.heap.size + 1, 1, none⟩ = some (.int .i64 wy)) := by
    intro v hv
    have h := HV.out.keep hv
    exact ⟨h.v.c0, h.v.c1, h.w.c0, h.w.c1⟩
  go_region_held3 (fun v => v.cell? ⟨W.heap.size, 0, none⟩ = some (.int .i64 vx) ∧ v.cell? ⟨W.heap.size, 1, none⟩ = some (.int .i64 vy) ∧ v.cell? ⟨W.heap.size + 1, 0, none⟩ = some (.int .i64 wx) ∧ v.cell? ⟨W.heap.size + 1, 1, none⟩ = some (.int .i64 wy))
    (first
      | (go_split_ands; exact HS2.out)
      | (go_split_ands; exact HS1.out)
      | go_keep)
    ((first
      | (go_at_call 15; (with_reducible refine HL.out.mono ?_); rintro r w1 ⟨a', cap', rfl, h1, h2, h3, hb⟩; have HC1 := Lib.hid h3; have Hc1 := Lib.hid h1; have Hc2 := Lib.hid h2; have HB1 := Lib.hid (below_drew1 hb); have HS1 := Lib.hid (HK.out _ HB1.out); clear h1 h2 h3 hb)
      | (go_at_call 14; (with_reducible refine (HF.out _ _ _ Hc1.out Hc2.out HC1.out).mono ?_); rintro r w2 ⟨rfl, hb⟩; have HB2 := Lib.hid (band HB1.out hb); have HS2 := Lib.hid (HK.out _ HB2.out); clear hb)))
  all_goals
    have HV2 := Lib.hid (HV.out.keep HB2.out)
    have HC2 := Lib.hid (HC0.out.keep (Nat.le_refl _) HB2.out)
    have HT2 := Lib.hid (HS.out.keep HB2.out)
    clear HB1 HB2 HS1 HS2 HC1 Hc1 Hc2 HL HF HK HV HC0 HS v0 v1 vf0 vf1 g0 g1 gf0 gf1
    go_wp2_with fail
    refine (HRL.out _ HC2.out).mono ?_
    rintro r w3 ⟨rfl, hb⟩
    have HV3 := Lib.hid (HV2.out.keep hb)
    have HC3 := Lib.hid (HC2.out.keep (Nat.le_refl _) hb)
    have HT3 := Lib.hid (HT2.out.keep hb)
    clear hb
    obtain ⟨v0, v1, vf0, vf1⟩ := HV3.out.v
    go_wp2_with fail
    refine (HN1.out _).mono ?_
    rintro r w4 ⟨rfl, hb⟩
    have HV4 := Lib.hid (HV3.out.keep hb)
    have HC4 := Lib.hid (HC3.out.keep (Nat.le_refl _) hb)
    have HT4 := Lib.hid (HT3.out.keep hb)
    clear hb v0 v1 vf0 vf1
    obtain ⟨v0, v1, vf0, vf1⟩ := HV4.out.w
    go_wp2_with fail
    refine (HN2.out _).mono ?_
    rintro r w5 ⟨rfl, hb⟩
    have HV5 := Lib.hid (HV4.out.keep hb)
    have HC5 := Lib.hid (HC4.out.keep (Nat.le_refl _) hb)
    have HT5 := Lib.hid (HT4.out.keep hb)
    clear hb v0 v1 vf0 vf1
    obtain ⟨v0, v1, vf0, vf1⟩ := HV5.out.v
    obtain ⟨g0, g1, gf0, gf1⟩ := HV5.out.w
    have e1 := HD.out
    have e2 := HFF.out
    cases B
    · go_wp2_with fail
      refine (HAw.out _ HT5.out).mono ?_
      rintro r w6 ⟨rfl, hb⟩
      have HBZ := Lib.hid (band HV5.out.bel hb)
      clear hb e1 e2
      go_wp2
      go_ret
      exact ⟨rfl, HBZ.out⟩
    · have hA := (HA.out rfl).1
      have hmx : max (vx * wy - vy * wx) (-(vx * wy - vy * wx)) = (n : Int) := by
        unfold crossN at hA; omega
      have gm : (max (vx * wy - vy * wx) (-(vx * wy - vy * wx)) != (n : Int)) = false := by simp [hmx]
      clear hA hmx
      by_cases hij : (d : Int) - 20 = 0 ∧ (f : Int) - 20 = 0
      · obtain ⟨z1, z2⟩ := hij
        have z3 : (((d : Int) - 20) == 0) = true := by simp [z1]
        have z4 : (((f : Int) - 20) == 0) = true := by simp [z2]
        clear z1 z2
        go_wp2_with fail
        refine (HAw.out _ HT5.out).mono ?_
        rintro r w6 ⟨rfl, hb⟩
        have HBZ := Lib.hid (band HV5.out.bel hb)
        clear hb e1 e2 gm z3 z4
        go_wp2
        go_ret
        exact ⟨rfl, HBZ.out⟩
      · have HNx := Lib.hid (fun q hq => HNo.out rfl hij q hq)
        have zz : (((d : Int) - 20) == 0) = false ∨ ((((d : Int) - 20) == 0) = true ∧ (((f : Int) - 20) == 0) = false) := by
          by_cases z : (d : Int) - 20 = 0
          · right
            exact ⟨by simp [z], by
              cases hq : ((f : Int) - 20 == 0)
              · rfl
              · exact absurd ⟨z, by simpa using hq⟩ hij⟩
          · left; simp [z]
        clear hij
        rcases zz with z3 | ⟨z3, z4⟩
        all_goals
          go_wp2
          clear e1 e2
          go_loopw [90] (fun i wr => ∃ k : Nat, k ≤ n ∧ i = .int .i64 k ∧ Below w5.heap.size w5 wr) (fun i _ => n - (intOf i).toNat)
          case atStart => exact ⟨0, Nat.zero_le _, rfl, Below.refl _ _⟩
          case round =>
            obtain ⟨k, hk, rfl, hb⟩ := hrel
            have HB := Lib.hid hb
            have hC := HC5.out.keep (Nat.le_refl _) hb
            have HVr := Lib.hid (HV5.out.keep hb)
            have HTr := Lib.hid (HT5.out.keep hb)
            clear hb v0 v1 vf0 vf1 g0 g1 gf0 gf1
            by_cases hlt : k < n
            · obtain ⟨b, o, rfl, d0, d1⟩ := hC.two hlt
              have hbl := World.block_lt_of_cell? _ _ d0
              obtain ⟨⟨r1, r2⟩, r3, r4⟩ := HX.out k hlt
              obtain ⟨v0, v1, vf0, vf1⟩ := HVr.out.v
              obtain ⟨g0, g1, gf0, gf1⟩ := HVr.out.w
              have hvl := HVr.out.v.lt
              have hwl := HVr.out.w.lt
              obtain ⟨W1, hW1⟩ : ∃ W1, W1 = wr.alloc (.cells #[.int .i64 (X k), .int .i64 (Y k)] 31) := ⟨_, rfl⟩
              have HW1 := Lib.hid hW1
              have HB1 : Hid (Below wr.heap.size wr W1) := by simp only [Hid]; rw [hW1]; exact one_le _ _
              have HC1 : Hid (CellsAt W1 (some ⟨b, o, none⟩) 2 n (fun i => pcell (X i) (Y i))) := hC.keep (Nat.le_refl _) HB1.out
              have HNk := Lib.hid (HNx.out k hlt)
              clear hC hW1
              go_wp2_with fail
              rw [← HW1.out]
              refine (HIn.out _ _ _ HC1.out).mono ?_
              rintro r w6 ⟨rfl, hb⟩
              have HB6 := Lib.hid (band HB1.out hb)
              rw [HNk.out]
              clear hb v0 v1 vf0 vf1 g0 g1 gf0 gf1 d0 d1
              go_wp2
              go_roundw
              case rel => exact ⟨k + 1, by omega, by go_num, band HB.out HB6.out⟩
              case measure => simp [intOf]; omega
            · have hge : (n : Int) ≤ k := by omega
              clear hC
              go_wp2_with fail
              refine (HAw.out _ HTr.out).mono ?_
              rintro r w6 ⟨rfl, hb⟩
              have HBZ := Lib.hid (band HVr.out.bel hb)
              clear hb
              go_wp2
              go_ret
              exact ⟨rfl, HBZ.out⟩

theorem room_core (W : World) (a : Option Addr) (n cap : Nat) (X Y : Nat → Int) (hn : n ≤ cap) (hn8 : n ≤ 8796093022208) (hC : CellsAt W a 2 n (fun i => pcell (X i) (Y i))) (vx vy wx wy i : Int) (_hi : -9223372036854775808 ≤ i ∧ i ≤ 9223372036854775807) (j : Int) (_hj : -9223372036854775808 ≤ j ∧ j ≤ 9223372036854775807) (hS : StepsAt W) :
    Calls Tryd.prog 6 #[.slice a n cap, pV vx vy, pV wx wy, .int .i64 i, .int .i64 j] W fun e W' => SomeB true W e W' := by
  cases h : okF n X Y vx vy wx wy
  · exact room_bad W a n cap X Y vx vy wx wy i j hn hn8 hC hS h
  · obtain ⟨d, h1, h2⟩ := conv 41 (by omega) (by omega) i
    obtain ⟨f, h3, h4⟩ := conv 41 (by omega) (by omega) j
    exact room_good W a n cap X Y vx vy wx wy i j _ _ hn hC hS h ⟨d, h1, h2, rfl⟩ ⟨f, h3, h4, rfl⟩
end Go.Proofs.YtfommfgokpiieacDoor
