import Derived.Test.YtfommfgokpiieabDoorC5
namespace Go.Proofs.YtfommfgokpiieabDoor
open Go.RowKit

set_option maxHeartbeats 8000000 in
set_option maxRecDepth 100000 in
theorem list_r (a : Option Addr) (n cap : Nat) (X Y : Nat → Int) (w : World) (hn : n ≤ 140737488351232) (hC : CellsAt w a 2 n (fun i => pcell (X i) (Y i))) :
    Calls Tryd.prog 9 #[.slice a n cap] w fun e w' => e = .returned (.bool (cellsB n X Y)) ∧ Below w.heap.size w w' := by
  have HC := Lib.hid hC
  clear hC
  go_enter Tryd.func9, Tryd.ntmps9
  go_wp2
  go_loopw [7] (fun i wr => ∃ k : Nat, k ≤ n ∧ i = .int .i64 k ∧ Below w.heap.size w wr ∧ Hid (okC X Y k)) (fun i _ => n - (intOf i).toNat)
  case atStart => exact ⟨0, Nat.zero_le _, rfl, Below.refl _ _, fun i hi => absurd hi (Nat.not_lt_zero _)⟩
  case round =>
    obtain ⟨k, hk, rfl, hb, HO⟩ := hrel
    have HB := Lib.hid hb
    have hC := HC.out.keep (Nat.le_refl _) hb
    clear hb
    by_cases hlt : k < n
    rotate_left
    · have e : k = n := by omega
      have hge : (n : Int) ≤ k := by omega
      have HOn : Hid (okC X Y n) := by rw [← e]; exact HO.out
      clear hC e
      by_cases h1 : 1 ≤ n
      · have HR : Hid (cellsB n X Y = decide ((n : Int) ≤ 30)) := by
          simp only [Hid, cellsB]; apply decide_eq_decide.2
          exact ⟨fun h => by omega, fun h => ⟨h1, by omega, HOn.out⟩⟩
        go_wp2
        go_ret
        exact ⟨by rw [HR.out]; rfl, HB.out⟩
      · have HR : Hid (cellsB n X Y = false) := cellsB_no (fun h => h1 h.1)
        have hn0 : n = 0 := by omega
        subst hn0
        go_wp2
        go_ret
        exact ⟨by rw [HR.out]; rfl, HB.out⟩
    obtain ⟨b, o, rfl, d0, d1⟩ := hC.two hlt
    have hbl := World.block_lt_of_cell? _ _ d0
    have HB0 := Lib.hid (HB.out.trans ((one_le wr (.cells #[.int .i64 (X k), .int .i64 (Y k)] 23)).mono HB.out.size))
    by_cases hnr : nearB (X k) (Y k) = true
    rotate_left
    · have HR : Hid (cellsB n X Y = false) := cellsB_no (fun h => hnr (h.2.2 k hlt).1)
      clear hC
      have hcs : (X k < -100) ∨ (-100 ≤ X k ∧ 100 < X k) ∨ (-100 ≤ X k ∧ X k ≤ 100 ∧ Y k < -100) ∨ (-100 ≤ X k ∧ X k ≤ 100 ∧ -100 ≤ Y k ∧ 100 < Y k) := by
        rw [nearB_iff] at hnr; omega
      clear hnr
      rcases hcs with h | ⟨h1, h⟩ | ⟨h1, h2, h⟩ | ⟨h1, h2, h3, h⟩
      all_goals
        go_wp2
        go_ret
        exact ⟨by rw [HR.out]; rfl, HB0.out⟩
    have HNr := Lib.hid hnr
    obtain ⟨⟨h1, h2⟩, h3, h4⟩ := nearB_iff.1 hnr
    clear hnr
    by_cases hk0 : k = 0
    · subst hk0
      simp only [Nat.zero_mul, Nat.add_zero] at d0 d1
      have HN1 : Hid (okC X Y (0 + 1)) := okC_next HO.out HNr.out (Or.inl rfl)
      clear hC
      go_wp2
      go_quiet (fail)
      go_wp2
      go_roundw
      case rel => exact ⟨0 + 1, by omega, by go_num, below_drewN HB0.out _, HN1⟩
      case measure => simp [intOf]; omega
    · obtain ⟨b', o', e1, d2, d3⟩ := hC.two (show k - 1 < n by omega)
      injection e1 with e1; injection e1 with e1 e1'; subst e1; subst e1'
      clear hC
      have s1 : IntKind.i64.wrap ((k : Int) - 1) = (k : Int) - 1 := IntWalk.i64_in _ (by omega)
      have s2 : ((k : Int) - 1).toNat = k - 1 := by omega
      have s3 : (0 : Int) ≤ (k : Int) - 1 := by omega
      have s3' : (1 : Int) ≤ (k : Int) := by omega
      have s4 : (k : Int) - 1 < n := by omega
      have s5 : (0 : Int) < k := by omega
      have s6 : 0 < k := by omega
      have s7 : decide ((0 : Int) < (k : Int)) = true := decide_eq_true s5
      have s8 : decide (0 < k) = true := decide_eq_true s6
      by_cases c1 : X k < X (k - 1)
      · have HR : Hid (cellsB n X Y = false) := cellsB_no (fun h => by
          rcases (h.2.2 k hlt).2 with h5 | h5
          · exact hk0 h5
          · rw [ltB_iff] at h5; omega)
        have g1 : decide (X k < X (k - 1)) = true := decide_eq_true c1
        clear c1 hk0
        go_wp2
        go_quiet (fail)
        clear s1 s2 s3 s3' s4 s7 s8 g1
        go_wp2
        go_ret
        exact ⟨by rw [HR.out]; rfl, below_drewN HB0.out _⟩
      · have g1 : decide (X k < X (k - 1)) = false := decide_eq_false c1
        by_cases c2 : X (k - 1) = X k
        · have g2 : (X (k - 1) == X k) = true := by simp [c2]
          by_cases c3 : Y k ≤ Y (k - 1)
          · have HR : Hid (cellsB n X Y = false) := cellsB_no (fun h => by
              rcases (h.2.2 k hlt).2 with h5 | h5
              · exact hk0 h5
              · rw [ltB_iff] at h5; omega)
            have g3 : decide (Y k ≤ Y (k - 1)) = true := decide_eq_true c3
            clear c1 c2 c3 hk0
            go_wp2
            go_quiet (fail)
            clear s1 s2 s3 s3' s4 s7 s8 g1 g2 g3
            go_wp2
            go_ret
            exact ⟨by rw [HR.out]; rfl, below_drewN HB0.out _⟩
          · have HN1 : Hid (okC X Y (k + 1)) := okC_next HO.out HNr.out (Or.inr (by rw [ltB_iff]; omega))
            have g3 : decide (Y k ≤ Y (k - 1)) = false := decide_eq_false c3
            clear c1 c2 c3 hk0
            go_wp2
            go_quiet (fail)
            clear s1 s2 s3 s3' s4 s7 s8 g1 g2 g3
            go_wp2
            go_roundw
            case rel => exact ⟨k + 1, by omega, by go_num, below_drewN HB0.out _, HN1⟩
            case measure => simp [intOf]; omega
        · have HN1 : Hid (okC X Y (k + 1)) := okC_next HO.out HNr.out (Or.inr (by rw [ltB_iff]; omega))
          have g2 : (X (k - 1) == X k) = false := by simp [c2]
          clear c1 c2 hk0
          go_wp2
          go_quiet (fail)
          clear s1 s2 s3 s3' s4 s7 s8 g1 g2
          go_wp2
          go_roundw
          case rel => exact ⟨k + 1, by omega, by go_num, below_drewN HB0.out _, HN1⟩
          case measure => simp [intOf]; omega

/-- Fills: what it takes, and what it tells. -/
def okF (n : Nat) (X Y : Nat → Int) (vx vy wx wy : Int) : Bool := cellsB n X Y && (nearB vx vy && nearB wx wy)
theorem okF_iff {n : Nat} {X Y : Nat → Int} {vx vy wx wy : Int} : okF n X Y vx vy wx wy = true ↔ cellsB n X Y = true ∧ nearB vx vy = true ∧ nearB wx wy = true := by simp [okF]

set_option maxHeartbeats 4000000 in
set_option maxRecDepth 100000 in
theorem fFills_bad (a : Option Addr) (n cap : Nat) (X Y : Nat → Int) (vx vy wx wy : Int) (w : World) (hn30 : n ≤ 33) (h : okF n X Y vx vy wx wy = false)
    (hC : CellsAt w a 2 n (fun i => pcell (X i) (Y i))) :
    Calls Tryd.prog 7 #[.slice a n cap, pV vx vy, pV wx wy] w fun e w' => e = .returned (.tuple #[.bool false, .int .i64 2]) ∧ Below w.heap.size w w' := by
  have HV := Lib.hid (VW.of w vx vy wx wy 23)
  have HA := Lib.hid (areCells_any a n cap X Y _ (by omega) (hC.keep (Nat.le_refl _) HV.out.bel))
  have HP1 := Lib.hid (fun W => isPlace_any vx vy W)
  have HP2 := Lib.hid (fun W => isPlace_any wx wy W)
  clear hC
  obtain ⟨v0, v1, vf0, vf1⟩ := HV.out.v
  obtain ⟨g0, g1, gf0, gf1⟩ := HV.out.w
  cases h1 : cellsB n X Y
  · rw [h1] at HA
    clear h h1
    go_enter Tryd.func7, Tryd.ntmps7
    go_wp2_with fail
    refine HA.out.mono ?_
    rintro r w1 ⟨rfl, hb⟩
    have HB := Lib.hid (band HV.out.bel hb)
    clear hb v0 v1 vf0 vf1 g0 g1 gf0 gf1
    go_wp2
    go_ret2
    exact ⟨rfl, HB.out⟩
  · rw [h1] at HA
    cases h2 : nearB vx vy
    · rw [h2] at HP1
      clear h h1 h2
      go_enter Tryd.func7, Tryd.ntmps7
      go_wp2_with fail
      refine HA.out.mono ?_
      rintro r w1 ⟨rfl, hb⟩
      have HV1 := Lib.hid (HV.out.keep hb)
      clear hb v0 v1 vf0 vf1 g0 g1 gf0 gf1
      obtain ⟨v0, v1, vf0, vf1⟩ := HV1.out.v
      go_wp2_with fail
      refine (HP1.out _).mono ?_
      rintro r w2 ⟨rfl, hb⟩
      have HV2 := Lib.hid (HV1.out.keep hb)
      clear hb v0 v1 vf0 vf1
      go_wp2
      go_ret2
      exact ⟨rfl, HV2.out.bel⟩
    · rw [h2] at HP1
      have h3 : nearB wx wy = false := by simpa [okF, h1, h2] using h
      rw [h3] at HP2
      clear h h1 h2 h3
      go_enter Tryd.func7, Tryd.ntmps7
      go_wp2_with fail
      refine HA.out.mono ?_
      rintro r w1 ⟨rfl, hb⟩
      have HV1 := Lib.hid (HV.out.keep hb)
      clear hb v0 v1 vf0 vf1 g0 g1 gf0 gf1
      obtain ⟨v0, v1, vf0, vf1⟩ := HV1.out.v
      go_wp2_with fail
      refine (HP1.out _).mono ?_
      rintro r w2 ⟨rfl, hb⟩
      have HV2 := Lib.hid (HV1.out.keep hb)
      clear hb v0 v1 vf0 vf1
      obtain ⟨v0, v1, vf0, vf1⟩ := HV2.out.w
      go_wp2_with fail
      refine (HP2.out _).mono ?_
      rintro r w3 ⟨rfl, hb⟩
      have HV3 := Lib.hid (HV2.out.keep hb)
      clear hb v0 v1 vf0 vf1
      go_wp2
      go_ret2
      exact ⟨rfl, HV3.out.bel⟩

set_option maxHeartbeats 4000000 in
set_option maxRecDepth 100000 in
theorem fFills_good (a : Option Addr) (n cap : Nat) (X Y : Nat → Int) (vx vy wx wy : Int) (w : World) (hn : n ≤ cap) (hcap : cap ≤ maxLen) (h : okF n X Y vx vy wx wy = true)
    (hC : CellsAt w a 2 n (fun i => pcell (X i) (Y i))) :
    Calls Tryd.prog 7 #[.slice a n cap, pV vx vy, pV wx wy] w fun e w' => e = .returned (.tuple #[.bool (fillsB n X Y vx vy wx wy), .int .i64 0]) ∧ Below w.heap.size w w' := by
  have HV := Lib.hid (VW.of w vx vy wx wy 23)
  obtain ⟨h1, h2, h3⟩ := okF_iff.1 h
  obtain ⟨c1, c2, c3⟩ := cellsB_iff.1 h1
  have hC0 := hC.keep (Nat.le_refl _) HV.out.bel
  have HC := Lib.hid hC0
  have HA := Lib.hid (areCells_any a n cap X Y _ (by omega) hC0)
  have HP1 := Lib.hid (fun W => isPlace_any vx vy W)
  have HP2 := Lib.hid (fun W => isPlace_any wx wy W)
  have hX : ∀ i, i < n → (-100 ≤ X i ∧ X i ≤ 100) ∧ -100 ≤ Y i ∧ Y i ≤ 100 := fun i hi => nearB_iff.1 (c3 i hi).1
  have HF := Lib.hid (fun W hW => fills_any a n cap X Y vx vy wx wy W hn c2 c1 hcap hX (nearB_iff.1 h2).1 (nearB_iff.1 h2).2 (nearB_iff.1 h3).1 (nearB_iff.1 h3).2 hW)
  rw [h1] at HA
  rw [h2] at HP1
  rw [h3] at HP2
  obtain ⟨v0, v1, vf0, vf1⟩ := HV.out.v
  obtain ⟨g0, g1, gf0, gf1⟩ := HV.out.w
  clear h h1 h2 h3 hC hC0 hX c1 c2 c3 hcap
  go_enter Tryd.func7, Tryd.ntmps7
  go_wp2_with fail
  refine HA.out.mono ?_
  rintro r w1 ⟨rfl, hb⟩
  have HV1 := Lib.hid (HV.out.keep hb)
  have HC1 := Lib.hid (HC.out.keep (Nat.le_refl _) hb)
  clear hb v0 v1 vf0 vf1 g0 g1 gf0 gf1
  obtain ⟨v0, v1, vf0, vf1⟩ := HV1.out.v
  go_wp2_with fail
  refine (HP1.out _).mono ?_
  rintro r w2 ⟨rfl, hb⟩
  have HV2 := Lib.hid (HV1.out.keep hb)
  have HC2 := Lib.hid (HC1.out.keep (Nat.le_refl _) hb)
  clear hb v0 v1 vf0 vf1
  obtain ⟨v0, v1, vf0, vf1⟩ := HV2.out.w
  go_wp2_with fail
  refine (HP2.out _).mono ?_
  rintro r w3 ⟨rfl, hb⟩
  have HV3 := Lib.hid (HV2.out.keep hb)
  have HC3 := Lib.hid (HC2.out.keep (Nat.le_refl _) hb)
  clear hb v0 v1 vf0 vf1
  obtain ⟨v0, v1, vf0, vf1⟩ := HV3.out.v
  obtain ⟨g0, g1, gf0, gf1⟩ := HV3.out.w
  go_wp2_with fail
  refine (HF.out _ HC3.out).mono ?_
  rintro r w4 ⟨rfl, hb⟩
  have HV4 := Lib.hid (HV3.out.keep hb)
  clear hb v0 v1 vf0 vf1 g0 g1 gf0 gf1
  go_wp2
  go_ret2
  exact ⟨rfl, HV4.out.bel⟩
end Go.Proofs.YtfommfgokpiieabDoor
