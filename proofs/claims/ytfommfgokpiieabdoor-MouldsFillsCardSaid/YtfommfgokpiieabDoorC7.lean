import Derived.Test.YtfommfgokpiieabDoorC6
namespace Go.Proofs.YtfommfgokpiieabDoor
open Go.RowKit

set_option maxHeartbeats 8000000 in
set_option maxRecDepth 100000 in
theorem fills_r (a : Option Addr) (n cap : Nat) (X Y : Nat → Int) (vx vy wx wy : Int) (B : Bool) (w : World) (hn : n ≤ cap) (h : okF n X Y vx vy wx wy = true) (hBe : fillsB n X Y vx vy wx wy = B)
    (hC : CellsAt w a 2 n (fun i => pcell (X i) (Y i))) :
    Calls Tryd.prog 12 #[.slice a n cap, pV vx vy, pV wx wy] w fun e w' => e = .returned (.bool B) ∧ Below w.heap.size w w' := by
  obtain ⟨h1, h2, h3⟩ := okF_iff.1 h
  obtain ⟨hn1, hn30, c3⟩ := cellsB_iff.1 h1
  have HX : Hid (∀ i, i < n → (-100 ≤ X i ∧ X i ≤ 100) ∧ -100 ≤ Y i ∧ Y i ≤ 100) := fun i hi => nearB_iff.1 (c3 i hi).1
  obtain ⟨⟨a1, a2⟩, a3, a4⟩ := nearB_iff.1 h2
  obtain ⟨⟨a5, a6⟩, a7, a8⟩ := nearB_iff.1 h3
  have HBe := Lib.hid hBe
  have HV := Lib.hid (VW.of w vx vy wx wy 23)
  have HC := Lib.hid (hC.keep (Nat.le_refl _) HV.out.bel)
  clear h h1 h2 h3 c3 hC hBe
  obtain ⟨m1, m2⟩ := mul_le (a := vx) (b := wy) (by omega) (by omega)
  obtain ⟨m3, m4⟩ := mul_le (a := vy) (b := wx) (by omega) (by omega)
  have HA : Hid (crossN vx vy wx wy = vx * wy - vy * wx) := rfl
  obtain ⟨v0, v1, vf0, vf1⟩ := HV.out.v
  obtain ⟨g0, g1, gf0, gf1⟩ := HV.out.w
  by_cases hAn : vx * wy - vy * wx = n ∨ vx * wy - vy * wx = -(n : Int)
  rotate_left
  · have HR : Hid (B = false) := by simp only [Hid]; rw [← HBe.out]; exact fillsB_no (fun h => by rw [HA.out] at h; exact hAn h.1)
    have gm : (max (vx * wy - vy * wx) (-(vx * wy - vy * wx)) != (n : Int)) = true := by
      simp; omega
    clear hAn
    go_enter Tryd.func12, Tryd.ntmps12
    go_wp2
    go_ret
    exact ⟨by rw [HR.out]; rfl, HV.out.bel⟩
  have gm : (max (vx * wy - vy * wx) (-(vx * wy - vy * wx)) != (n : Int)) = false := by
    simp; omega
  have HAn := Lib.hid hAn
  have hA0 : ¬ vx * wy - vy * wx = 0 := by omega
  clear hAn
  go_enter Tryd.func12, Tryd.ntmps12
  go_wp2
  clear gm
  obtain ⟨W0, hW0⟩ : ∃ W0, W0 = (w.alloc (.cells #[.int .i64 vx, .int .i64 vy] 23)).alloc (.cells #[.int .i64 wx, .int .i64 wy] 23) := ⟨_, rfl⟩
  rw [← hW0] at HV HC ⊢
  clear hW0 v0 v1 vf0 vf1 g0 g1 gf0 gf1
  obtain ⟨A, hA⟩ : ∃ A, vx * wy - vy * wx = A := ⟨_, rfl⟩
  have HAA := Lib.hid hA
  rw [hA] at hA0 HAn HA ⊢
  have hA1 : -2000000 ≤ A := by omega
  have hA2 : A ≤ 2000000 := by omega
  clear hA
  go_loopw [34] (fun i wr => ∃ k : Nat, k ≤ n ∧ i = .int .i64 k ∧ Below W0.heap.size W0 wr ∧ Hid (freeC X Y vx vy wx wy k)) (fun i _ => n - (intOf i).toNat)
  case atStart => exact ⟨0, Nat.zero_le _, rfl, Below.refl _ _, fun i hi => absurd hi (Nat.not_lt_zero _)⟩
  case round =>
    obtain ⟨k, hk, rfl, hb, HF⟩ := hrel
    obtain ⟨wo, hwo⟩ : ∃ wo : World, wo = wr := ⟨_, rfl⟩
    subst hwo
    have HB := Lib.hid hb
    have hC := HC.out.keep (Nat.le_refl _) hb
    clear hb
    by_cases hlt : k < n
    rotate_left
    · have e : k = n := by omega
      have HR : Hid (B = true) := by simp only [Hid]; rw [← HBe.out]; exact fillsB_iff.2 ⟨by rw [HA.out]; exact HAn.out, by rw [← e]; exact HF.out⟩
      have hge : (n : Int) ≤ k := by omega
      clear e hC
      go_wp2
      go_ret
      exact ⟨by rw [HR.out]; rfl, band HV.out.bel HB.out⟩
    obtain ⟨b, o, rfl, d0, d1⟩ := hC.two hlt
    have hbl := World.block_lt_of_cell? _ _ d0
    have hkc : (k : Int) ≤ cap := by omega
    obtain ⟨⟨x1, x2⟩, y1, y2⟩ := HX.out k hlt
    obtain ⟨W1, hW1⟩ : ∃ W1, W1 = wo.alloc (.cells #[.int .i64 (X k), .int .i64 (Y k)] 23) := ⟨_, rfl⟩
    have HW1 := Lib.hid hW1
    have HB1 : Hid (Below wo.heap.size wo W1) := by simp only [Hid]; rw [hW1]; exact one_le _ _
    have HP1 : Hid (At2 W1 wo.heap.size (.int .i64 (X k)) (.int .i64 (Y k))) := by simp only [Hid]; rw [hW1]; exact At2.of (heap_alloc_new _ _)
    have HC1 : Hid (CellsAt W1 (some ⟨b, o, none⟩) 2 n (fun i => pcell (X i) (Y i))) := hC.keep (Nat.le_refl _) HB1.out
    have HV1 : Hid (VW w W1 vx vy wx wy) := (HV.out.keep HB.out).keep HB1.out
    clear hC hW1
    go_wp2_with fail
    rw [← HW1.out]
    go_wp2
    go_loopw [43] (fun i wr => ∃ m : Nat, m ≤ k ∧ i = .int .i64 m ∧ Below W1.heap.size W1 wr ∧ Hid (∀ j, j < m → ¬ clash X Y vx vy wx wy k j)) (fun i _ => k - (intOf i).toNat)
    case atStart => exact ⟨0, Nat.zero_le _, rfl, Below.refl _ _, fun i hi => absurd hi (Nat.not_lt_zero _)⟩
    case round =>
      obtain ⟨m, hm, rfl, hb2, HF2⟩ := hrel
      have HB2 := Lib.hid hb2
      clear hb2
      by_cases hltm : m < k
      rotate_left
      · have e : m = k := by omega
        have HF3 : Hid (freeC X Y vx vy wx wy (k + 1)) := freeC_next HF.out (fun j hj => HF2.out j (by omega))
        have HB3 : Hid (Below W0.heap.size W0 wr) := band (band HB.out HB1.out) HB2.out
        have hge : (k : Int) ≤ m := by omega
        clear e
        go_wp2
        go_roundw
        case rel => exact ⟨k + 1, by omega, by go_num, HB3.out, HF3⟩
        case measure => simp [intOf]; omega
      obtain ⟨b', o', e1, d2, d3⟩ := (HC1.out.keep (Nat.le_refl _) HB2.out).two (show m < n by omega)
      injection e1 with e1; injection e1 with e1 e1'; subst e1; subst e1'
      have hbl2 := World.block_lt_of_cell? _ _ d2
      obtain ⟨⟨z1, z2⟩, u1, u2⟩ := HX.out m (by omega)
      have hp := HP1.out.keep HB2.out
      have hpl := hp.lt
      obtain ⟨p0, p1, _, _⟩ := hp
      have hv := (HV1.out.keep HB2.out)
      have hvl := hv.v.lt
      have hwl := hv.w.lt
      obtain ⟨v0, v1, _, _⟩ := hv.v
      obtain ⟨g0, g1, _, _⟩ := hv.w
      have HBq := Lib.hid (HB2.out.trans ((one_le wr (.cells #[.int .i64 (X m), .int .i64 (Y m)] 23)).mono HB2.out.size))
      have HBw := Lib.hid (HV1.out.keep HBq.out).bel
      clear hv
      have HCl : Hid (clash X Y vx vy wx wy k m ↔ ((X k - X m) * wy - (Y k - Y m) * wx).tmod A = 0 ∧ (vx * (Y k - Y m) - vy * (X k - X m)).tmod A = 0) := by simp only [Hid, clash]; rw [HA.out]; rfl
      have s1 : IntKind.i64.wrap (X k - X m) = X k - X m := IntWalk.i64_in _ (by omega)
      have s2 : IntKind.i64.wrap (Y k - Y m) = Y k - Y m := IntWalk.i64_in _ (by omega)
      obtain ⟨q1, q1'⟩ := mul_le (a := X k - X m) (b := wy) (by omega) (by omega)
      obtain ⟨q2, q2'⟩ := mul_le (a := Y k - Y m) (b := wx) (by omega) (by omega)
      obtain ⟨q3, q3'⟩ := mul_le (a := vx) (b := Y k - Y m) (by omega) (by omega)
      obtain ⟨q4, q4'⟩ := mul_le (a := vy) (b := X k - X m) (by omega) (by omega)
      have t1 := tmod_bd ((X k - X m) * wy - (Y k - Y m) * wx) A 4000000 (by omega) (by omega)
      have t2 := tmod_bd (vx * (Y k - Y m) - vy * (X k - X m)) A 4000000 (by omega) (by omega)
      obtain ⟨T1, hT1⟩ : ∃ T, ((X k - X m) * wy - (Y k - Y m) * wx).tmod A = T := ⟨_, rfl⟩
      obtain ⟨T2, hT2⟩ : ∃ T, (vx * (Y k - Y m) - vy * (X k - X m)).tmod A = T := ⟨_, rfl⟩
      rw [hT1, hT2] at HCl
      rw [hT1] at t1
      rw [hT2] at t2
      have wT1 : wrap64 T1 = T1 := IntWalk.wrap64_in _ (by omega)
      have wT2 : wrap64 T2 = T2 := IntWalk.wrap64_in _ (by omega)
      obtain ⟨t1, t1'⟩ := t1
      obtain ⟨t2, t2'⟩ := t2
      go_wp2
      go_quiet (fail)
      clear s1 s2
      by_cases hz1 : T1 = 0
      · subst hz1
        by_cases hz2 : T2 = 0
        · subst hz2
          have HR : Hid (B = false) := by simp only [Hid]; rw [← HBe.out]; exact fillsB_no (fun h => h.2 k hlt m hltm (HCl.out.2 (by simp)))
          go_wp2
          go_ret
          exact ⟨by rw [HR.out]; rfl, below_drewN HBw.out _⟩
        · have hzb : (T2 == 0) = false := by simp [hz2]
          have HN : Hid (∀ j, j < m + 1 → ¬ clash X Y vx vy wx wy k j) := by
            intro j hj
            by_cases e : j = m
            · subst e; intro h; exact hz2 (HCl.out.1 h).2
            · exact HF2.out j (by omega)
          go_wp2
          go_roundw
          case rel => exact ⟨m + 1, by omega, by go_num, below_drewN HBq.out _, HN⟩
          case measure => simp [intOf]; omega
      · have hzb : (T1 == 0) = false := by simp [hz1]
        have HN : Hid (∀ j, j < m + 1 → ¬ clash X Y vx vy wx wy k j) := by
          intro j hj
          by_cases e : j = m
          · subst e; intro h; exact hz1 (HCl.out.1 h).1
          · exact HF2.out j (by omega)
        go_wp2
        go_roundw
        case rel => exact ⟨m + 1, by omega, by go_num, below_drewN HBq.out _, HN⟩
        case measure => simp [intOf]; omega
end Go.Proofs.YtfommfgokpiieabDoor
