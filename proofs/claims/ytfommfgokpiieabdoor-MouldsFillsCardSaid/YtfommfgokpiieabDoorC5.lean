import Derived.Test.YtfommfgokpiieabDoorC4
namespace Go.Proofs.YtfommfgokpiieabDoor
open Go.RowKit

/-- Does it move one point onto another one, up to sums of the vectors? -/
def clash (X Y : Nat → Int) (vx vy wx wy : Int) (i j : Nat) : Prop :=
  (crossN (X i - X j) (Y i - Y j) wx wy).tmod (crossN vx vy wx wy) = 0 ∧ (crossN vx vy (X i - X j) (Y i - Y j)).tmod (crossN vx vy wx wy) = 0
instance (X Y : Nat → Int) (vx vy wx wy : Int) (i j : Nat) : Decidable (clash X Y vx vy wx wy i j) := inferInstanceAs (Decidable (_ ∧ _))
def freeC (X Y : Nat → Int) (vx vy wx wy : Int) (k : Nat) : Prop := ∀ i, i < k → ∀ j, j < i → ¬ clash X Y vx vy wx wy i j
instance (X Y : Nat → Int) (vx vy wx wy : Int) (k : Nat) : Decidable (freeC X Y vx vy wx wy k) := inferInstanceAs (Decidable (∀ i, i < k → ∀ j, j < i → ¬ clash X Y vx vy wx wy i j))
/-- Do they fill a tray? -/
def fillsB (n : Nat) (X Y : Nat → Int) (vx vy wx wy : Int) : Bool := decide ((crossN vx vy wx wy = n ∨ crossN vx vy wx wy = -(n : Int)) ∧ freeC X Y vx vy wx wy n)
theorem fillsB_iff {n : Nat} {X Y : Nat → Int} {vx vy wx wy : Int} : fillsB n X Y vx vy wx wy = true ↔ (crossN vx vy wx wy = n ∨ crossN vx vy wx wy = -(n : Int)) ∧ freeC X Y vx vy wx wy n := by simp [fillsB]
theorem fillsB_no {n : Nat} {X Y : Nat → Int} {vx vy wx wy : Int} (h : ¬ ((crossN vx vy wx wy = n ∨ crossN vx vy wx wy = -(n : Int)) ∧ freeC X Y vx vy wx wy n)) : fillsB n X Y vx vy wx wy = false := decide_eq_false h
theorem freeC_next {X Y : Nat → Int} {vx vy wx wy : Int} {k : Nat} (h : freeC X Y vx vy wx wy k) (h2 : ∀ j, j < k → ¬ clash X Y vx vy wx wy k j) : freeC X Y vx vy wx wy (k + 1) := by
  intro i hi
  by_cases e : i = k
  · subst e; exact h2
  · exact h i (by omega)

theorem tmod_bd (r A M : Int) (h1 : -M ≤ r) (h2 : r ≤ M) : -M ≤ r.tmod A ∧ r.tmod A ≤ M := by
  have h := Int.natAbs_tmod r A
  have h3 : r.natAbs % A.natAbs ≤ r.natAbs := Nat.mod_le _ _
  omega
/-- The two vectors in their boxes. -/
structure VW (w wr : World) (vx vy wx wy : Int) : Prop where
  bel : Below w.heap.size w wr
  v : At2 wr w.heap.size (.int .i64 vx) (.int .i64 vy)
  w : At2 wr (w.heap.size + 1) (.int .i64 wx) (.int .i64 wy)
theorem VW.keep {w wr w2 : World} {vx vy wx wy : Int} (h : VW w wr vx vy wx wy) (hb : Below wr.heap.size wr w2) : VW w w2 vx vy wx wy := ⟨band h.bel hb, h.v.keep hb, h.w.keep hb⟩
theorem VW.of (w : World) (vx vy wx wy : Int) (T : TypeId) : VW w ((w.alloc (.cells #[.int .i64 vx, .int .i64 vy] T)).alloc (.cells #[.int .i64 wx, .int .i64 wy] T)) vx vy wx wy :=
  ⟨two_le _ _ _, At2.of (heap_two1 w _ _), At2.of (heap_two2 w _ _)⟩

set_option maxHeartbeats 8000000 in
set_option maxRecDepth 100000 in
theorem fills_any (a : Option Addr) (n cap : Nat) (X Y : Nat → Int) (vx vy wx wy : Int) (w : World) (hn : n ≤ cap) (hn30 : n ≤ 30) (hn1 : 1 ≤ n) (hcap : cap ≤ maxLen)
    (hX : ∀ i, i < n → (-100 ≤ X i ∧ X i ≤ 100) ∧ -100 ≤ Y i ∧ Y i ≤ 100) (hvx : -100 ≤ vx ∧ vx ≤ 100) (hvy : -100 ≤ vy ∧ vy ≤ 100) (hwx : -100 ≤ wx ∧ wx ≤ 100) (hwy : -100 ≤ wy ∧ wy ≤ 100)
    (hC : CellsAt w a 2 n (fun i => pcell (X i) (Y i))) :
    Calls Tryd.prog 27 #[.slice a n cap, pV vx vy, pV wx wy] w fun e w' => e = .returned (.bool (fillsB n X Y vx vy wx wy)) ∧ Below w.heap.size w w' := by
  have HX := Lib.hid hX
  have HV := Lib.hid (VW.of w vx vy wx wy 23)
  have HC := Lib.hid (hC.keep (Nat.le_refl _) HV.out.bel)
  clear hX hC
  have c1 := mul_le (a := vx) (b := wy) (by omega) (by omega)
  have c2 := mul_le (a := vy) (b := wx) (by omega) (by omega)
  obtain ⟨A, hA⟩ : ∃ A, crossN vx vy wx wy = A := ⟨_, rfl⟩
  have hAb : -2000000 ≤ A ∧ A ≤ 2000000 := by rw [← hA]; unfold crossN; omega
  have HCr := Lib.hid (fun W => cross_any vx vy wx wy A W hA (by omega) (by omega) (by omega) (by omega))
  have HA := Lib.hid hA
  obtain ⟨hA1, hA2⟩ := hAb
  have HBv := Lib.hid (show ((-1000 ≤ vx ∧ vx ≤ 1000) ∧ -1000 ≤ vy ∧ vy ≤ 1000) ∧ (-1000 ≤ wx ∧ wx ≤ 1000) ∧ -1000 ≤ wy ∧ wy ≤ 1000 by omega)
  clear hA c1 c2 hvx hvy hwx hwy
  unfold maxLen at hcap
  by_cases hAn : A = n ∨ A = -(n : Int)
  rotate_left
  · have HR : Hid (fillsB n X Y vx vy wx wy = false) := fillsB_no (fun h => by rw [HA.out] at h; exact hAn h.1)
    have g1 : (A != (n : Int)) = true := by simp; intro h; exact hAn (Or.inl h)
    have g2 : (A != -(n : Int)) = true := by simp; intro h; exact hAn (Or.inr h)
    have HG1 := Lib.hid g1
    have HG2 := Lib.hid g2
    clear hAn g1 g2
    obtain ⟨v0, v1, vf0, vf1⟩ := HV.out.v
    obtain ⟨w0, w1, wf0, wf1⟩ := HV.out.w
    go_enter Tryd.func27, Tryd.ntmps27
    go_wp2_with fail
    refine (HCr.out _).mono ?_
    rintro r wc ⟨rfl, hb⟩
    have HB := Lib.hid (band HV.out.bel hb)
    clear hb
    have g1 := HG1.out
    have g2 := HG2.out
    go_wp2
    go_ret
    exact ⟨by rw [HR.out]; rfl, HB.out⟩
  have hA0 : ¬ A = 0 := by omega
  have HAn := Lib.hid hAn
  obtain ⟨v0, v1, vf0, vf1⟩ := HV.out.v
  obtain ⟨w0, w1, wf0, wf1⟩ := HV.out.w
  have hk : (A != (n : Int)) = false ∨ ((A != (n : Int)) = true ∧ (A != -(n : Int)) = false) := by
    rcases hAn with h | h
    · left; simp [h]
    · right; constructor
      · simp; omega
      · simp [h]
  clear hAn
  rcases hk with g1 | ⟨g1, g2⟩
  all_goals
    go_enter Tryd.func27, Tryd.ntmps27
    go_wp2_with fail
    refine (HCr.out _).mono ?_
    rintro r wc ⟨rfl, hb⟩
    have HVc := Lib.hid (HV.out.keep hb)
    have HCc := Lib.hid (HC.out.keep (Nat.le_refl _) hb)
    clear hb v0 v1 vf0 vf1 w0 w1 wf0 wf1
    go_wp2
    go_loopw [29] (fun i wr => ∃ k : Nat, k ≤ n ∧ i = .int .i64 k ∧ VW w wr vx vy wx wy ∧ Below wc.heap.size wc wr ∧ Hid (freeC X Y vx vy wx wy k)) (fun i _ => n - (intOf i).toNat)
    case atStart => exact ⟨0, Nat.zero_le _, rfl, HVc.out, Below.refl _ _, fun i hi => absurd hi (Nat.not_lt_zero _)⟩
    case round =>
      obtain ⟨k, hk, rfl, hv, hb, HF⟩ := hrel
      obtain ⟨wo, hwo⟩ : ∃ wo : World, wo = wr := ⟨_, rfl⟩
      subst hwo
      have HVr := Lib.hid hv
      have HB := Lib.hid hb
      have hC := HCc.out.keep (Nat.le_refl _) hb
      clear hb hv
      by_cases hlt : k < n
      rotate_left
      · have e : k = n := by omega
        have HR : Hid (fillsB n X Y vx vy wx wy = true) := fillsB_iff.2 ⟨by rw [HA.out]; exact HAn.out, by rw [← e]; exact HF.out⟩
        have hge : (n : Int) ≤ k := by omega
        clear e hC
        go_wp2
        go_ret
        exact ⟨by rw [HR.out]; rfl, HVr.out.bel⟩
      obtain ⟨b, o, rfl, d0, d1⟩ := hC.two hlt
      have hbl := World.block_lt_of_cell? _ _ d0
      have hkc : (k : Int) ≤ cap := by omega
      obtain ⟨⟨x1, x2⟩, y1, y2⟩ := HX.out k hlt
      obtain ⟨W1, hW1⟩ : ∃ W1, W1 = wo.alloc (.cells #[.int .i64 (X k), .int .i64 (Y k)] 23) := ⟨_, rfl⟩
      have HW1 := Lib.hid hW1
      have HB1 : Hid (Below wo.heap.size wo W1) := by simp only [Hid]; rw [hW1]; exact one_le _ _
      have HP1 : Hid (At2 W1 wo.heap.size (.int .i64 (X k)) (.int .i64 (Y k))) := by simp only [Hid]; rw [hW1]; exact At2.of (heap_alloc_new _ _)
      have HC1 : Hid (CellsAt W1 (some ⟨b, o, none⟩) 2 n (fun i => pcell (X i) (Y i))) := hC.keep (Nat.le_refl _) HB1.out
      have HV1 : Hid (VW w W1 vx vy wx wy) := HVr.out.keep HB1.out
      clear hC hW1
      go_wp2_with fail
      rw [← HW1.out]
      go_wp2
      go_loopw [38] (fun i wr => ∃ m : Nat, m ≤ k ∧ i = .int .i64 m ∧ Below W1.heap.size W1 wr ∧ Hid (∀ j, j < m → ¬ clash X Y vx vy wx wy k j)) (fun i _ => k - (intOf i).toNat)
      case atStart => exact ⟨0, Nat.zero_le _, rfl, Below.refl _ _, fun i hi => absurd hi (Nat.not_lt_zero _)⟩
      case round =>
        obtain ⟨m, hm, rfl, hb2, HF2⟩ := hrel
        have HB2 := Lib.hid hb2
        clear hb2
        by_cases hltm : m < k
        rotate_left
        · have e : m = k := by omega
          have HF3 : Hid (freeC X Y vx vy wx wy (k + 1)) := freeC_next HF.out (fun j hj => HF2.out j (by omega))
          have HB3 : Hid (Below wc.heap.size wc wr) := band (band HB.out HB1.out) HB2.out
          have HV3 : Hid (VW w wr vx vy wx wy) := HV1.out.keep HB2.out
          have hge : (k : Int) ≤ m := by omega
          clear e
          go_wp2
          go_roundw
          case rel => exact ⟨k + 1, by omega, by go_num, HV3.out, HB3.out, HF3⟩
          case measure => simp [intOf]; omega
        obtain ⟨b', o', e1, d2, d3⟩ := (HC1.out.keep (Nat.le_refl _) HB2.out).two (show m < n by omega)
        injection e1 with e1; injection e1 with e1 e1'; subst e1; subst e1'
        have hbl2 := World.block_lt_of_cell? _ _ d2
        obtain ⟨⟨z1, z2⟩, u1, u2⟩ := HX.out m (by omega)
        have hp := HP1.out.keep HB2.out
        have hpl := hp.lt
        obtain ⟨p0, p1, _, _⟩ := hp
        have hv := (HV1.out.keep HB2.out)
        have hvl := hv.v.lt
        have hwl := hv.w.lt
        obtain ⟨v0, v1, _, _⟩ := hv.v
        obtain ⟨w0, w1, _, _⟩ := hv.w
        clear hv
        obtain ⟨⟨⟨bv1, bv2⟩, bv3, bv4⟩, ⟨bw1, bw2⟩, bw3, bw4⟩ := HBv.out
        obtain ⟨r1, hr1⟩ : ∃ r, crossN (X k - X m) (Y k - Y m) wx wy = r := ⟨_, rfl⟩
        obtain ⟨r2, hr2⟩ : ∃ r, crossN vx vy (X k - X m) (Y k - Y m) = r := ⟨_, rfl⟩
        have HC2 := Lib.hid (fun W => cross_any (X k - X m) (Y k - Y m) wx wy r1 W hr1 (by omega) (by omega) ⟨bw1, bw2⟩ ⟨bw3, bw4⟩)
        have HC3 := Lib.hid (fun W => cross_any vx vy (X k - X m) (Y k - Y m) r2 W hr2 ⟨bv1, bv2⟩ ⟨bv3, bv4⟩ (by omega) (by omega))
        have hb1 : -4000000 ≤ r1 ∧ r1 ≤ 4000000 := by
          have q1 := mul_le (a := X k - X m) (b := wy) (by omega) (by omega)
          have q2 := mul_le (a := Y k - Y m) (b := wx) (by omega) (by omega)
          rw [← hr1]; unfold crossN; omega
        have hb2 : -4000000 ≤ r2 ∧ r2 ≤ 4000000 := by
          have q1 := mul_le (a := vx) (b := Y k - Y m) (by omega) (by omega)
          have q2 := mul_le (a := vy) (b := X k - X m) (by omega) (by omega)
          rw [← hr2]; unfold crossN; omega
        have HCl : Hid (clash X Y vx vy wx wy k m ↔ r1.tmod A = 0 ∧ r2.tmod A = 0) := by simp only [Hid, clash]; rw [HA.out, hr1, hr2]
        have t1 := tmod_bd r1 A 4000000 hb1.1 hb1.2
        have t2 := tmod_bd r2 A 4000000 hb2.1 hb2.2
        clear hr1 hr2 bv1 bv2 bv3 bv4 bw1 bw2 bw3 bw4
        obtain ⟨T1, hT1⟩ : ∃ T, r1.tmod A = T := ⟨_, rfl⟩
        obtain ⟨T2, hT2⟩ : ∃ T, r2.tmod A = T := ⟨_, rfl⟩
        rw [hT1, hT2] at HCl
        rw [hT1] at t1
        rw [hT2] at t2
        have wT1 : wrap64 T1 = T1 := IntWalk.wrap64_in _ (by omega)
        have wT2 : wrap64 T2 = T2 := IntWalk.wrap64_in _ (by omega)
        have HT1 := Lib.hid hT1
        have HT2 := Lib.hid hT2
        have HW1' := Lib.hid wT1
        have HW2' := Lib.hid wT2
        obtain ⟨W2, hW2⟩ : ∃ W2, W2 = ((wr.alloc (.cells #[.int .i64 (X m), .int .i64 (Y m)] 23)).alloc (.cells #[.int .i64 (X k - X m), .int .i64 (Y k - Y m)] 23)) := ⟨_, rfl⟩
        have HB3 : Hid (Below wr.heap.size wr W2) := by simp only [Hid]; rw [hW2]; exact two_le _ _ _
        have HQ : Hid (At2 W2 (wr.heap.size + 1) (.int .i64 (X k - X m)) (.int .i64 (Y k - Y m))) := by simp only [Hid]; rw [hW2]; exact At2.of (heap_two2 _ _ _)
        have HW2 := Lib.hid hW2
        clear hW2 t1 t2 hT1 hT2 wT1 wT2
        go_wp2_with fail
        rw [← HW2.out]
        refine (HC2.out _).mono ?_
        rintro r w3 ⟨rfl, hb⟩
        have HB4 := Lib.hid (band HB3.out hb)
        have HQ4 := Lib.hid (HQ.out.keep hb)
        clear hb d2 d3 p0 p1 v0 v1 w0 w1
        have hv := (HV1.out.keep (band HB2.out HB4.out))
        obtain ⟨v0, v1, _, _⟩ := hv.v
        obtain ⟨w0, w1, _, _⟩ := hv.w
        obtain ⟨p0, p1, _, _⟩ := HQ4.out
        clear hv
        have e1 := HT1.out
        have e2 := HW1'.out
        by_cases hz1 : T1 = 0
        · subst hz1
          go_wp2_with fail
          refine (HC3.out _).mono ?_
          rintro r w4 ⟨rfl, hb⟩
          have HB5 := Lib.hid (band HB4.out hb)
          clear hb v0 v1 w0 w1 p0 p1 e1 e2
          have e1 := HT2.out
          have e2 := HW2'.out
          by_cases hz2 : T2 = 0
          · subst hz2
            have HR : Hid (fillsB n X Y vx vy wx wy = false) := fillsB_no (fun h => h.2 k hlt m hltm (HCl.out.2 (by simp)))
            have HBL : Hid (Below w.heap.size w w4) := band (HV1.out.keep HB2.out).bel HB5.out
            go_wp2
            go_ret
            exact ⟨by rw [HR.out]; rfl, HBL.out⟩
          · have hzb : (T2 == 0) = false := by simp [hz2]
            have HN : Hid (∀ j, j < m + 1 → ¬ clash X Y vx vy wx wy k j) := by
              intro j hj
              by_cases e : j = m
              · subst e; intro h; exact hz2 (HCl.out.1 h).2
              · exact HF2.out j (by omega)
            go_wp2
            go_roundw
            case rel => exact ⟨m + 1, by omega, by go_num, band HB2.out HB5.out, HN⟩
            case measure => simp [intOf]; omega
        · have hzb : (T1 == 0) = false := by simp [hz1]
          have HN : Hid (∀ j, j < m + 1 → ¬ clash X Y vx vy wx wy k j) := by
            intro j hj
            by_cases e : j = m
            · subst e; intro h; exact hz1 (HCl.out.1 h).1
            · exact HF2.out j (by omega)
          go_wp2
          go_roundw
          case rel => exact ⟨m + 1, by omega, by go_num, band HB2.out HB4.out, HN⟩
          case measure => simp [intOf]; omega
end Go.Proofs.YtfommfgokpiieabDoor
