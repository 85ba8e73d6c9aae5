import Derived.Test.YtgednacoeifclaaX8
import Derived.Test.YtgednacoeifclaaL3
namespace Go.Proofs.Ytgednacoeifclaa
open Go.RowKit Go.Shelf

/-- The sum of the chances of the kinds of a set, those below j, to be the last of another. -/
def fiT (z : Nat → Int) (L s u j : Nat) : Int := sumC (laX z L s) (kindsTo u j)

set_option maxRecDepth 100000 in
set_option maxHeartbeats 8000000 in
theorem rfirst_any (a : Option Addr) (n cap : Nat) (z : Nat → Int) (x y L : Nat) (w : World) (hx : x < 2 ^ n) (hy : y < 2 ^ n) (h1n : 1 ≤ n) (hn : n ≤ 6) (hz : Ints w a n z) (h9 : ∀ j, j < n → 1 ≤ z j ∧ z j ≤ 9) (hS : SetL z (x ||| y) L) :
    Calls Try.prog 34 #[.slice a n cap, .int .i64 x, .int .i64 y] w fun e w' => QOut (fiX z L x y) L w e w' := by
  have hx64 := lt64 hx hn
  have hy64 := lt64 hy hn
  have hxy : x ||| y < 2 ^ n := Nat.or_lt_two_pow hx hy
  have hL1 := hS.L1
  have hLM := hS.LM
  have hbit : ∀ i, i < n → (sdiff y x).testBit i = true → (x ||| y).testBit i = true ∧ i ∈ kindsL (x ||| y) := fun i hi hb => by
    have h1 : (x ||| y).testBit i = true := by
      rw [sdiff_bit hy64 hx64 (by omega), Bool.and_eq_true] at hb
      rw [Nat.testBit_or, hb.1]; simp
    exact ⟨h1, (bit_kind hxy hn h1).1⟩
  have hsub : ∀ j, j ≤ n → (kindsTo (sdiff y x) j).Sublist (kindsL (x ||| y)) := fun j hj => ((kindsTo_le (by omega : j ≤ 6)).sublist).trans (sub_diff hx64 hy64)
  have HD : Hid (∀ i, i < n → (sdiff y x).testBit i = true → ∀ W, Below w.heap.size w W → Calls Try.prog 25 #[.slice a n cap, .int .i64 ((x ||| y : Nat) : Int), .int .i64 i] W fun e w' => QOut (laX z L (x ||| y) i) L W e w') := fun i hi hb W hW =>
    rlast_any n cap z i hi hn h9 (x ||| y) a L W hxy (hbit i hi hb).1 hL1 (hS.ok i (hbit i hi hb).2).dv (hz.keep (Nat.le_refl _) hW)
  have HPl : Hid (∀ i, i < n → (sdiff y x).testBit i = true → ∀ W, Calls Try.prog 55 #[.agg #[.int .i64 (frA (fiT z L (x ||| y) (sdiff y x) i) L), .int .i64 (frB (fiT z L (x ||| y) (sdiff y x) i) L : Nat)], .agg #[.int .i64 (frA (laX z L (x ||| y) i) L), .int .i64 (frB (laX z L (x ||| y) i) L : Nat)]] W fun e w' => QOut (fiT z L (x ||| y) (sdiff y x) (i + 1)) L W e w') := fun i hi hb W => by
    have e : fiT z L (x ||| y) (sdiff y x) (i + 1) = fiT z L (x ||| y) (sdiff y x) i + laX z L (x ||| y) i := by unfold fiT; rw [kindsTo_yes hb, sumC_snoc]
    rw [e]
    have h1 : 0 ≤ fiT z L (x ||| y) (sdiff y x) i ∧ fiT z L (x ||| y) (sdiff y x) i ≤ L := sumC_sub_le hS (hsub i (by omega))
    have h2 := hS.pos i (hbit i hi hb).2
    have h3 := hS.le (hbit i hi hb).2
    exact rplus_any _ _ L W hL1 (by omega) (by omega) (by omega)
  have HNo : Hid (∀ i, (sdiff y x).testBit i = false → fiT z L (x ||| y) (sdiff y x) (i + 1) = fiT z L (x ||| y) (sdiff y x) i) := fun i hb => by unfold fiT; rw [kindsTo_no hb]
  have HEnd : Hid (fiT z L (x ||| y) (sdiff y x) n = fiX z L x y) := by rw [Hid]; unfold fiT fiX; rw [kindsTo_end (sdiff_lt hy) hn]
  have HW := Lib.hid (rwhole_any 0)
  have h1 := fr_one 0
  have hz0 := fr_zero (L := L) hL1
  have HE : Hid (frA 0 1 = frA (fiT z L (x ||| y) (sdiff y x) 0) L ∧ frB 0 1 = frB (fiT z L (x ||| y) (sdiff y x) 0) L) := ⟨h1.1.trans hz0.1.symm, h1.2.trans hz0.2.symm⟩
  have hN1 : bits .andNot .i64 (y : Int) (x : Int) = ((sdiff y x : Nat) : Int) := andNot_nat hy64 hx64
  have HOr : Hid (bits .or .i64 (x : Int) (y : Int) = ((x ||| y : Nat) : Int)) := bor_nat x y (Nat.lt_of_lt_of_le hx64 (by decide)) (Nat.lt_of_lt_of_le hy64 (by decide))
  have hu62 : sdiff y x < 2 ^ 62 := Nat.lt_of_le_of_lt (sdiff_le _ _) (Nat.lt_of_lt_of_le hy64 (by decide))
  obtain ⟨T, hT⟩ : ∃ T : Nat → Int, T = fiT z L (x ||| y) (sdiff y x) := ⟨_, rfl⟩
  obtain ⟨Y, hY⟩ : ∃ Y : Nat → Int, Y = laX z L (x ||| y) := ⟨_, rfl⟩
  simp only [← hT, ← hY] at HD HPl HNo HEnd HE
  obtain ⟨u, hu⟩ : ∃ u, u = sdiff y x := ⟨_, rfl⟩
  rw [← hu] at hN1 hu62
  simp only [← hu] at HD HPl HNo
  clear hz h9 hS hbit hsub h1 hz0 hT hY hu hxy
  go_enter Try.func34, Try.ntmps34
  go_wp2_with fail
  refine (HW.out _).mono ?_
  rintro e w1 ⟨rfl, hb1⟩
  rw [HE.out.1, HE.out.2]
  have HB1 : Hid (Below w.heap.size w w1) := (below_one w _).trans (hb1.mono (by simp))
  have hr1 : w1.heap[w.heap.size]? = some (.cells #[.int .i64 0, .int .i64 0] 24) := (hb1.block _ (by simp)).trans (heap_alloc_new w _)
  have hs1 : w.heap.size < w1.heap.size := by have := hb1.size; simp at this; omega
  obtain ⟨W2, hW2⟩ : ∃ W2, W2 = w1.alloc (.cells #[.int .i64 (frA (T 0) L), .int .i64 (frB (T 0) L : Nat)] 24) := ⟨_, rfl⟩
  have HFB : Hid (FrBox W2 w1.heap.size (T 0) L) := by rw [hW2]; exact heap_alloc_new w1 _
  have HB2 : Hid (Below w.heap.size w W2) := by rw [hW2]; exact HB1.out.alloc HB1.out.size _
  have HR2 : Hid (W2.heap[w.heap.size]? = some (.cells #[.int .i64 0, .int .i64 0] 24)) := by rw [hW2]; exact (Below.heap_alloc _ _ _ hs1).trans hr1
  have hs2 : W2.heap.size = w1.heap.size + 1 := by rw [hW2]; simp
  have HWe := Lib.hid hW2
  clear hW2 hb1 hr1 HB1
  go_wp2
  rw [← HWe.out]
  go_loopw [8, 12] (fun _ i wr => ∃ j : Nat, j ≤ n ∧ i = .int .i64 j ∧ FrBox wr w1.heap.size (T j) L ∧ Below w1.heap.size W2 wr) (fun _ i _ => n - (intOf i).toNat)
  case atStart => exact ⟨0, Nat.zero_le _, rfl, HFB.out, Below.refl _ _⟩
  case round =>
    obtain ⟨j, hj, rfl, hbx, hbl⟩ := hrel
    obtain ⟨q1, q2, q3, q4⟩ := fr_cells hbx
    have HBX := Lib.hid hbx
    have HBL := Lib.hid hbl
    have hsz := hbl.size
    have HBw := Lib.hid (HB2.out.trans (hbl.mono (by omega)))
    clear hbx hbl
    by_cases hlt : j < n
    · have hj0 : (0 : Int) ≤ (j : Int) := by omega
      have hbj := bit_at u j hu62
      cases hbit : u.testBit j
      · rw [hbit] at hbj
        have HNj := Lib.hid (HNo.out j hbit)
        clear hbit
        go_wp2
        go_roundw
        case rel => exact ⟨j + 1, by omega, by go_num, by rw [HNj.out]; exact HBX.out, HBL.out⟩
        case measure => simp [intOf]; omega
      · rw [hbit] at hbj
        have HDj := Lib.hid (HD.out j hlt hbit wr.drew HBw.out.drew)
        have HPj := Lib.hid (HPl.out j hlt hbit)
        clear hbit
        go_wp2
        go_region_with (first
          | (go_at_call 25; rw [HOr.out]; refine HDj.out.mono ?_; rintro e w3 ⟨rfl, hb3⟩; have hb3' := below_drew1 hb3; have hq := frAt HBX.out hb3'; obtain ⟨s1, s2, s3, s4⟩ := fr_cells hq; have HQ := Lib.hid hq; have HB3 := Lib.hid hb3'; clear hb3 hb3' hq)
          | (go_at_call 55; refine (HPj.out _).mono ?_; rintro e w4 ⟨rfl, hb4⟩; have hq := frAt HQ.out hb4; obtain ⟨u1, u2, u3, u4⟩ := fr_cells hq; have HQ4 := Lib.hid hq; have HB4 := Lib.hid hb4; clear hb4 hq))
        all_goals
          have HN : Hid (FrBox ((w4.setCell ⟨w1.heap.size, 0, none⟩ (.int .i64 (frA (T (j + 1)) L))).setCell ⟨w1.heap.size, 1, none⟩ (.int .i64 (frB (T (j + 1)) L : Nat))) w1.heap.size (T (j + 1)) L) := FrBox.set HQ4.out _ _
          have HBn : Hid (Below w1.heap.size W2 ((w4.setCell ⟨w1.heap.size, 0, none⟩ (.int .i64 (frA (T (j + 1)) L))).setCell ⟨w1.heap.size, 1, none⟩ (.int .i64 (frB (T (j + 1)) L : Nat)))) := (HBL.out.trans ((HB3.out.trans (HB4.out.mono HB3.out.size)).mono (by omega))).trans (below_set2 w4 w1.heap.size _ _)
          go_wp2
          go_roundw
          case rel => exact ⟨j + 1, by omega, by go_num, HN.out, HBn.out⟩
          case measure => simp [intOf]; omega
    · have e : j = n := by omega
      have HFn : Hid (T j = fiX z L x y) := by rw [Hid, e]; exact HEnd.out
      have hge : (n : Int) ≤ j := by omega
      have hres : wr.heap[w.heap.size]? = some (.cells #[.int .i64 0, .int .i64 0] 24) := (HBL.out.block _ hs1).trans HR2.out
      obtain ⟨r1, r2, r3, r4⟩ := fr_cells hres
      obtain ⟨A, hA⟩ : ∃ A, A = frA (T j) L := ⟨_, rfl⟩
      obtain ⟨B, hB⟩ : ∃ B, B = frB (T j) L := ⟨_, rfl⟩
      have HAB : Hid (frA (fiX z L x y) L = A ∧ frB (fiX z L x y) L = B) := by rw [Hid, ← HFn.out]; exact ⟨hA.symm, hB.symm⟩
      rw [← hA] at q1
      rw [← hB] at q2
      clear e hA hB hres
      go_wp2
      exact bodyPost_ret (v := .agg #[.int .i64 A, .int .i64 (B : Int)]) (by simp [results, Try.results34, go_sem, r1, r2]) rfl ⟨by rw [HAB.out.1, HAB.out.2], (HBw.out.setCell (by simp) _).setCell (by simp) _⟩
end Go.Proofs.Ytgednacoeifclaa
