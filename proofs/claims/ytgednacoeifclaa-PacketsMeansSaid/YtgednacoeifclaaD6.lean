import Derived.Test.YtgednacoeifclaaD5
import Derived.Test.YtgednacoeifclaaL1
namespace Go.Proofs.Ytgednacoeifclaa
open Go.RowKit Go.Shelf

theorem validB_nil (n : Nat) (z : Nat → Int) : validB n z 0 (fun _ => 0) = isW n z := by
  unfold validB
  rw [show (decide (∀ j, j < 0 → 0 ≤ (0 : Int) ∧ (0 : Int) < 2 ^ n)) = true by simp]
  simp
theorem valid_none (r : Bool) (a : Option Addr) (n cap : Nat) (z : Nat → Int) (w : World) (h : isW n z = r) (hn : n ≤ 140737488351232) (hz : Ints w a n z) :
    Calls Try.prog 48 #[.slice a n cap, .slice none 0 0] w fun e w' => e = .returned (.bool r) ∧ w = w' := by
  have hv := valid_any a n cap z none 0 0 (fun _ => 0) w hn (by omega) hz Ints.none
  rw [validB_nil, h] at hv
  exact hv

set_option maxRecDepth 100000 in
set_option maxHeartbeats 2000000 in
theorem fKinds_bad (a : Option Addr) (n cap : Nat) (z : Nat → Int) (k : Int) (w : World) (h : isW n z = false ∨ isNumB k = false) (hn : n ≤ 140737488351232) (hz : Ints w a n z) :
    Calls Try.prog 30 #[.slice a n cap, .int .i64 k] w fun e w' => BadOut w e w' := by
  cases hv : isW n z
  · have HV := Lib.hid (valid_none false a n cap z _ hv hn (hz.keep (Nat.le_refl _) (below_one w (.cells #[.int .i64 0, .int .i64 0] 24))))
    clear h hz hv
    go_enter Try.func30, Try.ntmps30
    go_wp2_with (go_at_call 48; refine HV.out.mono ?_; rintro e w' ⟨rfl, rfl⟩)
    exact bodyPost_ret (v := .tuple #[.agg #[.int .i64 0, .int .i64 0], .int .i64 2]) (by simp [results, Try.results30, go_sem]) rfl ⟨rfl, below_one w _⟩
  · have hk : isNumB k = false := by
      rcases h with h | h
      · rw [hv] at h; cases h
      · exact h
    have HV := Lib.hid (valid_none true a n cap z _ hv hn (hz.keep (Nat.le_refl _) (below_one w (.cells #[.int .i64 0, .int .i64 0] 24))))
    have HK := Lib.hid hk
    clear h hz hv hk
    go_enter Try.func30, Try.ntmps30
    go_wp2_with (first | (go_at_call 48; refine HV.out.mono ?_; rintro e w' ⟨rfl, rfl⟩) | (go_at_call 57; refine (isNumber_r false _ _ HK.out).mono ?_; rintro e w' ⟨rfl, rfl⟩))
    exact bodyPost_ret (v := .tuple #[.agg #[.int .i64 0, .int .i64 0], .int .i64 2]) (by simp [results, Try.results30, go_sem]) rfl ⟨rfl, below_one w _⟩

set_option maxRecDepth 100000 in
set_option maxHeartbeats 2000000 in
theorem fKinds_good (a : Option Addr) (n cap : Nat) (z : Nat → Int) (k : Nat) (w : World) (h : isW n z = true) (hk : k ≤ 8) (hz : Ints w a n z) :
    Calls Try.prog 30 #[.slice a n cap, .int .i64 k] w fun e w' => FrOut (knC z n k) (LK z n k) w e w' := by
  have hh := isW_iff.1 h
  have HV := Lib.hid (valid_none true a n cap z _ h (by omega) (hz.keep (Nat.le_refl _) (below_one w (.cells #[.int .i64 0, .int .i64 0] 24))))
  have HK : Hid (isNumB (k : Int) = true) := isNumB_iff.2 (by omega)
  have HM := Lib.hid (different_any a n cap z k (w.alloc (.cells #[.int .i64 0, .int .i64 0] 24)) hh.1 hh.2.1 (hz.keep (Nat.le_refl _) (below_one _ _)) hh.2.2 hk)
  clear h hz hh
  generalize knC z n k = X at *
  generalize LK z n k = L at *
  go_enter Try.func30, Try.ntmps30
  go_wp2_with (first | (go_at_call 48; refine HV.out.mono ?_; rintro e w' ⟨rfl, rfl⟩) | (go_at_call 57; refine (isNumber_r true _ _ HK.out).mono ?_; rintro e w' ⟨rfl, rfl⟩))
  refine HM.out.mono ?_
  rintro e w4 ⟨rfl, hb4⟩
  obtain ⟨q1, q2, q3, q4⟩ := fr_cells ((hb4.block w.heap.size (by simp)).trans (heap_alloc_new w _))
  have HB4 : Hid (Below w.heap.size w w4) := (below_one w _).trans (hb4.mono (by simp))
  clear hb4
  go_wp2
  exact bodyPost_ret (v := .tuple #[.agg #[.int .i64 (frA X L), .int .i64 (frB X L : Nat)], .int .i64 0]) (by simp [results, Try.results30, go_sem, q1, q2]) rfl ⟨rfl, (HB4.out.setCell (by simp) _).setCell (by simp) _⟩

/-- The chances of the first kinds. -/
def knTo (z : Nat → Int) (n k i : Nat) : Int := sumC (kiC z n k) (List.range i)
theorem knC_snoc (z : Nat → Int) (n k i : Nat) : knTo z n k (i + 1) = knTo z n k i + kiC z n k i := by unfold knTo; rw [List.range_succ, sumC_snoc]

set_option maxRecDepth 100000 in
set_option maxHeartbeats 4000000 in
theorem rkinds_any (a : Option Addr) (n cap : Nat) (z : Nat → Int) (k : Nat) (w : World) (h1n : 1 ≤ n) (hn : n ≤ 6) (hz : Ints w a n z) (h9 : ∀ j, j < n → 1 ≤ z j ∧ z j ≤ 9) (hk : k ≤ 8) :
    Calls Try.prog 32 #[.slice a n cap, .int .i64 k] w fun e w' => QOut (knC z n k) (LK z n k) w e w' := by
  have hl := LK_bd h1n hn h9 hk
  have HD := Lib.hid (fun i (hi : i < n) W (hW : Below w.heap.size w W) => rdone_any a n cap z (2 ^ i) k W (two_lt hi) h1n hn (hz.keep (Nat.le_refl _) hW) h9 hk)
  have HK := Lib.hid (fun x => doC_abs (z := z) (full_lt hn) h9 hk (2 ^ x))
  have HW := Lib.hid (rwhole_any 0)
  have h1 := fr_one 0
  have hz0 := fr_zero (L := LK z n k) hl.1
  have HE : Hid (frA 0 1 = frA 0 (LK z n k) ∧ frB 0 1 = frB 0 (LK z n k)) := ⟨h1.1.trans hz0.1.symm, h1.2.trans hz0.2.symm⟩
  have HAbs : Hid (∀ i, i ≤ n → (knTo z n k i).natAbs ≤ 27763953154228224) := fun i hi => by
    have h1 : (knTo z n k i).natAbs ≤ sumA (kiC z n k) (List.range i) := sumC_abs (kiC z n k) (List.range i)
    have h2 := sumA_le (c := kiC z n k) (fun x => doC_abs (z := z) (full_lt hn) h9 hk (2 ^ x)) (List.range i)
    rw [List.length_range] at h2
    have h3 : i * 4627325525704704 ≤ 6 * 4627325525704704 := Nat.mul_le_mul_right _ (by omega)
    omega
  have HPl : Hid (∀ i, i < n → ∀ W, Calls Try.prog 55 #[.agg #[.int .i64 (frA (knTo z n k i) (LK z n k)), .int .i64 (frB (knTo z n k i) (LK z n k) : Nat)], .agg #[.int .i64 (frA (kiC z n k i) (LK z n k)), .int .i64 (frB (kiC z n k i) (LK z n k) : Nat)]] W fun e w' => QOut (knTo z n k (i + 1)) (LK z n k) W e w') := fun i hi W => by
    rw [knC_snoc]
    have h1 := HAbs.out i (by omega)
    have h2 := HK.out i
    exact rplus_any _ _ _ W hl.1 (by omega) (by omega) (by unfold kiC; omega)
  clear hz h9 h1 hz0 HAbs
  obtain ⟨L, hL⟩ : ∃ L, L = LK z n k := ⟨_, rfl⟩
  have HLe := Lib.hid hL
  have HD2 : Hid (∀ i, i < n → ∀ W, Below w.heap.size w W → Calls Try.prog 28 #[.slice a n cap, .int .i64 ((2 ^ i : Nat) : Int), .int .i64 k] W fun e w' => QOut (kiC z n k i) L W e w') := by rw [hL]; exact HD.out
  rw [← hL] at HE HPl hl ⊢
  clear HD hL
  go_enter Try.func32, Try.ntmps32
  go_wp2_with fail
  refine (HW.out _).mono ?_
  rintro e w1 ⟨rfl, hb1⟩
  rw [HE.out.1, HE.out.2]
  have HB1 : Hid (Below w.heap.size w w1) := (below_one w _).trans (hb1.mono (by simp))
  have hr1 : w1.heap[w.heap.size]? = some (.cells #[.int .i64 0, .int .i64 0] 24) := (hb1.block _ (by simp)).trans (heap_alloc_new w _)
  have hs1 : w.heap.size < w1.heap.size := by have := hb1.size; simp at this; omega
  obtain ⟨W2, hW2⟩ : ∃ W2, W2 = w1.alloc (.cells #[.int .i64 (frA 0 L), .int .i64 (frB 0 L : Nat)] 24) := ⟨_, rfl⟩
  have HFB : Hid (FrBox W2 w1.heap.size 0 L) := by rw [hW2]; exact heap_alloc_new w1 _
  have HB2 : Hid (Below w.heap.size w W2) := by rw [hW2]; exact HB1.out.alloc HB1.out.size _
  have HR2 : Hid (W2.heap[w.heap.size]? = some (.cells #[.int .i64 0, .int .i64 0] 24)) := by rw [hW2]; exact (Below.heap_alloc _ _ _ hs1).trans hr1
  have hs2 : W2.heap.size = w1.heap.size + 1 := by rw [hW2]; simp
  have HWe := Lib.hid hW2
  clear hW2 hb1 hr1 HB1
  go_wp2
  rw [← HWe.out]
  go_loopw [6, 10] (fun _ i wr => ∃ j : Nat, j ≤ n ∧ i = .int .i64 j ∧ FrBox wr w1.heap.size (knTo z n k j) L ∧ Below w1.heap.size W2 wr) (fun _ i _ => n - (intOf i).toNat)
  case atStart => exact ⟨0, Nat.zero_le _, rfl, HFB.out, Below.refl _ _⟩
  case round =>
    obtain ⟨j, hj, rfl, hbx, hbl⟩ := hrel
    obtain ⟨q1, q2, q3, q4⟩ := fr_cells hbx
    have HBX := Lib.hid hbx
    have HBL := Lib.hid hbl
    have hsz := hbl.size
    have HBw := Lib.hid (HB2.out.trans (hbl.mono (by omega)))
    clear hbx hbl
    by_cases hlt : j < n
    · have HP : Hid (IntKind.i64.wrap ((2 : Int) ^ j) = ((2 ^ j : Nat) : Int)) := wrap_two' (by omega)
      have hj0 : (0 : Int) ≤ (j : Int) := by omega
      have HDj := Lib.hid (HD2.out j hlt wr.drew HBw.out.drew)
      have HPj := Lib.hid (HPl.out j hlt)
      go_wp2
      generalize knTo z n k j = S at *
      generalize kiC z n k j = Y at *
      go_region_with (first
        | (go_at_call 28; rw [HP.out]; refine HDj.out.mono ?_; rintro e w3 ⟨rfl, hb3⟩; have hb3' := below_drew1 hb3; have hq := frAt HBX.out hb3'; obtain ⟨s1, s2, s3, s4⟩ := fr_cells hq; have HQ := Lib.hid hq; have HB3 := Lib.hid hb3'; clear hb3 hb3' hq)
        | (go_at_call 55; refine (HPj.out _).mono ?_; rintro e w4 ⟨rfl, hb4⟩; have hq := frAt HQ.out hb4; obtain ⟨u1, u2, u3, u4⟩ := fr_cells hq; have HQ4 := Lib.hid hq; have HB4 := Lib.hid hb4; clear hb4 hq))
      all_goals
        have HN : Hid (FrBox ((w4.setCell ⟨w1.heap.size, 0, none⟩ (.int .i64 (frA (knTo z n k (j + 1)) L))).setCell ⟨w1.heap.size, 1, none⟩ (.int .i64 (frB (knTo z n k (j + 1)) L : Nat))) w1.heap.size (knTo z n k (j + 1)) L) := FrBox.set HQ4.out _ _
        have HBn : Hid (Below w1.heap.size W2 ((w4.setCell ⟨w1.heap.size, 0, none⟩ (.int .i64 (frA (knTo z n k (j + 1)) L))).setCell ⟨w1.heap.size, 1, none⟩ (.int .i64 (frB (knTo z n k (j + 1)) L : Nat)))) :=
          ((HBL.out.trans (HB3.out.mono (by omega))).trans (HB4.out.mono (Nat.le_trans (show w1.heap.size ≤ wr.heap.size by omega) HB3.out.size))).trans (below_set2 w4 w1.heap.size _ _)
        clear q1 q2 q3 q4 s1 s2 s3 s4 u1 u2 u3 u4
        go_wp2
        go_roundw
        case rel => exact ⟨j + 1, by omega, by go_num, HN.out, HBn.out⟩
        case measure => simp [intOf]; omega
    · have e : j = n := by omega
      have HS : Hid (knC z n k = knTo z n k j) := by unfold Hid knC knTo; rw [e]
      have hge : (n : Int) ≤ j := by omega
      obtain ⟨r1, r2, r3, r4⟩ := fr_cells ((HBL.out.block w.heap.size hs1).trans HR2.out)
      clear e
      generalize knTo z n k j = S at *
      go_wp2
      exact bodyPost_ret (v := .agg #[.int .i64 (frA S L), .int .i64 (frB S L : Nat)]) (by simp [results, Try.results32, go_sem, r1, r2]) rfl ⟨by rw [HS.out], (HBw.out.setCell (by simp) _).setCell (by simp) _⟩
end Go.Proofs.Ytgednacoeifclaa
