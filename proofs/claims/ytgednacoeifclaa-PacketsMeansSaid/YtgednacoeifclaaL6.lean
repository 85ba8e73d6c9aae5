import Derived.Test.YtgednacoeifclaaN3
import Derived.Test.YtgednacoeifclaaR7
import Derived.Test.YtgednacoeifclaaL3
import Derived.Deep.DeepCutAuto
namespace Go.Proofs.Ytgednacoeifclaa
open Go.RowKit Go.Shelf

set_option maxHeartbeats 4000000 in
set_option maxRecDepth 100000 in
theorem count_bad (a : Option Addr) (n cap : Nat) (z : Nat → Int) (k : Int) (w : World) (h : isW n z = false ∨ isNumB k = false) (hcap : n ≤ cap) (h8 : n * 8 ≤ 140737488355328) (hz : Ints w a n z) :
    Calls Try.prog 14 #[.slice a n cap, .int .i64 k] w fun e w' => SomeB true w e w' := by
  have H2 : Hid (isW (min n 8) z = false ∨ isNumB k = false) := by rw [Hid, isW_cut]; exact h
  have HL := Lib.hid (fun W (hW : Below w.heap.size w W) => list_any a cap n z W hcap h8 (hz.keep (Nat.le_refl _) hW))
  have HD := Lib.hid (fun a1 c1 W (hI : Ints W a1 (min n 8) z) => fKinds_bad a1 (min n 8) c1 z k W H2.out (by have := Nat.min_le_right n 8; omega) hI)
  clear hz h
  go_enter Try.func14, Try.ntmps14
  go_wp2_with fail
  refine (HL.out w (Below.refl _ _)).mono ?_
  rintro e w1 ⟨a1, c1, rfl, hO, hb⟩
  have HI1 := Lib.hid hO.ints
  clear hO
  have HBw1 := Lib.hid (band (Below.refl _ _) hb)
  clear hb
  go_wp2_with fail
  refine (HD.out a1 c1 w1 HI1.out).mono ?_
  rintro e w2 ⟨rfl, hb⟩
  have HBw2 := Lib.hid (band HBw1.out hb)
  clear hb
  obtain ⟨w3, hw3⟩ : ∃ w3, w3 = w2.alloc (.cells #[.int .i64 0, .int .i64 (0 : Int)] 24) := ⟨_, rfl⟩
  have HQ1 : Hid (w3.heap[w2.heap.size]? = some (.cells #[.int .i64 0, .int .i64 (0 : Int)] 24)) := by rw [hw3]; exact heap_alloc_new w2 _
  have HBw3 : Hid (Below w.heap.size w w3) := by rw [hw3]; exact HBw2.out.alloc (HBw2.out).size _
  have HWw3 := Lib.hid hw3
  clear hw3
  obtain ⟨qa2, qb2, _, _⟩ := fr_cells HQ1.out
  go_wp2_with fail
  rw [← HWw3.out]
  refine (awake_any _).mono ?_
  rintro e w4 ⟨rfl, hb⟩
  clear qa2 qb2
  have HBw4 := Lib.hid (band HBw3.out hb)
  have HQ3 := Lib.hid (frAt HQ1.out hb)
  clear hb
  obtain ⟨qa4, qb4, _, _⟩ := fr_cells HQ3.out
  go_wp2
  go_ret
  exact ⟨rfl, HBw4.out⟩

/-- A block of a fraction that a region made. -/
structure NewFr (W wc : World) (b : Nat) (A : Int) (B : Nat) : Prop where
  h : wc.heap[b]? = some (.cells #[.int .i64 A, .int .i64 (B : Int)] 24)
  lo : W.heap.size ≤ b
  hb : Below W.heap.size W wc
theorem newFr_last {W w2 : World} {A : Int} {B : Nat} (hb : Below W.heap.size W w2) : NewFr W (w2.alloc (.cells #[.int .i64 A, .int .i64 (B : Int)] 24)) w2.heap.size A B :=
  ⟨heap_alloc_new w2 _, hb.size, hb.alloc hb.size _⟩
theorem newFr_set {W w2 : World} {b : Nat} {A : Int} {B : Nat} {cs : Value × Value} (h : w2.heap[b]? = some (.cells #[cs.1, cs.2] 24)) (lo : W.heap.size ≤ b) (hb : Below W.heap.size W w2) :
    NewFr W ((w2.setCell ⟨b, 0, none⟩ (.int .i64 A)).setCell ⟨b, 1, none⟩ (.int .i64 (B : Int))) b A B :=
  ⟨set_block (set_block h _) _, lo, Below.setCell (p := ⟨b, 1, none⟩) (Below.setCell (p := ⟨b, 0, none⟩) hb lo _) lo _⟩

set_option maxHeartbeats 8000000 in
set_option maxRecDepth 100000 in
theorem count_good (a : Option Addr) (n cap : Nat) (z : Nat → Int) (k : Nat) (w : World) (h : isW n z = true) (hk : k ≤ 8) (hcap : n ≤ cap) (h8 : n * 8 ≤ 140737488355328) (hz : Ints w a n z) :
    Calls Try.prog 14 #[.slice a n cap, .int .i64 k] w fun e w' => SomeB true w e w' := by
  obtain ⟨h1n, hn6, h9⟩ := isW_iff.1 h
  have hmn : min n 8 = n := by omega
  have hl := fun W (hW : Below w.heap.size w W) => list_any a cap n z W hcap h8 (hz.keep (Nat.le_refl _) hW)
  rw [hmn] at hl
  have HL := Lib.hid hl
  have HRs := Lib.hid (fun W (hW : Below w.heap.size w W) => rweights_r true a n cap z W h (by omega) (hz.keep (Nat.le_refl _) hW))
  have hok : ∀ i : Nat, i < n → okS n z ((2 ^ i : Nat) : Int) = true := fun i hi => okS_iff.2 ⟨⟨h1n, hn6, h9⟩, Int.natCast_nonneg _, by
    have e : (2 : Int) ^ n = ((2 ^ n : Nat) : Int) := by simp
    have := two_lt hi
    rw [e]; omega⟩
  have hLb := LK_bd h1n hn6 h9 hk
  have hone : ∀ i, i < n → 0 ≤ kiC z n k i ∧ kiC z n k i ≤ (LK z n k : Nat) := fun i hi => kiC_one hi hn6 h1n h9
  have hkn := knC_one (z := z) (n := n) (k := k) hn6 h1n h9
  have hfew := knC_few (z := z) (n := n) (k := k) hn6 h1n h9
  have hn6' : (n : Int) * (LK z n k : Nat) ≤ 6 * (LK z n k : Nat) := Int.mul_le_mul_of_nonneg_right (by omega) (by omega)
  have hto : ∀ j, j ≤ n → 0 ≤ knTo z n k j ∧ knTo z n k j ≤ (j : Int) * (LK z n k : Nat) := by
    intro j
    induction j with
    | zero => intro _; simp [knTo, sumC]
    | succ j ih =>
      intro hj
      have h1 := ih (by omega)
      have h2 := hone j (by omega)
      rw [knC_snoc]
      have e : ((j + 1 : Nat) : Int) * (LK z n k : Nat) = (j : Int) * (LK z n k : Nat) + (LK z n k : Nat) := by rw [Int.natCast_add]; grind
      rw [e]; omega
  have HD : Hid (∀ i : Nat, i < n → ∀ a1 c1 W, Ints W a1 n z → Calls Try.prog 26 #[.slice a1 n c1, .int .i64 ((2 ^ i : Nat) : Int), .int .i64 k] W fun e w' => FrOut (kiC z n k i) (LK z n k) W e w') := fun i hi a1 c1 W hI => fDone_good a1 n c1 z (2 ^ i) k W (hok i hi) hk (by omega) hI
  have HK : Hid (∀ a1 c1 W, Ints W a1 n z → Calls Try.prog 30 #[.slice a1 n c1, .int .i64 k] W fun e w' => FrOut (knC z n k) (LK z n k) W e w') := fun a1 c1 W hI => fKinds_good a1 n c1 z k W h hk hI
  have HR1 : Hid (∀ i : Nat, i < n → ∀ W, Calls Try.prog 44 #[.agg #[.int .i64 (frA (kiC z n k i) (LK z n k)), .int .i64 (frB (kiC z n k i) (LK z n k) : Nat)], .int .i64 ((1 : Nat) : Int)] W fun e w' => e = .returned (.bool true) ∧ Below W.heap.size W w') := fun i hi W => by
    have h2 := hone i hi
    exact right_fr _ _ 1 W h2.1 hLb.1 (by omega) (by omega) (by omega) (by omega)
  have HRm : Hid (∀ m : Nat, m = n ∨ m = k → ∀ W, Calls Try.prog 44 #[.agg #[.int .i64 (frA (knC z n k) (LK z n k)), .int .i64 (frB (knC z n k) (LK z n k) : Nat)], .int .i64 (m : Int)] W fun e w' => e = .returned (.bool true) ∧ Below W.heap.size W w') := fun m hm W => by
    refine right_fr _ _ m W hkn.1 hLb.1 (by omega) (by omega) (by omega) ?_
    rcases hm with h | h
    · rw [h]; exact hkn.2
    · rw [h]; exact hfew
  have HAd : Hid (∀ j : Nat, j < n → ∀ W, Calls Try.prog 46 #[.agg #[.int .i64 (frA (knTo z n k j) (LK z n k)), .int .i64 (frB (knTo z n k j) (LK z n k) : Nat)], .agg #[.int .i64 (frA (kiC z n k j) (LK z n k)), .int .i64 (frB (kiC z n k j) (LK z n k) : Nat)], .bool false] W fun e w' => AddOut (knTo z n k (j + 1)) (LK z n k) W e w') := fun j hj W => by
    have h1 := hto j (by omega)
    have h2 := hone j hj
    have h3 : (j : Int) * (LK z n k : Nat) ≤ 6 * (LK z n k : Nat) := Int.mul_le_mul_of_nonneg_right (by omega) (by omega)
    rw [knC_snoc]
    exact added_any _ _ _ W hLb.1 (by omega) (by omega) (by omega)
  have hz0 := fr_zero (L := LK z n k) (by omega)
  have HE : Hid (frA (knTo z n k 0) (LK z n k) = 0 ∧ frB (knTo z n k 0) (LK z n k) = 1) := hz0
  have hk0 : (0 : Int) ≤ (k : Int) := by omega
  have hk8 : (k : Int) ≤ 8 := by omega
  have G : decide ((8 : Int) < (k : Int)) = false := by simp; omega
  have HEnd : Hid (knC z n k = knTo z n k n) := rfl
  obtain ⟨L, hL⟩ : ∃ L, L = LK z n k := ⟨_, rfl⟩
  rw [← hL] at HD HK HR1 HRm HAd HE
  clear hl hz h h9 hmn hok hLb hone hkn hfew hn6' hto hz0 hL
  go_enter Try.func14, Try.ntmps14
  go_wp2_with fail
  refine (HL.out w (Below.refl _ _)).mono ?_
  rintro e w1 ⟨a1, c1, rfl, hO, hb⟩
  have HI1 := Lib.hid hO.ints
  clear hO
  have HBw1 := Lib.hid (band (Below.refl _ _) hb)
  clear hb
  go_wp2_with fail
  refine (HK.out a1 c1 w1 HI1.out).mono ?_
  rintro e w2 ⟨rfl, hb⟩
  obtain ⟨A1, hA1⟩ : ∃ A1, A1 = frA (knC z n k) L := ⟨_, rfl⟩
  obtain ⟨B1, hB1⟩ : ∃ B1, B1 = frB (knC z n k) L := ⟨_, rfl⟩
  have HNA1 : Hid (frA (knC z n k) L = A1 ∧ frB (knC z n k) L = B1) := ⟨hA1.symm, hB1.symm⟩
  rw [← hA1, ← hB1]
  clear hA1 hB1
  have HBw2 := Lib.hid (band HBw1.out hb)
  clear hb
  obtain ⟨w3, hw3⟩ : ∃ w3, w3 = w2.alloc (.cells #[.int .i64 A1, .int .i64 (B1 : Int)] 24) := ⟨_, rfl⟩
  have HQ1 : Hid (w3.heap[w2.heap.size]? = some (.cells #[.int .i64 A1, .int .i64 (B1 : Int)] 24)) := by rw [hw3]; exact heap_alloc_new w2 _
  have HBw3 : Hid (Below w.heap.size w w3) := by rw [hw3]; exact HBw2.out.alloc (HBw2.out).size _
  have HWw3 := Lib.hid hw3
  clear hw3
  obtain ⟨qa2, qb2, _, _⟩ := fr_cells HQ1.out
  go_wp2_with fail
  rw [← HWw3.out]
  refine (HRs.out w3 HBw3.out).mono ?_
  rintro e w' ⟨rfl, rfl⟩
  clear qa2 qb2
  obtain ⟨w4, hw4⟩ : ∃ w4, w4 = w3.alloc (.cells #[.int .i64 0, .int .i64 (1 : Int)] 24) := ⟨_, rfl⟩
  have HQ3 : Hid (w4.heap[w2.heap.size]? = some (.cells #[.int .i64 A1, .int .i64 (B1 : Int)] 24)) := by rw [hw4]; exact frAt HQ1.out (below_one w3 _)
  have HQ4 : Hid (w4.heap[w3.heap.size]? = some (.cells #[.int .i64 0, .int .i64 (1 : Int)] 24)) := by rw [hw4]; exact heap_alloc_new w3 _
  have HBw4 : Hid (Below w.heap.size w w4) := by rw [hw4]; exact HBw3.out.alloc (HBw3.out).size _
  have HWw4 := Lib.hid hw4
  clear hw4
  obtain ⟨qa5, qb5, _, _⟩ := fr_cells HQ3.out
  obtain ⟨qa6, qb6, _, _⟩ := fr_cells HQ4.out
  obtain ⟨qa7, qb7, _, _⟩ := fr_cells (frAt HQ1.out (below_one w3 (.cells #[.int .i64 0, .int .i64 (1 : Int)] 24)))
  clear qa5 qb5 qa6 qb6 qa7 qb7
  go_wp2
  rw [← HWw4.out]
  have hs7 : w4.heap.size = w3.heap.size + 1 := by rw [HWw4.out]; simp
  have HS0 : Hid (FrBox w4 w3.heap.size (knTo z n k 0) L) := by unfold Hid FrBox; rw [HE.out.1, HE.out.2]; exact HQ4.out
  have hlt5 : w2.heap.size < w3.heap.size := (Array.getElem?_eq_some_iff.1 HQ1.out).1
  go_loopw [8, 9, 10, 11, 42] (fun _ _ _ _ i wr => ∃ j : Nat, j ≤ n ∧ i = .int .i64 j ∧ FrBox wr (w3.heap.size) (knTo z n k j) L ∧ Below (w3.heap.size) w4 wr) (fun _ _ _ _ i _ => n - (intOf i).toNat)
  case atStart => exact ⟨0, Nat.zero_le _, rfl, HS0.out, Below.refl _ _⟩
  case round =>
    obtain ⟨j, hj, rfl, hbx, hbl⟩ := hrel
    have HBX := Lib.hid hbx
    have HBL := Lib.hid hbl
    have HB := Lib.hid (HBw4.out.trans (hbl.mono (by have := HBw3.out.size; omega)))
    have H5 : Hid (wr.heap[w2.heap.size]? = some (.cells #[.int .i64 A1, .int .i64 (B1 : Int)] 24)) := (hbl.block _ hlt5).trans HQ3.out
    have hsz := hbl.size
    clear hbx hbl
    by_cases hlt : j < n
    · have HP : Hid (IntKind.i64.wrap ((2 : Int) ^ j) = ((2 ^ j : Nat) : Int)) := wrap_two' (by omega)
      have hj0 : (0 : Int) ≤ (j : Int) := by omega
      have HDj := Lib.hid (HD.out j hlt)
      have HRj := Lib.hid (HR1.out j hlt)
      have HAj := Lib.hid (HAd.out j hlt)
      obtain ⟨C, hC⟩ : ∃ C, C = frA (kiC z n k j) L := ⟨_, rfl⟩
      obtain ⟨D, hD⟩ : ∃ D, D = frB (kiC z n k j) L := ⟨_, rfl⟩
      have HN : Hid (frA (kiC z n k j) L = C ∧ frB (kiC z n k j) L = D) := ⟨hC.symm, hD.symm⟩
      rw [← hC, ← hD] at HRj HAj
      clear hC hD
      have HL1 := Lib.hid (HL.out wr.drew HB.out.drew)
      have HL2 := Lib.hid (HL.out (wr.alloc (.cells #[.int .i64 0, .int .i64 0] 24)).drew (HB.out.alloc HB.out.size _).drew)
      go_wp2
      go_cut [9, 10] (fun s9 s10 wc => ∃ b9, s9 = .pointer (some ⟨b9, 0, none⟩) ∧ s10 = .int .i64 0 ∧ NewFr wr wc b9 C D)
      case first =>
        go_region_with (first
          | (go_at_call 19; (first | (refine HL1.out.mono ?_; rintro e w5 ⟨a5, c5, rfl, hO, hb5⟩; have HB5 : Hid (Below wr.heap.size wr w5) := below_drew1 hb5) | (refine HL2.out.mono ?_; rintro e w5 ⟨a5, c5, rfl, hO, hb5⟩; have HB5 : Hid (Below wr.heap.size wr w5) := below_al1 hb5; have HX5 := Lib.hid (blk_al1 hb5))); have HI5 := Lib.hid hO.ints; clear hO hb5)
          | (go_at_call 26; rw [HP.out]; (first | (refine (HDj.out a5 c5 w5 HI5.out).mono ?_; rintro e w6 ⟨rfl, hb6⟩; have HB6 : Hid (Below wr.heap.size wr w6) := HB5.out.trans (hb6.mono HB5.out.size); (first | have HX6 := Lib.hid (frAt HX5.out hb6) | skip)) | (refine (HDj.out a5 c5 (w5.alloc (.cells #[.int .i64 0, .int .i64 0] 24)) (HI5.out.keep (Nat.le_refl _) (below_one _ _))).mono ?_; rintro e w6 ⟨rfl, hb6⟩; have HB6 : Hid (Below wr.heap.size wr w6) := (HB5.out.alloc HB5.out.size _).trans (hb6.mono (by have := HB5.out.size; simp; omega)); have HX6' := Lib.hid (frAt (heap_alloc_new w5 (.cells #[.int .i64 0, .int .i64 0] 24)) hb6))); rw [HN.out.1, HN.out.2]; clear hb6; (first | (have hx := fr_cells HX6.out; obtain ⟨x1, x2, x3, x4⟩ := hx) | (have hx := fr_cells HX6'.out; obtain ⟨x1, x2, x3, x4⟩ := hx) | skip)))
        all_goals
          go_wp2
          go_meet
        all_goals (first
          | exact ⟨_, rfl, rfl, newFr_last HB6.out⟩
          | exact ⟨_, rfl, rfl, newFr_set (cs := (_, _)) HX6.out (Nat.le_refl _) HB6.out⟩
          | exact ⟨_, rfl, rfl, newFr_set (cs := (_, _)) HX6'.out HB5.out.size HB6.out⟩)
      case rest =>
        obtain ⟨b9, rfl, rfl, hNew⟩ := hcut
        obtain ⟨h9, lo9, hb9⟩ := hNew
        have hq7 : wc.heap[w3.heap.size]? = _ := frAt HBX.out hb9
        have HQ7 := Lib.hid hq7
        have HQ9 := Lib.hid h9
        have HB9 := Lib.hid hb9
        have hne : ¬ b9 = w3.heap.size := by omega
        obtain ⟨x1, x2, _, _⟩ := fr_cells h9
        clear h9 hq7 hb9 HL1 HL2
        go_wp2_with fail
        refine (HRj.out wc).mono ?_
        rintro e w5 ⟨rfl, hb5⟩
        have hq7 := frAt HQ7.out hb5
        obtain ⟨y1, y2, y3, y4⟩ := fr_cells hq7
        obtain ⟨z1, z2, _, _⟩ := fr_cells (frAt HQ9.out hb5)
        have HQ75 := Lib.hid hq7
        have HB5 := Lib.hid (band HB9.out hb5)
        clear hb5 hq7 x1 x2
        go_wp2_with fail
        refine (HAj.out w5).mono ?_
        rintro e w6 ⟨rfl, hb6⟩
        have hq7 := frAt HQ75.out hb6
        obtain ⟨y1, y2, y3, y4⟩ := fr_cells hq7
        have HQ76 := Lib.hid hq7
        have HB6 := Lib.hid (band HB5.out hb6)
        clear hb6 hq7 z1 z2
        have HFb : Hid (FrBox ((w6.setCell ⟨w3.heap.size, 0, none⟩ (.int .i64 (frA (knTo z n k (j + 1)) L))).setCell ⟨w3.heap.size, 1, none⟩ (.int .i64 (frB (knTo z n k (j + 1)) L : Nat))) (w3.heap.size) (knTo z n k (j + 1)) L) := FrBox.set HQ76.out _ _
        have HBb : Hid (Below (w3.heap.size) w4 ((w6.setCell ⟨w3.heap.size, 0, none⟩ (.int .i64 (frA (knTo z n k (j + 1)) L))).setCell ⟨w3.heap.size, 1, none⟩ (.int .i64 (frB (knTo z n k (j + 1)) L : Nat)))) := (HBL.out.trans (HB6.out.mono (by omega))).trans (below_set2 w6 (w3.heap.size) _ _)
        go_wp2
        go_roundw
        case rel => exact ⟨j + 1, by omega, by go_num, HFb.out, HBb.out⟩
        case measure => simp [intOf]; omega
    · have e : j = n := by omega
      have HNE : Hid (frA (knTo z n k j) L = A1 ∧ frB (knTo z n k j) L = B1) := by have h := HNA1.out; rw [HEnd.out] at h; rw [Hid, e]; exact h
      have hge : (n : Int) ≤ j := by omega
      have HRm2 : Hid (∀ m : Nat, m = n ∨ m = k → ∀ W, Calls Try.prog 44 #[.agg #[.int .i64 A1, .int .i64 (B1 : Int)], .int .i64 (m : Int)] W fun e w' => e = .returned (.bool true) ∧ Below W.heap.size W w') := fun m hm W => by have h := HRm.out m hm W; rw [HNA1.out.1, HNA1.out.2] at h; exact h
      have HRn := Lib.hid (HRm2.out n (Or.inl rfl))
      have HRk := Lib.hid (HRm2.out k (Or.inr rfl))
      obtain ⟨x1, x2, _, _⟩ := fr_cells H5.out
      obtain ⟨y1, y2, _, _⟩ := fr_cells HBX.out
      rw [HNE.out.1] at y1
      rw [HNE.out.2] at y2
      clear e
      rcases Int.lt_trichotomy (n : Int) (k : Int) with hc | hc | hc
      all_goals
        go_wp2_with fail
      all_goals
        first
          | (with_reducible refine (HRn.out wr).mono ?_)
          | (with_reducible refine (HRk.out wr).mono ?_)
        rintro e w5 ⟨rfl, hb5⟩
        have HB5 := Lib.hid (band HB.out hb5)
        clear hb5
        go_wp2_with fail
        refine (awake_any _).mono ?_
        rintro e w6 ⟨rfl, hb6⟩
        have HB6 := Lib.hid (band HB5.out hb6)
        clear hb6
        go_wp2
        go_ret
        exact ⟨rfl, HB6.out⟩

theorem count_row (w : World) (a : Option Addr) (n cap : Nat) (z : Nat → Int) (hcap : n ≤ cap) (h8 : n * 8 ≤ 140737488355328) (hz : Ints w a n z) (k : Int) (_ : -9223372036854775808 ≤ k ∧ k ≤ 9223372036854775807) :
    Calls Try.prog 14 #[.slice a n cap, .int .i64 k] w fun e w' => SomeB true w e w' := by
  by_cases h : isW n z = true ∧ isNumB k = true
  · have hk := isNumB_iff.1 h.2
    obtain ⟨j, rfl⟩ : ∃ j : Nat, k = j := ⟨k.toNat, by omega⟩
    exact count_good a n cap z j w h.1 (by omega) hcap h8 hz
  · refine count_bad a n cap z k w ?_ hcap h8 hz
    cases h1 : isW n z
    · exact Or.inl rfl
    · cases h2 : isNumB k
      · exact Or.inr rfl
      · exact absurd ⟨h1, h2⟩ h
end Go.Proofs.Ytgednacoeifclaa
