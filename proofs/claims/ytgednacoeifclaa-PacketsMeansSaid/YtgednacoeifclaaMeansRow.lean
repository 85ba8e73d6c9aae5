/-
  Proved here: for every input, whatever the arguments hold, the statement PacketsMeans (promise P4.1) returns true and leaves its arguments as they were.
  Conditions: none beside the row's own (the form's reach: what is read takes less than 2^47 bytes a slice).
-/
import Derived.Test.YtgednacoeifclaaY5
import Derived.Test.YtgednacoeifclaaY1
import Derived.Test.YtgednacoeifclaaOpen
namespace Go.Proofs.Ytgednacoeifclaa
open Go.RowKit Go.Shelf

set_option maxHeartbeats 4000000 in
set_option maxRecDepth 100000 in
theorem means_bad (a : Option Addr) (n cap : Nat) (z : Nat → Int) (s k : Int) (w : World) (h : okS n z s = false) (hcap : n ≤ cap) (h8 : n * 8 ≤ 140737488355328) (hz : Ints w a n z) :
    Calls Try.prog 3 #[.slice a n cap, .int .i64 s, .int .i64 k] w fun e w' => SomeB true w e w' := by
  have h2 : okS (min n 8) z s = false := by rw [okS_cut]; exact h
  have HL := Lib.hid (fun W (hW : Below w.heap.size w W) => list_any a cap n z W hcap h8 (hz.keep (Nat.le_refl _) hW))
  have HD := Lib.hid (fun a1 c1 W (hI : Ints W a1 (min n 8) z) => fMean_bad a1 (min n 8) c1 z s W h2 (by have := Nat.min_le_right n 8; omega) hI)
  have HE := Lib.hid (fun a1 c1 W (hI : Ints W a1 (min n 8) z) => fLast_bad a1 (min n 8) c1 z s k W (Or.inl h2) (by have := Nat.min_le_right n 8; omega) hI)
  have HS := Lib.hid (fun W (hW : Below w.heap.size w W) => rset_r false a n cap z s W h (by omega) (hz.keep (Nat.le_refl _) hW))
  clear hz h h2
  go_enter Try.func3, Try.ntmps3
  go_wp2_with fail
  refine (HL.out w (Below.refl _ _)).mono ?_
  rintro e w1 ⟨a1, c1, rfl, hO, hb⟩
  have HI1 := Lib.hid hO.ints
  clear hO
  have HBw1 := Lib.hid (band (Below.refl _ _) hb)
  clear hb
  go_wp2_with fail
  refine (HD.out a1 c1 w1 HI1.out).mono ?_
  rintro e w2 ⟨rfl, hb⟩
  have HBw2 := Lib.hid (band HBw1.out hb)
  clear hb
  obtain ⟨w3, hw3⟩ : ∃ w3, w3 = w2.alloc (.cells #[.int .i64 0, .int .i64 (0 : Int)] 24) := ⟨_, rfl⟩
  have HQ1 : Hid (w3.heap[w2.heap.size]? = some (.cells #[.int .i64 0, .int .i64 (0 : Int)] 24)) := by rw [hw3]; exact heap_alloc_new w2 _
  have HBw3 : Hid (Below w.heap.size w w3) := by rw [hw3]; exact HBw2.out.alloc (HBw2.out).size _
  have HWw3 := Lib.hid hw3
  clear hw3
  obtain ⟨qa2, qb2, _, _⟩ := fr_cells HQ1.out
  go_wp2_with fail
  rw [← HWw3.out]
  refine (HL.out w3 HBw3.out).mono ?_
  rintro e w4 ⟨a2, c2, rfl, hO, hb⟩
  have HI2 := Lib.hid hO.ints
  clear hO
  clear qa2 qb2
  have HBw4 := Lib.hid (band HBw3.out hb)
  have HQ3 := Lib.hid (frAt HQ1.out hb)
  clear hb
  obtain ⟨qa4, qb4, _, _⟩ := fr_cells HQ3.out
  go_wp2_with fail
  refine (HE.out a2 c2 w4 HI2.out).mono ?_
  rintro e w5 ⟨rfl, hb⟩
  clear qa4 qb4
  have HBw5 := Lib.hid (band HBw4.out hb)
  have HQ5 := Lib.hid (frAt HQ3.out hb)
  clear hb
  obtain ⟨qa6, qb6, _, _⟩ := fr_cells HQ5.out
  clear qa6 qb6
  obtain ⟨w6, hw6⟩ : ∃ w6, w6 = w5.alloc (.cells #[.int .i64 0, .int .i64 (0 : Int)] 24) := ⟨_, rfl⟩
  have HQ7 : Hid (w6.heap[w2.heap.size]? = some (.cells #[.int .i64 0, .int .i64 (0 : Int)] 24)) := by rw [hw6]; exact frAt HQ5.out (below_one w5 _)
  have HQ8 : Hid (w6.heap[w5.heap.size]? = some (.cells #[.int .i64 0, .int .i64 (0 : Int)] 24)) := by rw [hw6]; exact heap_alloc_new w5 _
  have HBw6 : Hid (Below w.heap.size w w6) := by rw [hw6]; exact HBw5.out.alloc (HBw5.out).size _
  have HWw6 := Lib.hid hw6
  clear hw6
  obtain ⟨qa9, qb9, _, _⟩ := fr_cells HQ7.out
  obtain ⟨qa10, qb10, _, _⟩ := fr_cells HQ8.out
  obtain ⟨qa11, qb11, _, _⟩ := fr_cells (frAt HQ5.out (below_one w5 (.cells #[.int .i64 0, .int .i64 (0 : Int)] 24)))
  go_wp2_with fail
  rw [← HWw6.out]
  refine (HS.out w6 HBw6.out).mono ?_
  rintro e w' ⟨rfl, rfl⟩
  go_wp2_with fail
  refine (none_zero _).mono ?_
  rintro e w7 ⟨rfl, hb⟩
  clear qa9 qb9 qa10 qb10 qa11 qb11
  have HBw7 := Lib.hid (band HBw6.out hb)
  have HQ12 := Lib.hid (frAt HQ7.out hb)
  have HQ13 := Lib.hid (frAt HQ8.out hb)
  clear hb
  obtain ⟨qa14, qb14, _, _⟩ := fr_cells HQ12.out
  obtain ⟨qa15, qb15, _, _⟩ := fr_cells HQ13.out
  go_wp2_with fail
  refine (none_zero _).mono ?_
  rintro e w8 ⟨rfl, hb⟩
  clear qa14 qb14 qa15 qb15
  have HBw8 := Lib.hid (band HBw7.out hb)
  have HQ16 := Lib.hid (frAt HQ12.out hb)
  have HQ17 := Lib.hid (frAt HQ13.out hb)
  clear hb
  obtain ⟨qa18, qb18, _, _⟩ := fr_cells HQ16.out
  obtain ⟨qa19, qb19, _, _⟩ := fr_cells HQ17.out
  go_wp2_with fail
  refine (awake_any _).mono ?_
  rintro e w9 ⟨rfl, hb⟩
  clear qa18 qb18 qa19 qb19
  have HBw9 := Lib.hid (band HBw8.out hb)
  have HQ20 := Lib.hid (frAt HQ16.out hb)
  have HQ21 := Lib.hid (frAt HQ17.out hb)
  clear hb
  obtain ⟨qa22, qb22, _, _⟩ := fr_cells HQ20.out
  obtain ⟨qa23, qb23, _, _⟩ := fr_cells HQ21.out
  go_wp2
  go_ret
  exact ⟨rfl, HBw9.out⟩

set_option maxHeartbeats 8000000 in
set_option maxRecDepth 100000 in
theorem means_none (a : Option Addr) (n cap : Nat) (z : Nat → Int) (s : Nat) (k : Int) (w : World) (h : okS n z s = true) (hk : hasB s k = false) (hcap : n ≤ cap) (h8 : n * 8 ≤ 140737488355328) (hz : Ints w a n z) :
    Calls Try.prog 3 #[.slice a n cap, .int .i64 s, .int .i64 k] w fun e w' => SomeB true w e w' := by
  obtain ⟨t, ht, hs, h1n, hn6, h9⟩ := okS_nat h
  have ht' : s = t := by omega
  subst ht'
  have hmn : min n 8 = n := by omega
  have hl := fun W (hW : Below w.heap.size w W) => list_any a cap n z W hcap h8 (hz.keep (Nat.le_refl _) hW)
  rw [hmn] at hl
  have HL := Lib.hid hl
  obtain ⟨L, D, hF, hD, hdD, hKM⟩ := meanF_any (z := z) h1n hn6 h9
  have HMe : Hid (∀ a1 c1 W, Ints W a1 n z → Calls Try.prog 18 #[.slice a1 n c1, .int .i64 s] W fun e w' => FrOut (mX z D s) L W e w') := fun a1 c1 W hI => hF.mean a1 c1 s W h (by omega) hI
  have HRM := Lib.hid (fun W (hW : Below w.heap.size w W) => rmean_any a n cap z s L D W hs h1n hn6 (hz.keep (Nat.le_refl _) hW) h9 hF hD hdD hKM)
  have HRs := Lib.hid (fun W (hW : Below w.heap.size w W) => rset_r true a n cap z (s : Int) W h (by omega) (hz.keep (Nat.le_refl _) hW))
  have hs64 := lt64 hs hn6
  have HLa : Hid (∀ a1 c1 W, Ints W a1 n z → Calls Try.prog 20 #[.slice a1 n c1, .int .i64 s, .int .i64 k] W fun e w' => BadOut W e w') := fun a1 c1 W hI => fLast_bad a1 n c1 z s k W (Or.inr hk) (by omega) hI
  have hbit : 0 ≤ k → k < n → (bits BinOp.and IntKind.i64 ((s : Int) / 2 ^ k.toNat) 1 == 0) = true := fun h0 h1 => by
    have h2 := bit_at0 s k.toNat (Nat.lt_of_lt_of_le hs64 (by decide))
    unfold hasB at hk
    rw [decide_eq_true h0, Bool.true_and] at hk
    rw [hk] at h2; exact h2
  have key : k < 0 ∨ (0 ≤ k ∧ (n : Int) ≤ k) ∨ ∃ i : Nat, k = i ∧ (i : Int) < n ∧ (bits BinOp.and IntKind.i64 ((s : Int) / 2 ^ i) 1 == 0) = true := by
    by_cases h0 : k < 0
    · exact Or.inl h0
    · by_cases h1 : (n : Int) ≤ k
      · exact Or.inr (Or.inl ⟨by omega, h1⟩)
      · refine Or.inr (Or.inr ⟨k.toNat, by omega, by omega, hbit (by omega) (by omega)⟩)
  clear hl hmn hF hD hdD hKM
  clear hbit hk h hs h9 hz ht
  rcases key with hk0 | ⟨hk0, hk1⟩ | ⟨i, rfl, hk1, hk2⟩
  · skip
    go_enter Try.func3, Try.ntmps3
    go_wp2_with fail
    refine (HL.out w (Below.refl _ _)).mono ?_
    rintro e w1 ⟨a1, c1, rfl, hO, hb⟩
    have HI1 := Lib.hid hO.ints
    clear hO
    have HBw1 := Lib.hid (band (Below.refl _ _) hb)
    clear hb
    go_wp2_with fail
    refine (HMe.out a1 c1 w1 HI1.out).mono ?_
    rintro e w2 ⟨rfl, hb⟩
    obtain ⟨A1, hA1⟩ : ∃ A1, A1 = frA (mX z D s) L := ⟨_, rfl⟩
    obtain ⟨B1, hB1⟩ : ∃ B1, B1 = frB (mX z D s) L := ⟨_, rfl⟩
    have HNA1 : Hid (frA (mX z D s) L = A1 ∧ frB (mX z D s) L = B1) := ⟨hA1.symm, hB1.symm⟩
    rw [← hA1, ← hB1]
    clear hA1 hB1
    have HBw2 := Lib.hid (band HBw1.out hb)
    clear hb
    obtain ⟨w3, hw3⟩ : ∃ w3, w3 = w2.alloc (.cells #[.int .i64 A1, .int .i64 (B1 : Int)] 24) := ⟨_, rfl⟩
    have HQ1 : Hid (w3.heap[w2.heap.size]? = some (.cells #[.int .i64 A1, .int .i64 (B1 : Int)] 24)) := by rw [hw3]; exact heap_alloc_new w2 _
    have HBw3 : Hid (Below w.heap.size w w3) := by rw [hw3]; exact HBw2.out.alloc (HBw2.out).size _
    have HWw3 := Lib.hid hw3
    clear hw3
    obtain ⟨qa2, qb2, _, _⟩ := fr_cells HQ1.out
    go_wp2_with fail
    rw [← HWw3.out]
    refine (HL.out w3 HBw3.out).mono ?_
    rintro e w4 ⟨a2, c2, rfl, hO, hb⟩
    have HI2 := Lib.hid hO.ints
    clear hO
    clear qa2 qb2
    have HBw4 := Lib.hid (band HBw3.out hb)
    have HQ3 := Lib.hid (frAt HQ1.out hb)
    clear hb
    obtain ⟨qa4, qb4, _, _⟩ := fr_cells HQ3.out
    go_wp2_with fail
    refine (HLa.out a2 c2 w4 HI2.out).mono ?_
    rintro e w5 ⟨rfl, hb⟩
    clear qa4 qb4
    have HBw5 := Lib.hid (band HBw4.out hb)
    have HQ5 := Lib.hid (frAt HQ3.out hb)
    clear hb
    obtain ⟨qa6, qb6, _, _⟩ := fr_cells HQ5.out
    clear qa6 qb6
    obtain ⟨w6, hw6⟩ : ∃ w6, w6 = w5.alloc (.cells #[.int .i64 0, .int .i64 (0 : Int)] 24) := ⟨_, rfl⟩
    have HQ7 : Hid (w6.heap[w2.heap.size]? = some (.cells #[.int .i64 A1, .int .i64 (B1 : Int)] 24)) := by rw [hw6]; exact frAt HQ5.out (below_one w5 _)
    have HQ8 : Hid (w6.heap[w5.heap.size]? = some (.cells #[.int .i64 0, .int .i64 (0 : Int)] 24)) := by rw [hw6]; exact heap_alloc_new w5 _
    have HBw6 : Hid (Below w.heap.size w w6) := by rw [hw6]; exact HBw5.out.alloc (HBw5.out).size _
    have HWw6 := Lib.hid hw6
    clear hw6
    obtain ⟨qa9, qb9, _, _⟩ := fr_cells HQ7.out
    obtain ⟨qa10, qb10, _, _⟩ := fr_cells HQ8.out
    obtain ⟨qa11, qb11, _, _⟩ := fr_cells (frAt HQ5.out (below_one w5 (.cells #[.int .i64 0, .int .i64 (0 : Int)] 24)))
    go_wp2_with fail
    rw [← HWw6.out]
    refine (HRs.out w6 HBw6.out).mono ?_
    rintro e w' ⟨rfl, rfl⟩
    have HRM1 := Lib.hid (HRM.out w6.drew HBw6.out.drew)
    go_wp2
    go_region_held3 (fun w' => w'.cell? ⟨w2.heap.size, 0, none⟩ = some (.int .i64 A1) ∧ w'.cell? ⟨w2.heap.size, 1, none⟩ = some (.int .i64 (B1 : Int)))
      (first
        | (go_split_ands; exact two_cells HQx.out)
        | (go_split_ands; exact two_cells HQy.out)
        | go_keep)
      ((first
        | ((with_reducible refine HRM1.out.mono ?_); rintro e wx ⟨rfl, hbx⟩; rw [HNA1.out.1, HNA1.out.2]; have HQx := Lib.hid (frAt HQ7.out (below_drew1 hbx)); have HQx2 := Lib.hid (frAt HQ8.out (below_drew1 hbx)); have HBx := Lib.hid (band HBw6.out (below_drew1 hbx)); clear hbx)
        | ((with_reducible refine (awake_any _).mono ?_); rintro e wy ⟨rfl, hby⟩; have HQy := Lib.hid (frAt HQx.out hby); have HQy2 := Lib.hid (frAt HQx2.out hby); have HBy := Lib.hid (band HBx.out hby); clear hby)))
    all_goals
      obtain ⟨u1, u2, _, _⟩ := fr_cells HQy2.out
      go_wp2_with fail
      refine (none_zero _).mono ?_
      rintro e wz ⟨rfl, hbz⟩
      have HBz := Lib.hid (band HBy.out hbz)
      clear hbz
      go_wp2
      go_ret
      exact ⟨rfl, HBz.out⟩
  · skip
    have hk3 : ¬ k < 0 := by omega
    go_enter Try.func3, Try.ntmps3
    go_wp2_with fail
    refine (HL.out w (Below.refl _ _)).mono ?_
    rintro e w1 ⟨a1, c1, rfl, hO, hb⟩
    have HI1 := Lib.hid hO.ints
    clear hO
    have HBw1 := Lib.hid (band (Below.refl _ _) hb)
    clear hb
    go_wp2_with fail
    refine (HMe.out a1 c1 w1 HI1.out).mono ?_
    rintro e w2 ⟨rfl, hb⟩
    obtain ⟨A1, hA1⟩ : ∃ A1, A1 = frA (mX z D s) L := ⟨_, rfl⟩
    obtain ⟨B1, hB1⟩ : ∃ B1, B1 = frB (mX z D s) L := ⟨_, rfl⟩
    have HNA1 : Hid (frA (mX z D s) L = A1 ∧ frB (mX z D s) L = B1) := ⟨hA1.symm, hB1.symm⟩
    rw [← hA1, ← hB1]
    clear hA1 hB1
    have HBw2 := Lib.hid (band HBw1.out hb)
    clear hb
    obtain ⟨w3, hw3⟩ : ∃ w3, w3 = w2.alloc (.cells #[.int .i64 A1, .int .i64 (B1 : Int)] 24) := ⟨_, rfl⟩
    have HQ1 : Hid (w3.heap[w2.heap.size]? = some (.cells #[.int .i64 A1, .int .i64 (B1 : Int)] 24)) := by rw [hw3]; exact heap_alloc_new w2 _
    have HBw3 : Hid (Below w.heap.size w w3) := by rw [hw3]; exact HBw2.out.alloc (HBw2.out).size _
    have HWw3 := Lib.hid hw3
    clear hw3
    obtain ⟨qa2, qb2, _, _⟩ := fr_cells HQ1.out
    go_wp2_with fail
    rw [← HWw3.out]
    refine (HL.out w3 HBw3.out).mono ?_
    rintro e w4 ⟨a2, c2, rfl, hO, hb⟩
    have HI2 := Lib.hid hO.ints
    clear hO
    clear qa2 qb2
    have HBw4 := Lib.hid (band HBw3.out hb)
    have HQ3 := Lib.hid (frAt HQ1.out hb)
    clear hb
    obtain ⟨qa4, qb4, _, _⟩ := fr_cells HQ3.out
    go_wp2_with fail
    refine (HLa.out a2 c2 w4 HI2.out).mono ?_
    rintro e w5 ⟨rfl, hb⟩
    clear qa4 qb4
    have HBw5 := Lib.hid (band HBw4.out hb)
    have HQ5 := Lib.hid (frAt HQ3.out hb)
    clear hb
    obtain ⟨qa6, qb6, _, _⟩ := fr_cells HQ5.out
    clear qa6 qb6
    obtain ⟨w6, hw6⟩ : ∃ w6, w6 = w5.alloc (.cells #[.int .i64 0, .int .i64 (0 : Int)] 24) := ⟨_, rfl⟩
    have HQ7 : Hid (w6.heap[w2.heap.size]? = some (.cells #[.int .i64 A1, .int .i64 (B1 : Int)] 24)) := by rw [hw6]; exact frAt HQ5.out (below_one w5 _)
    have HQ8 : Hid (w6.heap[w5.heap.size]? = some (.cells #[.int .i64 0, .int .i64 (0 : Int)] 24)) := by rw [hw6]; exact heap_alloc_new w5 _
    have HBw6 : Hid (Below w.heap.size w w6) := by rw [hw6]; exact HBw5.out.alloc (HBw5.out).size _
    have HWw6 := Lib.hid hw6
    clear hw6
    obtain ⟨qa9, qb9, _, _⟩ := fr_cells HQ7.out
    obtain ⟨qa10, qb10, _, _⟩ := fr_cells HQ8.out
    obtain ⟨qa11, qb11, _, _⟩ := fr_cells (frAt HQ5.out (below_one w5 (.cells #[.int .i64 0, .int .i64 (0 : Int)] 24)))
    go_wp2_with fail
    rw [← HWw6.out]
    refine (HRs.out w6 HBw6.out).mono ?_
    rintro e w' ⟨rfl, rfl⟩
    have HRM1 := Lib.hid (HRM.out w6.drew HBw6.out.drew)
    go_wp2
    go_region_held3 (fun w' => w'.cell? ⟨w2.heap.size, 0, none⟩ = some (.int .i64 A1) ∧ w'.cell? ⟨w2.heap.size, 1, none⟩ = some (.int .i64 (B1 : Int)))
      (first
        | (go_split_ands; exact two_cells HQx.out)
        | (go_split_ands; exact two_cells HQy.out)
        | go_keep)
      ((first
        | ((with_reducible refine HRM1.out.mono ?_); rintro e wx ⟨rfl, hbx⟩; rw [HNA1.out.1, HNA1.out.2]; have HQx := Lib.hid (frAt HQ7.out (below_drew1 hbx)); have HQx2 := Lib.hid (frAt HQ8.out (below_drew1 hbx)); have HBx := Lib.hid (band HBw6.out (below_drew1 hbx)); clear hbx)
        | ((with_reducible refine (awake_any _).mono ?_); rintro e wy ⟨rfl, hby⟩; have HQy := Lib.hid (frAt HQx.out hby); have HQy2 := Lib.hid (frAt HQx2.out hby); have HBy := Lib.hid (band HBx.out hby); clear hby)))
    all_goals
      obtain ⟨u1, u2, _, _⟩ := fr_cells HQy2.out
      go_wp2_with fail
      refine (none_zero _).mono ?_
      rintro e wz ⟨rfl, hbz⟩
      have HBz := Lib.hid (band HBy.out hbz)
      clear hbz
      go_wp2
      go_ret
      exact ⟨rfl, HBz.out⟩
  · skip
    have hk3 : (0 : Int) ≤ (i : Int) := by omega
    have hk4 : ¬ ((i : Int) < 0) := by omega
    have hk5 : i < 7 := by omega
    go_enter Try.func3, Try.ntmps3
    go_wp2_with fail
    refine (HL.out w (Below.refl _ _)).mono ?_
    rintro e w1 ⟨a1, c1, rfl, hO, hb⟩
    have HI1 := Lib.hid hO.ints
    clear hO
    have HBw1 := Lib.hid (band (Below.refl _ _) hb)
    clear hb
    go_wp2_with fail
    refine (HMe.out a1 c1 w1 HI1.out).mono ?_
    rintro e w2 ⟨rfl, hb⟩
    obtain ⟨A1, hA1⟩ : ∃ A1, A1 = frA (mX z D s) L := ⟨_, rfl⟩
    obtain ⟨B1, hB1⟩ : ∃ B1, B1 = frB (mX z D s) L := ⟨_, rfl⟩
    have HNA1 : Hid (frA (mX z D s) L = A1 ∧ frB (mX z D s) L = B1) := ⟨hA1.symm, hB1.symm⟩
    rw [← hA1, ← hB1]
    clear hA1 hB1
    have HBw2 := Lib.hid (band HBw1.out hb)
    clear hb
    obtain ⟨w3, hw3⟩ : ∃ w3, w3 = w2.alloc (.cells #[.int .i64 A1, .int .i64 (B1 : Int)] 24) := ⟨_, rfl⟩
    have HQ1 : Hid (w3.heap[w2.heap.size]? = some (.cells #[.int .i64 A1, .int .i64 (B1 : Int)] 24)) := by rw [hw3]; exact heap_alloc_new w2 _
    have HBw3 : Hid (Below w.heap.size w w3) := by rw [hw3]; exact HBw2.out.alloc (HBw2.out).size _
    have HWw3 := Lib.hid hw3
    clear hw3
    obtain ⟨qa2, qb2, _, _⟩ := fr_cells HQ1.out
    go_wp2_with fail
    rw [← HWw3.out]
    refine (HL.out w3 HBw3.out).mono ?_
    rintro e w4 ⟨a2, c2, rfl, hO, hb⟩
    have HI2 := Lib.hid hO.ints
    clear hO
    clear qa2 qb2
    have HBw4 := Lib.hid (band HBw3.out hb)
    have HQ3 := Lib.hid (frAt HQ1.out hb)
    clear hb
    obtain ⟨qa4, qb4, _, _⟩ := fr_cells HQ3.out
    go_wp2_with fail
    refine (HLa.out a2 c2 w4 HI2.out).mono ?_
    rintro e w5 ⟨rfl, hb⟩
    clear qa4 qb4
    have HBw5 := Lib.hid (band HBw4.out hb)
    have HQ5 := Lib.hid (frAt HQ3.out hb)
    clear hb
    obtain ⟨qa6, qb6, _, _⟩ := fr_cells HQ5.out
    clear qa6 qb6
    obtain ⟨w6, hw6⟩ : ∃ w6, w6 = w5.alloc (.cells #[.int .i64 0, .int .i64 (0 : Int)] 24) := ⟨_, rfl⟩
    have HQ7 : Hid (w6.heap[w2.heap.size]? = some (.cells #[.int .i64 A1, .int .i64 (B1 : Int)] 24)) := by rw [hw6]; exact frAt HQ5.out (below_one w5 _)
    have HQ8 : Hid (w6.heap[w5.heap.size]? = some (.cells #[.int .i64 0, .int .i64 (0 : Int)] 24)) := by rw [hw6]; exact heap_alloc_new w5 _
    have HBw6 : Hid (Below w.heap.size w w6) := by rw [hw6]; exact HBw5.out.alloc (HBw5.out).size _
    have HWw6 := Lib.hid hw6
    clear hw6
    obtain ⟨qa9, qb9, _, _⟩ := fr_cells HQ7.out
    obtain ⟨qa10, qb10, _, _⟩ := fr_cells HQ8.out
    obtain ⟨qa11, qb11, _, _⟩ := fr_cells (frAt HQ5.out (below_one w5 (.cells #[.int .i64 0, .int .i64 (0 : Int)] 24)))
    go_wp2_with fail
    rw [← HWw6.out]
    refine (HRs.out w6 HBw6.out).mono ?_
    rintro e w' ⟨rfl, rfl⟩
    have HRM1 := Lib.hid (HRM.out w6.drew HBw6.out.drew)
    go_wp2
    go_region_held3 (fun w' => w'.cell? ⟨w2.heap.size, 0, none⟩ = some (.int .i64 A1) ∧ w'.cell? ⟨w2.heap.size, 1, none⟩ = some (.int .i64 (B1 : Int)))
      (first
        | (go_split_ands; exact two_cells HQx.out)
        | (go_split_ands; exact two_cells HQy.out)
        | go_keep)
      ((first
        | ((with_reducible refine HRM1.out.mono ?_); rintro e wx ⟨rfl, hbx⟩; rw [HNA1.out.1, HNA1.out.2]; have HQx := Lib.hid (frAt HQ7.out (below_drew1 hbx)); have HQx2 := Lib.hid (frAt HQ8.out (below_drew1 hbx)); have HBx := Lib.hid (band HBw6.out (below_drew1 hbx)); clear hbx)
        | ((with_reducible refine (awake_any _).mono ?_); rintro e wy ⟨rfl, hby⟩; have HQy := Lib.hid (frAt HQx.out hby); have HQy2 := Lib.hid (frAt HQx2.out hby); have HBy := Lib.hid (band HBx.out hby); clear hby)))
    all_goals
      obtain ⟨u1, u2, _, _⟩ := fr_cells HQy2.out
      go_wp2_with fail
      refine (none_zero _).mono ?_
      rintro e wz ⟨rfl, hbz⟩
      have HBz := Lib.hid (band HBy.out hbz)
      clear hbz
      go_wp2
      go_ret
      exact ⟨rfl, HBz.out⟩

set_option maxHeartbeats 8000000 in
set_option maxRecDepth 100000 in
theorem means_good (a : Option Addr) (n cap : Nat) (z : Nat → Int) (s : Nat) (k : Int) (w : World) (h : okS n z s = true) (hk : hasB s k = true) (hcap : n ≤ cap) (h8 : n * 8 ≤ 140737488355328) (hz : Ints w a n z) :
    Calls Try.prog 3 #[.slice a n cap, .int .i64 s, .int .i64 k] w fun e w' => SomeB true w e w' := by
  obtain ⟨t, ht, hs, h1n, hn6, h9⟩ := okS_nat h
  have ht' : s = t := by omega
  subst ht'
  have hmn : min n 8 = n := by omega
  have hl := fun W (hW : Below w.heap.size w W) => list_any a cap n z W hcap h8 (hz.keep (Nat.le_refl _) hW)
  rw [hmn] at hl
  have HL := Lib.hid hl
  obtain ⟨L, D, hF, hD, hdD, hKM⟩ := meanF_any (z := z) h1n hn6 h9
  have HMe : Hid (∀ a1 c1 W, Ints W a1 n z → Calls Try.prog 18 #[.slice a1 n c1, .int .i64 s] W fun e w' => FrOut (mX z D s) L W e w') := fun a1 c1 W hI => hF.mean a1 c1 s W h (by omega) hI
  have HRM := Lib.hid (fun W (hW : Below w.heap.size w W) => rmean_any a n cap z s L D W hs h1n hn6 (hz.keep (Nat.le_refl _) hW) h9 hF hD hdD hKM)
  have HRs := Lib.hid (fun W (hW : Below w.heap.size w W) => rset_r true a n cap z (s : Int) W h (by omega) (hz.keep (Nat.le_refl _) hW))
  have hs64 := lt64 hs hn6
  obtain ⟨i, rfl, hib⟩ : ∃ i : Nat, k = i ∧ s.testBit i = true := by
    unfold hasB at hk
    rw [Bool.and_eq_true, decide_eq_true_eq] at hk
    exact ⟨k.toNat, by omega, hk.2⟩
  have hin := (bit_kind hs hn6 hib).2
  obtain ⟨L2, hS2⟩ := setL_any (z := z) hs (fun h => by rw [h, Nat.zero_testBit] at hib; cases hib) hn6 h9
  have hok2 := hS2.ok i (bit_kind hs hn6 hib).1
  have hL21 := hS2.L1
  have HLa : Hid (∀ a1 c1 W, Ints W a1 n z → Calls Try.prog 20 #[.slice a1 n c1, .int .i64 s, .int .i64 i] W fun e w' => FrOut (laX z L2 s i) L2 W e w') := fun a1 c1 W hI => fLast_good a1 n c1 z s i L2 W h hib (by omega) hI hok2
  have HRL := Lib.hid (fun W (hW : Below w.heap.size w W) => rlast_any n cap z i hin hn6 h9 s a L2 W hs hib hL21 hok2.dv (hz.keep (Nat.le_refl _) hW))
  have hk0 : (0 : Int) ≤ (i : Int) := by omega
  have hk3 : ¬ ((i : Int) < 0) := by omega
  have hk1 : (i : Int) < (n : Int) := by omega
  have hk4 : ¬ ((n : Int) ≤ (i : Int)) := by omega
  have hk5 : i < 7 := by omega
  have hbz := bit_at0 s i (Nat.lt_of_lt_of_le hs64 (by decide))
  rw [hib, Bool.not_true] at hbz
  clear hl hmn hF hD hdD hKM
  clear hk h hs h9 hz ht hib hin hS2 hok2 hL21
  generalize laX z L2 s i = X2 at *
  go_enter Try.func3, Try.ntmps3
  go_wp2_with fail
  refine (HL.out w (Below.refl _ _)).mono ?_
  rintro e w1 ⟨a1, c1, rfl, hO, hb⟩
  have HI1 := Lib.hid hO.ints
  clear hO
  have HBw1 := Lib.hid (band (Below.refl _ _) hb)
  clear hb
  go_wp2_with fail
  refine (HMe.out a1 c1 w1 HI1.out).mono ?_
  rintro e w2 ⟨rfl, hb⟩
  obtain ⟨A1, hA1⟩ : ∃ A1, A1 = frA (mX z D s) L := ⟨_, rfl⟩
  obtain ⟨B1, hB1⟩ : ∃ B1, B1 = frB (mX z D s) L := ⟨_, rfl⟩
  have HNA1 : Hid (frA (mX z D s) L = A1 ∧ frB (mX z D s) L = B1) := ⟨hA1.symm, hB1.symm⟩
  rw [← hA1, ← hB1]
  clear hA1 hB1
  have HBw2 := Lib.hid (band HBw1.out hb)
  clear hb
  obtain ⟨w3, hw3⟩ : ∃ w3, w3 = w2.alloc (.cells #[.int .i64 A1, .int .i64 (B1 : Int)] 24) := ⟨_, rfl⟩
  have HQ1 : Hid (w3.heap[w2.heap.size]? = some (.cells #[.int .i64 A1, .int .i64 (B1 : Int)] 24)) := by rw [hw3]; exact heap_alloc_new w2 _
  have HBw3 : Hid (Below w.heap.size w w3) := by rw [hw3]; exact HBw2.out.alloc (HBw2.out).size _
  have HWw3 := Lib.hid hw3
  clear hw3
  obtain ⟨qa2, qb2, _, _⟩ := fr_cells HQ1.out
  go_wp2_with fail
  rw [← HWw3.out]
  refine (HL.out w3 HBw3.out).mono ?_
  rintro e w4 ⟨a2, c2, rfl, hO, hb⟩
  have HI2 := Lib.hid hO.ints
  clear hO
  clear qa2 qb2
  have HBw4 := Lib.hid (band HBw3.out hb)
  have HQ3 := Lib.hid (frAt HQ1.out hb)
  clear hb
  obtain ⟨qa4, qb4, _, _⟩ := fr_cells HQ3.out
  go_wp2_with fail
  refine (HLa.out a2 c2 w4 HI2.out).mono ?_
  rintro e w5 ⟨rfl, hb⟩
  obtain ⟨A2, hA2⟩ : ∃ A2, A2 = frA X2 L2 := ⟨_, rfl⟩
  obtain ⟨B2, hB2⟩ : ∃ B2, B2 = frB X2 L2 := ⟨_, rfl⟩
  have HNA2 : Hid (frA X2 L2 = A2 ∧ frB X2 L2 = B2) := ⟨hA2.symm, hB2.symm⟩
  rw [← hA2, ← hB2]
  clear hA2 hB2
  clear qa4 qb4
  have HBw5 := Lib.hid (band HBw4.out hb)
  have HQ5 := Lib.hid (frAt HQ3.out hb)
  clear hb
  obtain ⟨qa6, qb6, _, _⟩ := fr_cells HQ5.out
  clear qa6 qb6
  obtain ⟨w6, hw6⟩ : ∃ w6, w6 = w5.alloc (.cells #[.int .i64 A2, .int .i64 (B2 : Int)] 24) := ⟨_, rfl⟩
  have HQ7 : Hid (w6.heap[w2.heap.size]? = some (.cells #[.int .i64 A1, .int .i64 (B1 : Int)] 24)) := by rw [hw6]; exact frAt HQ5.out (below_one w5 _)
  have HQ8 : Hid (w6.heap[w5.heap.size]? = some (.cells #[.int .i64 A2, .int .i64 (B2 : Int)] 24)) := by rw [hw6]; exact heap_alloc_new w5 _
  have HBw6 : Hid (Below w.heap.size w w6) := by rw [hw6]; exact HBw5.out.alloc (HBw5.out).size _
  have HWw6 := Lib.hid hw6
  clear hw6
  obtain ⟨qa9, qb9, _, _⟩ := fr_cells HQ7.out
  obtain ⟨qa10, qb10, _, _⟩ := fr_cells HQ8.out
  obtain ⟨qa11, qb11, _, _⟩ := fr_cells (frAt HQ5.out (below_one w5 (.cells #[.int .i64 A2, .int .i64 (B2 : Int)] 24)))
  go_wp2_with fail
  rw [← HWw6.out]
  refine (HRs.out w6 HBw6.out).mono ?_
  rintro e w' ⟨rfl, rfl⟩
  have HRM1 := Lib.hid (HRM.out w6.drew HBw6.out.drew)
  go_wp2
  go_region_held3 (fun w' => w'.cell? ⟨w2.heap.size, 0, none⟩ = some (.int .i64 A1) ∧ w'.cell? ⟨w2.heap.size, 1, none⟩ = some (.int .i64 (B1 : Int)))
    (first
      | (go_split_ands; exact two_cells HQx.out)
      | (go_split_ands; exact two_cells HQy.out)
      | go_keep)
    ((first
      | ((with_reducible refine HRM1.out.mono ?_); rintro e wx ⟨rfl, hbx⟩; rw [HNA1.out.1, HNA1.out.2]; have HQx := Lib.hid (frAt HQ7.out (below_drew1 hbx)); have HQx2 := Lib.hid (frAt HQ8.out (below_drew1 hbx)); have HBx := Lib.hid (band HBw6.out (below_drew1 hbx)); clear hbx)
      | ((with_reducible refine (awake_any _).mono ?_); rintro e wy ⟨rfl, hby⟩; have HQy := Lib.hid (frAt HQx.out hby); have HQy2 := Lib.hid (frAt HQx2.out hby); have HBy := Lib.hid (band HBx.out hby); clear hby)))
  all_goals
    obtain ⟨u1, u2, _, _⟩ := fr_cells HQy2.out
    have HRL1 := Lib.hid (HRL.out wy.drew HBy.out.drew)
    go_wp2
    go_region_held3 (fun w' => w'.cell? ⟨w5.heap.size, 0, none⟩ = some (.int .i64 A2) ∧ w'.cell? ⟨w5.heap.size, 1, none⟩ = some (.int .i64 (B2 : Int)))
      (first
        | (go_split_ands; exact two_cells HQz.out)
        | go_keep)
      ((first
        | ((with_reducible refine HRL1.out.mono ?_); rintro e wz ⟨rfl, hbz'⟩; rw [HNA2.out.1, HNA2.out.2]; have HQz := Lib.hid (frAt HQy2.out (below_drew1 hbz')); have HBz := Lib.hid (band HBy.out (below_drew1 hbz')); clear hbz')))
    all_goals
      go_wp2
      go_ret
      exact ⟨rfl, HBz.out⟩

theorem means_row (w : World) (a : Option Addr) (n cap : Nat) (z : Nat → Int) (hcap : n ≤ cap) (h8 : n * 8 ≤ 140737488355328) (hz : Ints w a n z) (s : Int) (_ : -9223372036854775808 ≤ s ∧ s ≤ 9223372036854775807) (k : Int) (_ : -9223372036854775808 ≤ k ∧ k ≤ 9223372036854775807) :
    Calls Try.prog 3 #[.slice a n cap, .int .i64 s, .int .i64 k] w fun e w' => SomeB true w e w' := by
  cases h : okS n z s
  · exact means_bad a n cap z s k w h hcap h8 hz
  · obtain ⟨t, ht, _⟩ := okS_nat h
    subst ht
    cases hk : hasB t k
    · exact means_none a n cap z t k w h hk hcap h8 hz
    · exact means_good a n cap z t k w h hk hcap h8 hz
end Go.Proofs.Ytgednacoeifclaa

namespace Go.Proofs.Ytgednacoeifclaa
open Go.ChangeShapes Go.WideShapes Go.ChangeAt Go.RowKit

set_option maxRecDepth 100000 in
theorem packetsMeans_lifted (os : Os) (started : os.Started) (H : Type) (enc : TypeId × Value → H) :
    ReturnsInHanded {} Try.checked os 3 .any (Rows.packetsMeansSpec.pre6 enc Try.prog Try.f3 Rows.packetsMeansRow.domain false) (Rows.packetsMeansSpec.post enc Try.prog Try.f3 false true false false) := by
  refine returnsInHanded_of_change_sized (C := Try.checked) Try.own started (by kernel_rfl) Try.func3
    (ChangeSpec.witness6 (enc := enc) (C := Try.checked) false ⟨#[], #[.slice none 0 0, .int .i64 0, .int .i64 0], []⟩ 8 (by kernel_rfl) (by kernel_rfl) (by kernel_rfl) (by kernel_rfl)) ?_
  intro W base args ds gs before hval0 hW _ hsz0 _
  have hsz : (DataW.weightsEach Try.prog (Try.f3.params.toList ++ Rows.packetsMeansSpec.plain.varTypes Try.prog) (ds ++ gs)).all (· ≤ reachBytes) = true := hsz0
  clear hsz0
  have hval : ∀ (j : Nat) t v, Try.f3.params[j]? = some t → args[j]? = some v → Value.okWide Try.prog W .any base t v := hval0
  have hW' := hW
  obtain ⟨p, q, hA0, hV, rfl, _, _⟩ := hW
  have hA : DataW.TrodAll enc Try.prog W 0 (fun _ => true) true Try.f3.params.toList args.toList ds p := hA0
  rw [Try.params3] at hA hval hsz
  obtain ⟨v0, v1, v2, d0, d1, d2, p0, p1, p2, rfl, rfl, rfl, h0, h1, h2⟩ := trodAll_three hA
  obtain ⟨rfl, rfl⟩ := trodVars_none hV
  clear hA0 hval0
  have hsz2 : (DataW.weightsEach Try.prog [22, 3, 3] [d0, d1, d2]).all (· ≤ reachBytes) = true := hsz
  have big : ∀ k ∈ DataW.weightsEach Try.prog [22, 3, 3] [d0, d1, d2], k ≤ reachBytes := by
    intro k hk
    have := List.all_eq_true.1 hsz2 k hk
    simpa using this
  obtain ⟨aX0, nX0, cX0, x0, rfl, hx0, hy0, hX0⟩ := view_I (hval 0 22 v0 rfl rfl) h0 (fun k hk => big k (by simp [DataW.weightsEach, hk]))
  obtain ⟨z1, rfl, hz1⟩ := view_N (hval 1 3 v1 rfl rfl) h1
  obtain ⟨z2, rfl, hz2⟩ := view_N (hval 2 3 v2 rfl rfl) h2
  have lt0 : ∀ x ∈ p0, x.block < W.heap.size := by obtain ⟨f, hf⟩ := h0; exact DataW.trod_lt f _ _ _ hf
  have lt1 : ∀ x ∈ p1, x.block < W.heap.size := by obtain ⟨f, hf⟩ := h1; exact DataW.trod_lt f _ _ _ hf
  have lt2 : ∀ x ∈ p2, x.block < W.heap.size := by obtain ⟨f, hf⟩ := h2; exact DataW.trod_lt f _ _ _ hf
  refine (means_row W aX0 nX0 cX0 x0 hx0 hy0 hX0 z1 hz1 z2 hz2).mono fun e W' ⟨he, bel⟩ => ?_
  subst he
  exact ⟨_, rfl, _, _, _, [], _, [], hW', trodAll_mk1 (shut_bool Try.underlying4 _),
    trodAll_mk3 (Below.trod Try.laidOut (by kernel_rfl) (of_decide_eq_true (by kernel_rfl)) h0 bel lt0) (Below.trod Try.laidOut (by kernel_rfl) (of_decide_eq_true (by kernel_rfl)) h1 bel lt1) (Below.trod Try.laidOut (by kernel_rfl) (of_decide_eq_true (by kernel_rfl)) h2 bel lt2),
    rfl, bel.frame _, fun h => by cases h⟩

theorem packetsMeans_holds : Rows.PacketsMeansSaid :=
  OpenClaim.holds_of_wide 3 Try.f3 rfl rfl rfl rfl rfl rfl rfl ⟨rfl, rfl, rfl, rfl, rfl⟩ rfl rfl rfl rfl rfl (by kernel_rfl) Try.func3 (by kernel_rfl)
    (of_decide_eq_true (by kernel_rfl)) (by unfold Func.isWrapper; first | (rw [if_pos (by decide +kernel)]; kernel_rfl) | (rw [if_neg (by decide +kernel)]; exact ⟨rfl, rfl⟩))
    (fun os started H enc _ => packetsMeans_lifted os started H enc)

end Go.Proofs.Ytgednacoeifclaa
