import Derived.Test.YtgednacoeifclaaP5
import Derived.Test.YtgednacoeifclaaL6
namespace Go.Proofs.Ytgednacoeifclaa
open Go.RowKit Go.Shelf

/-- Is bit y not set? -/
theorem bit_at0 (M y : Nat) (hM : M < 2 ^ 62) : (bits BinOp.and IntKind.i64 ((M : Int) / 2 ^ y) 1 == 0) = !M.testBit y := by
  have e : ((M : Int) / 2 ^ y) = ((M / 2 ^ y : Nat) : Int) := by simp
  have h1 : M / 2 ^ y < 2 ^ 62 := Nat.lt_of_le_of_lt (Nat.div_le_self _ _) hM
  rw [e, show (1 : Int) = ((1 : Nat) : Int) from rfl, band_nat _ 1 h1 (by decide), Nat.and_one_is_mod]
  rw [Nat.testBit, Nat.shiftRight_eq_div_pow, Nat.and_comm, Nat.and_one_is_mod]
  rw [Bool.eq_iff_iff]
  simp
  omega

/-- Three parts of two sets together. -/
theorem three_parts (c : Nat → Int) {x y : Nat} (hx : x < 64) (hy : y < 64) : sumC c (kindsL (sdiff y x)) + sumC c (kindsL (sdiff x y)) + sumC c (kindsL (x &&& y)) = sumC c (kindsL (x ||| y)) := by
  unfold kindsL kindsTo sumC
  rw [sum_filter, sum_filter, sum_filter, sum_filter, ← sum_add, ← sum_add]
  refine sum_congr fun i hi => ?_
  have hi := List.mem_range.1 hi
  rw [sdiff_bit hy hx hi, sdiff_bit hx hy hi, Nat.testBit_and, Nat.testBit_or]
  cases x.testBit i <;> cases y.testBit i <;> simp
theorem kinds_subl {x s : Nat} (h : ∀ i, x.testBit i = true → s.testBit i = true) : (kindsL x).Sublist (kindsL s) := by
  unfold kindsL kindsTo
  have e : (List.range 6).filter (fun i => x.testBit i) = ((List.range 6).filter (fun i => s.testBit i)).filter (fun i => x.testBit i) := by
    rw [List.filter_filter]
    refine List.filter_congr fun i _ => ?_
    cases hx : x.testBit i
    · simp
    · simp [h i hx]
  rw [e]
  exact List.filter_sublist
theorem sub_diff {x y : Nat} (hx : x < 64) (hy : y < 64) : (kindsL (sdiff y x)).Sublist (kindsL (x ||| y)) := by
  unfold kindsL kindsTo
  have e : (List.range 6).filter (fun i => (sdiff y x).testBit i) = ((List.range 6).filter (fun i => (x ||| y).testBit i)).filter (fun i => (sdiff y x).testBit i) := by
    rw [List.filter_filter]
    refine List.filter_congr fun i hi => ?_
    rw [sdiff_bit hy hx (List.mem_range.1 hi), Nat.testBit_or]
    cases x.testBit i <;> cases y.testBit i <;> rfl
  rw [e]
  exact List.filter_sublist
theorem sumC_sub_le {z : Nat → Int} {s L : Nat} (h : SetL z s L) {xs : List Nat} (hx : xs.Sublist (kindsL s)) : 0 ≤ sumC (laX z L s) xs ∧ sumC (laX z L s) xs ≤ L := by
  have hp : ∀ k ∈ xs, 0 ≤ laX z L s k := fun k hk => h.pos k (hx.subset hk)
  have h1 := sumA_pos hp
  have h2 := sumA_pos h.pos
  rw [h.al] at h2
  have h3 := sumA_sub (laX z L s) hx
  omega

set_option maxHeartbeats 4000000 in
set_option maxRecDepth 100000 in
theorem race_bad (a : Option Addr) (n cap : Nat) (z : Nat → Int) (x y : Int) (w : World) (h : (okS n z x && okS n z y) = false ∨ x = 0 ∨ y = 0) (hcap : n ≤ cap) (h8 : n * 8 ≤ 140737488355328) (hz : Ints w a n z) :
    Calls Try.prog 15 #[.slice a n cap, .int .i64 x, .int .i64 y] w fun e w' => SomeB true w e w' := by
  have h2 : (okS (min n 8) z x && okS (min n 8) z y) = false ∨ x = 0 ∨ y = 0 := by rw [okS_cut, okS_cut]; exact h
  have h3 : (okS (min n 8) z y && okS (min n 8) z x) = false ∨ y = 0 ∨ x = 0 := by rw [Bool.and_comm]; exact h2.imp_right Or.symm
  have HL := Lib.hid (fun W (hW : Below w.heap.size w W) => list_any a cap n z W hcap h8 (hz.keep (Nat.le_refl _) hW))
  have HD := Lib.hid (fun a1 c1 W (hI : Ints W a1 (min n 8) z) => fFirst_bad a1 (min n 8) c1 z x y W h2 (by have := Nat.min_le_right n 8; omega) hI)
  have HE := Lib.hid (fun a1 c1 W (hI : Ints W a1 (min n 8) z) => fFirst_bad a1 (min n 8) c1 z y x W h3 (by have := Nat.min_le_right n 8; omega) hI)
  clear hz h h2 h3
  go_enter Try.func15, Try.ntmps15
  go_wp2_with fail
  refine (HL.out w (Below.refl _ _)).mono ?_
  rintro e w1 ⟨a1, c1, rfl, hO, hb⟩
  have HI1 := Lib.hid hO.ints
  clear hO
  have HBw1 := Lib.hid (band (Below.refl _ _) hb)
  clear hb
  go_wp2_with fail
  refine (HD.out a1 c1 w1 HI1.out).mono ?_
  rintro e w2 ⟨rfl, hb⟩
  have HBw2 := Lib.hid (band HBw1.out hb)
  clear hb
  obtain ⟨w3, hw3⟩ : ∃ w3, w3 = w2.alloc (.cells #[.int .i64 0, .int .i64 (0 : Int)] 24) := ⟨_, rfl⟩
  have HQ1 : Hid (w3.heap[w2.heap.size]? = some (.cells #[.int .i64 0, .int .i64 (0 : Int)] 24)) := by rw [hw3]; exact heap_alloc_new w2 _
  have HBw3 : Hid (Below w.heap.size w w3) := by rw [hw3]; exact HBw2.out.alloc (HBw2.out).size _
  have HWw3 := Lib.hid hw3
  clear hw3
  obtain ⟨qa2, qb2, _, _⟩ := fr_cells HQ1.out
  go_wp2_with fail
  rw [← HWw3.out]
  refine (HL.out w3 HBw3.out).mono ?_
  rintro e w4 ⟨a2, c2, rfl, hO, hb⟩
  have HI2 := Lib.hid hO.ints
  clear hO
  clear qa2 qb2
  have HBw4 := Lib.hid (band HBw3.out hb)
  have HQ3 := Lib.hid (frAt HQ1.out hb)
  clear hb
  obtain ⟨qa4, qb4, _, _⟩ := fr_cells HQ3.out
  go_wp2_with fail
  refine (HE.out a2 c2 w4 HI2.out).mono ?_
  rintro e w5 ⟨rfl, hb⟩
  clear qa4 qb4
  have HBw5 := Lib.hid (band HBw4.out hb)
  have HQ5 := Lib.hid (frAt HQ3.out hb)
  clear hb
  obtain ⟨qa6, qb6, _, _⟩ := fr_cells HQ5.out
  clear qa6 qb6
  obtain ⟨w6, hw6⟩ : ∃ w6, w6 = w5.alloc (.cells #[.int .i64 0, .int .i64 (0 : Int)] 24) := ⟨_, rfl⟩
  have HQ7 : Hid (w6.heap[w2.heap.size]? = some (.cells #[.int .i64 0, .int .i64 (0 : Int)] 24)) := by rw [hw6]; exact frAt HQ5.out (below_one w5 _)
  have HQ8 : Hid (w6.heap[w5.heap.size]? = some (.cells #[.int .i64 0, .int .i64 (0 : Int)] 24)) := by rw [hw6]; exact heap_alloc_new w5 _
  have HBw6 : Hid (Below w.heap.size w w6) := by rw [hw6]; exact HBw5.out.alloc (HBw5.out).size _
  have HWw6 := Lib.hid hw6
  clear hw6
  obtain ⟨qa9, qb9, _, _⟩ := fr_cells HQ7.out
  obtain ⟨qa10, qb10, _, _⟩ := fr_cells HQ8.out
  obtain ⟨qa11, qb11, _, _⟩ := fr_cells (frAt HQ5.out (below_one w5 (.cells #[.int .i64 0, .int .i64 (0 : Int)] 24)))
  go_wp2_with fail
  rw [← HWw6.out]
  refine (awake_any _).mono ?_
  rintro e w7 ⟨rfl, hb⟩
  clear qa9 qb9 qa10 qb10 qa11 qb11
  have HBw7 := Lib.hid (band HBw6.out hb)
  have HQ12 := Lib.hid (frAt HQ7.out hb)
  have HQ13 := Lib.hid (frAt HQ8.out hb)
  clear hb
  obtain ⟨qa14, qb14, _, _⟩ := fr_cells HQ12.out
  obtain ⟨qa15, qb15, _, _⟩ := fr_cells HQ13.out
  go_wp2
  go_ret
  exact ⟨rfl, HBw7.out⟩

set_option maxHeartbeats 8000000 in
set_option maxRecDepth 100000 in
theorem race_good (a : Option Addr) (n cap : Nat) (z : Nat → Int) (x y : Nat) (w : World) (hx : okS n z x = true) (hy : okS n z y = true) (hx0 : x ≠ 0) (hy0 : y ≠ 0) (hcap : n ≤ cap) (h8 : n * 8 ≤ 140737488355328) (hz : Ints w a n z) :
    Calls Try.prog 15 #[.slice a n cap, .int .i64 x, .int .i64 y] w fun e w' => SomeB true w e w' := by
  obtain ⟨t, ht, hs, h1n, hn6, h9⟩ := okS_nat hx
  have ht' : x = t := by omega
  subst ht'
  obtain ⟨t, ht2, hs2, _, _, _⟩ := okS_nat hy
  have ht' : y = t := by omega
  subst ht'
  have hmn : min n 8 = n := by omega
  have hl := fun W (hW : Below w.heap.size w W) => list_any a cap n z W hcap h8 (hz.keep (Nat.le_refl _) hW)
  rw [hmn] at hl
  have HL := Lib.hid hl
  have hx64 := lt64 hs hn6
  have hy64 := lt64 hs2 hn6
  have hxy : x ||| y < 2 ^ n := Nat.or_lt_two_pow hs hs2
  have hxy0 : x ||| y ≠ 0 := fun h => hx0 (Nat.or_eq_zero_iff.1 h).1
  have hok : okS n z ((x ||| y : Nat) : Int) = true := okS_iff.2 ⟨⟨h1n, hn6, h9⟩, Int.natCast_nonneg _, by
    have e : (2 : Int) ^ n = ((2 ^ n : Nat) : Int) := by simp
    rw [e]; omega⟩
  obtain ⟨L, hSL⟩ := setL_any (z := z) hxy hxy0 hn6 h9
  have hL1 := hSL.L1
  have hLM := hSL.LM
  have sb1 := sub_diff hx64 hy64
  have sb2 := sub_diff hy64 hx64
  rw [Nat.or_comm y x] at sb2
  have sb3 : (kindsL (x &&& y)).Sublist (kindsL (x ||| y)) := kinds_subl fun i h => by
    rw [Nat.testBit_and] at h; rw [Nat.testBit_or]; revert h; cases x.testBit i <;> simp
  have hX := sumC_sub_le hSL sb1
  have hY := sumC_sub_le hSL sb2
  have hZ := sumC_sub_le hSL sb3
  have htot := three_parts (laX z L (x ||| y)) hx64 hy64
  rw [hSL.al] at htot
  have HFi : Hid (∀ a1 c1 W, Ints W a1 n z → Calls Try.prog 33 #[.slice a1 n c1, .int .i64 x, .int .i64 y] W fun e w' => FrOut (fiX z L x y) L W e w') := fun a1 c1 W hI =>
    fFirst_good a1 n c1 z x y L W hx hy hx0 hy0 (by omega) hI hL1 hLM (fun k hk => hSL.ok k (sb1.subset hk)) (by have := hSL.some sb1; omega)
  have HFj : Hid (∀ a1 c1 W, Ints W a1 n z → Calls Try.prog 33 #[.slice a1 n c1, .int .i64 y, .int .i64 x] W fun e w' => FrOut (fiX z L y x) L W e w') := fun a1 c1 W hI =>
    fFirst_good a1 n c1 z y x L W hy hx hy0 hx0 (by omega) hI hL1 hLM (fun k hk => by rw [Nat.or_comm y x]; exact hSL.ok k (sb2.subset hk)) (by rw [Nat.or_comm y x]; have := hSL.some sb2; omega)
  have eX : sumC (laX z L (x ||| y)) (kindsL (sdiff y x)) = fiX z L x y := rfl
  have eY : sumC (laX z L (x ||| y)) (kindsL (sdiff x y)) = fiX z L y x := by unfold fiX; rw [Nat.or_comm y x]
  rw [eX] at hX htot
  rw [eY] at hY htot
  have HR1 := Lib.hid (fun W (hW : Below w.heap.size w W) => rset_r true a n cap z (x : Int) W hx (by omega) (hz.keep (Nat.le_refl _) hW))
  have HR2 := Lib.hid (fun W (hW : Below w.heap.size w W) => rset_r true a n cap z (y : Int) W hy (by omega) (hz.keep (Nat.le_refl _) hW))
  have HTot := Lib.hid htot
  have HE0 : Hid (frA (sumC (laX z L (x ||| y)) (kindsTo (x &&& y) 0)) L = 0 ∧ frB (sumC (laX z L (x ||| y)) (kindsTo (x &&& y) 0)) L = 1) := fr_zero hL1
  have hbitor : ∀ i, (x &&& y).testBit i = true → (x ||| y).testBit i = true := fun i h => by
    rw [Nat.testBit_and] at h; rw [Nat.testBit_or]; revert h; cases x.testBit i <;> simp
  have HD : Hid (∀ i : Nat, (x &&& y).testBit i = true → ∀ a1 c1 W, Ints W a1 n z → Calls Try.prog 20 #[.slice a1 n c1, .int .i64 ((x ||| y : Nat) : Int), .int .i64 i] W fun e w' => FrOut (laX z L (x ||| y) i) L W e w') := fun i hi a1 c1 W hI =>
    fLast_good a1 n c1 z (x ||| y) i L W hok (hbitor i hi) (by omega) hI (hSL.ok i (by
      refine List.mem_filter.2 ⟨List.mem_range.2 ?_, hbitor i hi⟩
      rcases Nat.lt_or_ge i 6 with h1 | h1
      · exact h1
      · have : x ||| y < 2 ^ i := Nat.lt_of_lt_of_le hxy (Nat.pow_le_pow_right (by decide) (by omega))
        have hb := hbitor i hi
        rw [Nat.testBit_lt_two_pow this] at hb; cases hb))
  have hin : ∀ i, i < n → (x &&& y).testBit i = true → 0 ≤ laX z L (x ||| y) i ∧ laX z L (x ||| y) i ≤ L := fun i hi hb => by
    have hm : i ∈ kindsL (x ||| y) := List.mem_filter.2 ⟨List.mem_range.2 (by omega), hbitor i hb⟩
    exact ⟨hSL.pos i hm, hSL.le hm⟩
  have hto : ∀ j, j ≤ n → 0 ≤ sumC (laX z L (x ||| y)) (kindsTo (x &&& y) j) ∧ sumC (laX z L (x ||| y)) (kindsTo (x &&& y) j) ≤ L := fun j hj =>
    sumC_sub_le hSL (((kindsTo_le (by omega : j ≤ 6)).sublist).trans sb3)
  have HRt : Hid (∀ i : Nat, i < n → (x &&& y).testBit i = true → ∀ W, Calls Try.prog 44 #[.agg #[.int .i64 (frA (laX z L (x ||| y) i) L), .int .i64 (frB (laX z L (x ||| y) i) L : Nat)], .int .i64 ((1 : Nat) : Int)] W fun e w' => e = .returned (.bool true) ∧ Below W.heap.size W w') := fun i hi hb W => by
    have h2 := hin i hi hb
    exact right_fr _ _ 1 W h2.1 hL1 (by omega) (by omega) (by omega) (by omega)
  have HRX : Hid (∀ W, Calls Try.prog 44 #[.agg #[.int .i64 (frA (fiX z L x y) L), .int .i64 (frB (fiX z L x y) L : Nat)], .int .i64 ((1 : Nat) : Int)] W fun e w' => e = .returned (.bool true) ∧ Below W.heap.size W w') := fun W =>
    right_fr _ _ 1 W hX.1 hL1 (by omega) (by omega) (by omega) (by omega)
  have HRY : Hid (∀ W, Calls Try.prog 44 #[.agg #[.int .i64 (frA (fiX z L y x) L), .int .i64 (frB (fiX z L y x) L : Nat)], .int .i64 ((1 : Nat) : Int)] W fun e w' => e = .returned (.bool true) ∧ Below W.heap.size W w') := fun W =>
    right_fr _ _ 1 W hY.1 hL1 (by omega) (by omega) (by omega) (by omega)
  have HAXY : Hid (∀ W, Calls Try.prog 46 #[.agg #[.int .i64 (frA (fiX z L x y) L), .int .i64 (frB (fiX z L x y) L : Nat)], .agg #[.int .i64 (frA (fiX z L y x) L), .int .i64 (frB (fiX z L y x) L : Nat)], .bool false] W fun e w' => AddOut (fiX z L x y + fiX z L y x) L W e w') := fun W =>
    added_any _ _ L W hL1 hLM (by omega) (by omega)
  have HOne : Hid (∀ W, Calls Try.prog 46 #[.agg #[.int .i64 (frA (fiX z L x y + fiX z L y x) L), .int .i64 (frB (fiX z L x y + fiX z L y x) L : Nat)], .agg #[.int .i64 (frA (sumC (laX z L (x ||| y)) (kindsL (x &&& y))) L), .int .i64 (frB (sumC (laX z L (x ||| y)) (kindsL (x &&& y))) L : Nat)], .bool false] W fun e w' => e = .returned (.tuple #[.agg #[.int .i64 1, .int .i64 1], .bool true]) ∧ Below W.heap.size W w') := fun W => by
    have h := added_any (fiX z L x y + fiX z L y x) (sumC (laX z L (x ||| y)) (kindsL (x &&& y))) L W hL1 hLM (by omega) (by omega)
    have e1 := fr_same (a := (L : Int)) (b := 1) (L := L) (K := 1) (by omega) (by omega) (by omega)
    have e2 := fr_one 1
    unfold AddOut at h
    rw [htot, e1.1, e1.2, e2.1, e2.2] at h
    exact h
  have HX0 : Hid (sdiff y x = 0 → frA (fiX z L x y) L = 0) := fun h => by
    have e : fiX z L x y = 0 := by
      unfold fiX; rw [h, show kindsL 0 = [] by decide +kernel]; rfl
    rw [e]; exact (fr_zero hL1).1
  have HY0 : Hid (sdiff x y = 0 → frA (fiX z L y x) L = 0) := fun h => by
    have e : fiX z L y x = 0 := by
      unfold fiX; rw [h, show kindsL 0 = [] by decide +kernel]; rfl
    rw [e]; exact (fr_zero hL1).1
  have hN1 : bits .andNot .i64 (y : Int) (x : Int) = ((sdiff y x : Nat) : Int) := andNot_nat hy64 hx64
  have hN2 : bits .andNot .i64 (x : Int) (y : Int) = ((sdiff x y : Nat) : Int) := andNot_nat hx64 hy64
  have HAd : Hid (∀ j : Nat, j < n → (x &&& y).testBit j = true → ∀ W, Calls Try.prog 46 #[.agg #[.int .i64 (frA (sumC (laX z L (x ||| y)) (kindsTo (x &&& y) j)) L), .int .i64 (frB (sumC (laX z L (x ||| y)) (kindsTo (x &&& y) j)) L : Nat)], .agg #[.int .i64 (frA (laX z L (x ||| y) j) L), .int .i64 (frB (laX z L (x ||| y) j) L : Nat)], .bool false] W fun e w' => AddOut (sumC (laX z L (x ||| y)) (kindsTo (x &&& y) (j + 1))) L W e w') := fun j hj hb W => by
    have h1 := hto j (by omega)
    have h2 := hin j hj hb
    rw [kindsTo_yes hb, sumC_snoc]
    exact added_any _ _ _ W hL1 hLM (by omega) (by omega)
  have HSk : Hid (∀ j : Nat, (x &&& y).testBit j = false → sumC (laX z L (x ||| y)) (kindsTo (x &&& y) (j + 1)) = sumC (laX z L (x ||| y)) (kindsTo (x &&& y) j)) := fun j hb => by rw [kindsTo_no hb]
  have HEnd : Hid (sumC (laX z L (x ||| y)) (kindsTo (x &&& y) n) = sumC (laX z L (x ||| y)) (kindsL (x &&& y))) := by
    rw [Hid, kindsTo_end (Nat.and_lt_two_pow _ hs2) hn6]
  have HOr : Hid (bits .or .i64 (x : Int) (y : Int) = ((x ||| y : Nat) : Int)) := bor_nat x y (Nat.lt_of_lt_of_le hx64 (by decide)) (Nat.lt_of_lt_of_le hy64 (by decide))
  have hAnd : bits .and .i64 (x : Int) (y : Int) = ((x &&& y : Nat) : Int) := band_nat x y (Nat.lt_of_lt_of_le hx64 (by decide)) (Nat.lt_of_lt_of_le hy64 (by decide))
  have hAnd64 : x &&& y < 2 ^ 62 := Nat.lt_of_le_of_lt Nat.and_le_left (Nat.lt_of_lt_of_le hx64 (by decide))
  obtain ⟨c, hc⟩ : ∃ c : Nat → Int, c = laX z L (x ||| y) := ⟨_, rfl⟩
  obtain ⟨S, hS⟩ : ∃ S : Nat → Int, S = fun j => sumC (laX z L (x ||| y)) (kindsTo (x &&& y) j) := ⟨_, rfl⟩
  have hS' : ∀ j, sumC (laX z L (x ||| y)) (kindsTo (x &&& y) j) = S j := fun j => by rw [hS]
  have hc' : ∀ j, laX z L (x ||| y) j = c j := fun j => by rw [hc]
  obtain ⟨T, hT⟩ : ∃ T : Int, T = sumC (laX z L (x ||| y)) (kindsL (x &&& y)) := ⟨_, rfl⟩
  rw [← hT] at HEnd HTot hZ HOne
  simp only [hS', hc'] at HD HRt HAd HSk HEnd HE0
  clear hl hmn hin hto hS hc hS' hc' hT htot eX eY hSL sb1 sb2 sb3 hok hxy0 hxy hbitor hx hy ht ht2 h9 hz hs hs2
  go_enter Try.func15, Try.ntmps15
  go_wp2_with fail
  refine (HL.out w (Below.refl _ _)).mono ?_
  rintro e w1 ⟨a1, c1, rfl, hO, hb⟩
  have HI1 := Lib.hid hO.ints
  clear hO
  have HBw1 := Lib.hid (band (Below.refl _ _) hb)
  clear hb
  go_wp2_with fail
  refine (HFi.out a1 c1 w1 HI1.out).mono ?_
  rintro e w2 ⟨rfl, hb⟩
  obtain ⟨A1, hA1⟩ : ∃ A1, A1 = frA (fiX z L x y) L := ⟨_, rfl⟩
  obtain ⟨B1, hB1⟩ : ∃ B1, B1 = frB (fiX z L x y) L := ⟨_, rfl⟩
  have HNA1 : Hid (frA (fiX z L x y) L = A1 ∧ frB (fiX z L x y) L = B1) := ⟨hA1.symm, hB1.symm⟩
  rw [← hA1, ← hB1]
  clear hA1 hB1
  have HBw2 := Lib.hid (band HBw1.out hb)
  clear hb
  obtain ⟨w3, hw3⟩ : ∃ w3, w3 = w2.alloc (.cells #[.int .i64 A1, .int .i64 (B1 : Int)] 24) := ⟨_, rfl⟩
  have HQ1 : Hid (w3.heap[w2.heap.size]? = some (.cells #[.int .i64 A1, .int .i64 (B1 : Int)] 24)) := by rw [hw3]; exact heap_alloc_new w2 _
  have HBw3 : Hid (Below w.heap.size w w3) := by rw [hw3]; exact HBw2.out.alloc (HBw2.out).size _
  have HWw3 := Lib.hid hw3
  clear hw3
  obtain ⟨qa2, qb2, _, _⟩ := fr_cells HQ1.out
  go_wp2_with fail
  rw [← HWw3.out]
  refine (HL.out w3 HBw3.out).mono ?_
  rintro e w4 ⟨a2, c2, rfl, hO, hb⟩
  have HI2 := Lib.hid hO.ints
  clear hO
  clear qa2 qb2
  have HBw4 := Lib.hid (band HBw3.out hb)
  have HQ3 := Lib.hid (frAt HQ1.out hb)
  clear hb
  obtain ⟨qa4, qb4, _, _⟩ := fr_cells HQ3.out
  go_wp2_with fail
  refine (HFj.out a2 c2 w4 HI2.out).mono ?_
  rintro e w5 ⟨rfl, hb⟩
  obtain ⟨A2, hA2⟩ : ∃ A2, A2 = frA (fiX z L y x) L := ⟨_, rfl⟩
  obtain ⟨B2, hB2⟩ : ∃ B2, B2 = frB (fiX z L y x) L := ⟨_, rfl⟩
  have HNA2 : Hid (frA (fiX z L y x) L = A2 ∧ frB (fiX z L y x) L = B2) := ⟨hA2.symm, hB2.symm⟩
  rw [← hA2, ← hB2]
  clear hA2 hB2
  clear qa4 qb4
  have HBw5 := Lib.hid (band HBw4.out hb)
  have HQ5 := Lib.hid (frAt HQ3.out hb)
  clear hb
  obtain ⟨qa6, qb6, _, _⟩ := fr_cells HQ5.out
  clear qa6 qb6
  obtain ⟨w6, hw6⟩ : ∃ w6, w6 = w5.alloc (.cells #[.int .i64 A2, .int .i64 (B2 : Int)] 24) := ⟨_, rfl⟩
  have HQ7 : Hid (w6.heap[w2.heap.size]? = some (.cells #[.int .i64 A1, .int .i64 (B1 : Int)] 24)) := by rw [hw6]; exact frAt HQ5.out (below_one w5 _)
  have HQ8 : Hid (w6.heap[w5.heap.size]? = some (.cells #[.int .i64 A2, .int .i64 (B2 : Int)] 24)) := by rw [hw6]; exact heap_alloc_new w5 _
  have HBw6 : Hid (Below w.heap.size w w6) := by rw [hw6]; exact HBw5.out.alloc (HBw5.out).size _
  have HWw6 := Lib.hid hw6
  clear hw6
  obtain ⟨qa9, qb9, _, _⟩ := fr_cells HQ7.out
  obtain ⟨qa10, qb10, _, _⟩ := fr_cells HQ8.out
  obtain ⟨qa11, qb11, _, _⟩ := fr_cells (frAt HQ5.out (below_one w5 (.cells #[.int .i64 A2, .int .i64 (B2 : Int)] 24)))
  go_wp2_with fail
  rw [← HWw6.out]
  refine (HR1.out w6 HBw6.out).mono ?_
  rintro e w' ⟨rfl, rfl⟩
  go_wp2_with fail
  refine (HR2.out w6 HBw6.out).mono ?_
  rintro e w' ⟨rfl, rfl⟩
  clear qa9 qb9 qa10 qb10 qa11 qb11
  obtain ⟨w7, hw7⟩ : ∃ w7, w7 = w6.alloc (.cells #[.int .i64 0, .int .i64 (1 : Int)] 24) := ⟨_, rfl⟩
  have HQ12 : Hid (w7.heap[w2.heap.size]? = some (.cells #[.int .i64 A1, .int .i64 (B1 : Int)] 24)) := by rw [hw7]; exact frAt HQ7.out (below_one w6 _)
  have HQ13 : Hid (w7.heap[w5.heap.size]? = some (.cells #[.int .i64 A2, .int .i64 (B2 : Int)] 24)) := by rw [hw7]; exact frAt HQ8.out (below_one w6 _)
  have HQ14 : Hid (w7.heap[w6.heap.size]? = some (.cells #[.int .i64 0, .int .i64 (1 : Int)] 24)) := by rw [hw7]; exact heap_alloc_new w6 _
  have HBw7 : Hid (Below w.heap.size w w7) := by rw [hw7]; exact HBw6.out.alloc (HBw6.out).size _
  have HWw7 := Lib.hid hw7
  clear hw7
  obtain ⟨qa15, qb15, _, _⟩ := fr_cells HQ12.out
  obtain ⟨qa16, qb16, _, _⟩ := fr_cells HQ13.out
  obtain ⟨qa17, qb17, _, _⟩ := fr_cells HQ14.out
  obtain ⟨qa18, qb18, _, _⟩ := fr_cells (frAt HQ7.out (below_one w6 (.cells #[.int .i64 0, .int .i64 (1 : Int)] 24)))
  obtain ⟨qa19, qb19, _, _⟩ := fr_cells (frAt HQ8.out (below_one w6 (.cells #[.int .i64 0, .int .i64 (1 : Int)] 24)))
  clear qa15 qb15 qa16 qb16 qa17 qb17 qa18 qb18 qa19 qb19
  go_wp2
  rw [← HWw7.out]
  have hs7 : w7.heap.size = w6.heap.size + 1 := by rw [HWw7.out]; simp
  have HS0 : Hid (FrBox w7 w6.heap.size (S 0) L) := by unfold Hid FrBox; rw [HE0.out.1, HE0.out.2]; exact HQ14.out
  have hl9 : w2.heap.size < w6.heap.size := (Array.getElem?_eq_some_iff.1 HQ7.out).1
  have hl11 : w5.heap.size < w6.heap.size := (Array.getElem?_eq_some_iff.1 HQ8.out).1
  go_loopw [12, 13, 14, 15, 65] (fun _ _ _ _ i wr => ∃ j : Nat, j ≤ n ∧ i = .int .i64 j ∧ FrBox wr (w6.heap.size) (S j) L ∧ Below (w6.heap.size) w7 wr) (fun _ _ _ _ i _ => n - (intOf i).toNat)
  case atStart => exact ⟨0, Nat.zero_le _, rfl, HS0.out, Below.refl _ _⟩
  case round =>
    obtain ⟨j, hj, rfl, hbx, hbl⟩ := hrel
    have HBX := Lib.hid hbx
    have HBL := Lib.hid hbl
    have HB := Lib.hid (HBw7.out.trans (hbl.mono (by have := HBw6.out.size; omega)))
    have hsz := hbl.size
    clear hbx hbl
    by_cases hlt : j < n
    · have hj0 : (0 : Int) ≤ (j : Int) := by omega
      have hb0 := bit_at0 (x &&& y) j hAnd64
      cases hbit : (x &&& y).testBit j
      · rw [hbit, Bool.not_false] at hb0
        have HSj := Lib.hid (HSk.out j hbit)
        clear hbit
        go_wp2
        go_roundw
        case rel => exact ⟨j + 1, by omega, by go_num, by rw [HSj.out]; exact HBX.out, HBL.out⟩
        case measure => simp [intOf]; omega
      · rw [hbit, Bool.not_true] at hb0
        have HDj := Lib.hid (HD.out j hbit)
        have HRj := Lib.hid (HRt.out j hlt hbit)
        have HAj := Lib.hid (HAd.out j hlt hbit)
        clear hbit
        obtain ⟨C, hC⟩ : ∃ C, C = frA (c j) L := ⟨_, rfl⟩
        obtain ⟨D, hD⟩ : ∃ D, D = frB (c j) L := ⟨_, rfl⟩
        have HN : Hid (frA (c j) L = C ∧ frB (c j) L = D) := ⟨hC.symm, hD.symm⟩
        rw [← hC, ← hD] at HRj HAj
        clear hC hD
        go_wp2_with fail
        refine (HL.out wr HB.out).mono ?_
        rintro e w5a ⟨a5, c5, rfl, hO, hb5⟩
        have HI5 := Lib.hid hO.ints
        have HB5 : Hid (Below wr.heap.size wr w5a) := hb5
        clear hO hb5
        go_wp2_with fail
        rw [HOr.out]
        refine (HDj.out a5 c5 w5a HI5.out).mono ?_
        rintro e w6a ⟨rfl, hb6⟩
        rw [HN.out.1, HN.out.2]
        have HB6 : Hid (Below wr.heap.size wr w6a) := HB5.out.trans (hb6.mono HB5.out.size)
        clear hb6
        obtain ⟨wc, hwc⟩ : ∃ wc, wc = w6a.alloc (.cells #[.int .i64 C, .int .i64 (D : Int)] 24) := ⟨_, rfl⟩
        have h9 : wc.heap[w6a.heap.size]? = some (.cells #[.int .i64 C, .int .i64 (D : Int)] 24) := by rw [hwc]; exact heap_alloc_new w6a _
        have hb9 : Below wr.heap.size wr wc := by rw [hwc]; exact HB6.out.alloc HB6.out.size _
        have HWc := Lib.hid hwc
        clear hwc
        have hq7 : wc.heap[w6.heap.size]? = _ := frAt HBX.out hb9
        have HQ7 := Lib.hid hq7
        have HQ9 := Lib.hid h9
        have HB9 := Lib.hid hb9
        have hne : ¬ w6a.heap.size = w6.heap.size := by have := HB6.out.size; omega
        clear h9 hq7 hb9
        go_wp2_with fail
        rw [← HWc.out]
        refine (HRj.out wc).mono ?_
        rintro e w5b ⟨rfl, hb5⟩
        have hq7 := frAt HQ7.out hb5
        obtain ⟨y1, y2, y3, y4⟩ := fr_cells hq7
        obtain ⟨z1, z2, _, _⟩ := fr_cells (frAt HQ9.out hb5)
        have HQ75 := Lib.hid hq7
        have HB5b := Lib.hid (band HB9.out hb5)
        clear hb5 hq7
        go_wp2_with fail
        refine (HAj.out w5b).mono ?_
        rintro e w6b ⟨rfl, hb6⟩
        have hq7 := frAt HQ75.out hb6
        obtain ⟨y1, y2, y3, y4⟩ := fr_cells hq7
        have HQ76 := Lib.hid hq7
        have HB6b := Lib.hid (band HB5b.out hb6)
        clear hb6 hq7 z1 z2
        have HFb : Hid (FrBox ((w6b.setCell ⟨w6.heap.size, 0, none⟩ (.int .i64 (frA (S (j + 1)) L))).setCell ⟨w6.heap.size, 1, none⟩ (.int .i64 (frB (S (j + 1)) L : Nat))) (w6.heap.size) (S (j + 1)) L) := FrBox.set HQ76.out _ _
        have HBb : Hid (Below (w6.heap.size) w7 ((w6b.setCell ⟨w6.heap.size, 0, none⟩ (.int .i64 (frA (S (j + 1)) L))).setCell ⟨w6.heap.size, 1, none⟩ (.int .i64 (frB (S (j + 1)) L : Nat)))) := (HBL.out.trans (HB6b.out.mono (by omega))).trans (below_set2 w6b (w6.heap.size) _ _)
        go_wp2
        go_roundw
        case rel => exact ⟨j + 1, by omega, by go_num, HFb.out, HBb.out⟩
        case measure => simp [intOf]; omega
    · have e : j = n := by omega
      have HNT : Hid (S j = T) := by rw [Hid, e]; exact HEnd.out
      have hge : (n : Int) ≤ j := by omega
      clear e
      have HRX := Lib.hid (show ∀ W, Calls Try.prog 44 #[.agg #[.int .i64 A1, .int .i64 (B1 : Int)], .int .i64 ((1 : Nat) : Int)] W fun e w' => e = .returned (.bool true) ∧ Below W.heap.size W w' from fun W => by have h := HRX.out W; rw [HNA1.out.1, HNA1.out.2] at h; exact h)
      have HRY := Lib.hid (show ∀ W, Calls Try.prog 44 #[.agg #[.int .i64 A2, .int .i64 (B2 : Int)], .int .i64 ((1 : Nat) : Int)] W fun e w' => e = .returned (.bool true) ∧ Below W.heap.size W w' from fun W => by have h := HRY.out W; rw [HNA2.out.1, HNA2.out.2] at h; exact h)
      have H9 : Hid (wr.heap[w2.heap.size]? = some (.cells #[.int .i64 A1, .int .i64 (B1 : Int)] 24)) := (HBL.out.block _ hl9).trans HQ12.out
      have H11 : Hid (wr.heap[w5.heap.size]? = some (.cells #[.int .i64 A2, .int .i64 (B2 : Int)] 24)) := (HBL.out.block _ hl11).trans HQ13.out
      obtain ⟨x1, x2, _, _⟩ := fr_cells H9.out
      obtain ⟨y1, y2, _, _⟩ := fr_cells H11.out
      obtain ⟨z1, z2, _, _⟩ := fr_cells HBX.out
      have HX0 : Hid (sdiff y x = 0 → A1 = 0) := fun h => by have h2 := HX0.out h; rw [HNA1.out.1] at h2; exact h2
      have HY0 : Hid (sdiff x y = 0 → A2 = 0) := fun h => by have h2 := HY0.out h; rw [HNA2.out.1] at h2; exact h2
      have HAXY := Lib.hid (show ∀ W, Calls Try.prog 46 #[.agg #[.int .i64 A1, .int .i64 (B1 : Int)], .agg #[.int .i64 A2, .int .i64 (B2 : Int)], .bool false] W fun e w' => AddOut (fiX z L x y + fiX z L y x) L W e w' from fun W => by
        have h := HAXY.out W; rw [HNA1.out.1, HNA1.out.2, HNA2.out.1, HNA2.out.2] at h; exact h)
      have HOne := Lib.hid (show ∀ W, Calls Try.prog 46 #[.agg #[.int .i64 (frA (fiX z L x y + fiX z L y x) L), .int .i64 (frB (fiX z L x y + fiX z L y x) L : Nat)], .agg #[.int .i64 (frA (S j) L), .int .i64 (frB (S j) L : Nat)], .bool false] W fun e w' => e = .returned (.tuple #[.agg #[.int .i64 1, .int .i64 1], .bool true]) ∧ Below W.heap.size W w' from fun W => by
        have h := HOne.out W; rw [← HNT.out] at h; exact h)
      obtain ⟨A3, hA3⟩ : ∃ A, A = frA (fiX z L x y + fiX z L y x) L := ⟨_, rfl⟩
      obtain ⟨B3, hB3⟩ : ∃ B, B = frB (fiX z L x y + fiX z L y x) L := ⟨_, rfl⟩
      obtain ⟨A4, hA4⟩ : ∃ A, A = frA (S j) L := ⟨_, rfl⟩
      obtain ⟨B4, hB4⟩ : ∃ B, B = frB (S j) L := ⟨_, rfl⟩
      unfold AddOut at HAXY
      rw [← hA3, ← hB3] at HAXY HOne
      rw [← hA4, ← hB4] at HOne
      rw [← hA4] at z1
      rw [← hB4] at z2
      have HZ : Hid (wr.heap[w6.heap.size]? = some (.cells #[.int .i64 A4, .int .i64 (B4 : Int)] 24)) := by rw [hA4, hB4]; exact HBX.out
      clear hA3 hB3 hA4 hB4
      have key : ∀ d : Nat, ∀ A : Int, (d = 0 → A = 0) → (((d : Int) == 0) = false) ∨ (((d : Int) == 0) = true ∧ (A != 0) = false) := by
        intro d A h
        by_cases h0 : d = 0
        · right; subst h0; exact ⟨rfl, by rw [h rfl]; rfl⟩
        · left; simp; omega
      rcases key _ _ HX0.out with g1 | ⟨g1, g2⟩
      all_goals
        rcases key _ _ HY0.out with g3 | ⟨g3, g4⟩
      all_goals
        go_wp2_with fail
        refine (HRX.out wr).mono ?_
        rintro e w5a ⟨rfl, hb5⟩
        obtain ⟨y1', y2', _, _⟩ := fr_cells (frAt H11.out hb5)
        obtain ⟨x1', x2', _, _⟩ := fr_cells (frAt H9.out hb5)
        have H95 := Lib.hid (frAt H9.out hb5)
        have H115 := Lib.hid (frAt H11.out hb5)
        have HZ5 := Lib.hid (frAt HZ.out hb5)
        have HB5 := Lib.hid (band HB.out hb5)
        clear hb5
        go_wp2_with fail
        refine (HRY.out w5a).mono ?_
        rintro e w6a ⟨rfl, hb6⟩
        obtain ⟨p1, p2, _, _⟩ := fr_cells (frAt H95.out hb6)
        obtain ⟨p3, p4, _, _⟩ := fr_cells (frAt H115.out hb6)
        have HZ6 := Lib.hid (frAt HZ5.out hb6)
        have HB6 := Lib.hid (band HB5.out hb6)
        clear hb6
        go_wp2_with fail
        refine (HAXY.out w6a).mono ?_
        rintro e w7a ⟨rfl, hb7⟩
        obtain ⟨p5, p6, _, _⟩ := fr_cells (frAt (frAt HZ6.out hb7) (below_one w7a (.cells #[.int .i64 A3, .int .i64 (B3 : Int)] 24)))
        have HB7 := Lib.hid (band HB6.out hb7)
        clear hb7
        obtain ⟨wc, hwc⟩ : ∃ wc, wc = w7a.alloc (.cells #[.int .i64 A3, .int .i64 (B3 : Int)] 24) := ⟨_, rfl⟩
        have HQc : Hid (wc.heap[w7a.heap.size]? = some (.cells #[.int .i64 A3, .int .i64 (B3 : Int)] 24)) := by rw [hwc]; exact heap_alloc_new w7a _
        have HBc : Hid (Below w.heap.size w wc) := by rw [hwc]; exact HB7.out.alloc HB7.out.size _
        have HWc := Lib.hid hwc
        clear hwc
        go_wp2_with fail
        rw [← HWc.out]
        refine (HOne.out wc).mono ?_
        rintro e w8a ⟨rfl, hb8⟩
        obtain ⟨p7, p8, p9, p10⟩ := fr_cells (frAt HQc.out hb8)
        have hs8 := hb8.size
        have HB8 := Lib.hid (band HBc.out hb8)
        have hlt8 : w.heap.size ≤ w7a.heap.size := HB7.out.size
        clear hb8
        have HBs : Hid (Below w.heap.size w ((w8a.setCell ⟨w7a.heap.size, 0, none⟩ (.int .i64 1)).setCell ⟨w7a.heap.size, 1, none⟩ (.int .i64 1))) := (HB8.out.setCell (show w.heap.size ≤ w7a.heap.size from hlt8) _).setCell (show w.heap.size ≤ w7a.heap.size from hlt8) _
        go_wp2_with fail
        refine (awake_any _).mono ?_
        rintro e w9a ⟨rfl, hb9⟩
        have HB9 := Lib.hid (band HBs.out hb9)
        clear hb9
        go_wp2
        go_ret
        exact ⟨rfl, HB9.out⟩

theorem race_row (w : World) (a : Option Addr) (n cap : Nat) (z : Nat → Int) (hcap : n ≤ cap) (h8 : n * 8 ≤ 140737488355328) (hz : Ints w a n z) (x : Int) (_ : -9223372036854775808 ≤ x ∧ x ≤ 9223372036854775807) (y : Int) (_ : -9223372036854775808 ≤ y ∧ y ≤ 9223372036854775807) :
    Calls Try.prog 15 #[.slice a n cap, .int .i64 x, .int .i64 y] w fun e w' => SomeB true w e w' := by
  by_cases h : (okS n z x && okS n z y) = true ∧ x ≠ 0 ∧ y ≠ 0
  · have h1 := h.1
    rw [Bool.and_eq_true] at h1
    obtain ⟨t, ht, _⟩ := okS_nat h1.1
    obtain ⟨u, hu, _⟩ := okS_nat h1.2
    subst ht hu
    exact race_good a n cap z t u w h1.1 h1.2 (by omega) (by omega) hcap h8 hz
  · refine race_bad a n cap z x y w ?_ hcap h8 hz
    cases h1 : (okS n z x && okS n z y)
    · exact Or.inl rfl
    · right
      by_cases hx : x = 0
      · exact Or.inl hx
      · by_cases hy : y = 0
        · exact Or.inr hy
        · exact absurd ⟨h1, hx, hy⟩ h
end Go.Proofs.Ytgednacoeifclaa
