import Derived.Test.YtlmjddlpenmpkaaT1
import Derived.Test.YtlmjddlpenmpkaaT3
import Derived.Test.YtlmjddlpenmpkaaL5
import Derived.Test.YtlmjddlpenmpkaaL6
namespace Go.Proofs.Ytlmjddlpenmpkaa
open Go.RowKit Go.Shelf

set_option maxHeartbeats 4000000 in
set_option maxRecDepth 100000 in
theorem twice_bad (a : Option Addr) (n cap : Nat) (z : Nat → Int) (s kind : Int) (w : World) (h : okS n z s = false ∨ 3 < n) (hcap : n ≤ cap) (h8 : n * 8 ≤ 140737488355328) (hz : Ints w a n z) :
    Calls Try.prog 17 #[.slice a n cap, .int .i64 s, .int .i64 kind] w fun e w' => SomeB true w e w' := by
  have H2 : Hid (okS (min n 8) z s = false ∨ 3 < min n 8) := by
    rw [Hid, okS_cut]
    rcases h with h | h
    · exact Or.inl h
    · exact Or.inr (by omega)
  have HL := Lib.hid (fun W (hW : Below w.heap.size w W) => list_any a cap n z W hcap h8 (hz.keep (Nat.le_refl _) hW))
  have HD := Lib.hid (fun a1 c1 W (hI : Ints W a1 (min n 8) z) => fPairs_bad a1 (min n 8) c1 z s W H2.out (by have := Nat.min_le_right n 8; omega) hI)
  clear hz h
  go_enter Try.func17, Try.ntmps17
  go_wp2_with fail
  refine (HL.out w (Below.refl _ _)).mono ?_
  rintro e w1 ⟨a1, c1, rfl, hO, hb⟩
  have HI1 := Lib.hid hO.ints
  clear hO
  have HBw1 := Lib.hid (band (Below.refl _ _) hb)
  clear hb
  go_wp2_with fail
  refine (HD.out a1 c1 w1 HI1.out).mono ?_
  rintro e w2 ⟨rfl, hb⟩
  have HBw2 := Lib.hid (band HBw1.out hb)
  clear hb
  obtain ⟨w3, hw3⟩ : ∃ w3, w3 = w2.alloc (.cells #[.int .i64 0, .int .i64 (0 : Int)] 24) := ⟨_, rfl⟩
  have HQ1 : Hid (w3.heap[w2.heap.size]? = some (.cells #[.int .i64 0, .int .i64 (0 : Int)] 24)) := by rw [hw3]; exact heap_alloc_new w2 _
  have HBw3 : Hid (Below w.heap.size w w3) := by rw [hw3]; exact HBw2.out.alloc (HBw2.out).size _
  have HWw3 := Lib.hid hw3
  clear hw3
  obtain ⟨qa2, qb2, _, _⟩ := fr_cells HQ1.out
  go_wp2_with fail
  rw [← HWw3.out]
  refine (awake_any _).mono ?_
  rintro e w4 ⟨rfl, hb⟩
  clear qa2 qb2
  have HBw4 := Lib.hid (band HBw3.out hb)
  have HQ3 := Lib.hid (frAt HQ1.out hb)
  clear hb
  obtain ⟨qa4, qb4, _, _⟩ := fr_cells HQ3.out
  go_wp2
  go_ret
  exact ⟨rfl, HBw4.out⟩

theorem bit_zero (M y : Nat) (hM : M < 2 ^ 62) : (bits BinOp.and IntKind.i64 ((M : Int) / 2 ^ y) 1 == 0) = !M.testBit y := by
  have e : ((M : Int) / 2 ^ y) = ((M / 2 ^ y : Nat) : Int) := by simp
  have h1 : M / 2 ^ y < 2 ^ 62 := Nat.lt_of_le_of_lt (Nat.div_le_self _ _) hM
  rw [e, show (1 : Int) = ((1 : Nat) : Int) from rfl, band_nat _ 1 h1 (by decide), Nat.and_one_is_mod]
  rw [Nat.testBit, Nat.shiftRight_eq_div_pow, Nat.and_comm, Nat.and_one_is_mod]
  rw [Bool.eq_iff_iff]
  simp
  omega
theorem or_same {s j : Nat} (h : s.testBit j = true) : s ||| 2 ^ j = s := by
  refine Nat.eq_of_testBit_eq fun i => ?_
  rw [Nat.testBit_or, Nat.testBit_two_pow]
  by_cases e : j = i
  · subst e; simp [h]
  · simp [e]

set_option maxHeartbeats 8000000 in
set_option maxRecDepth 100000 in
theorem twice_good (a : Option Addr) (n cap : Nat) (z : Nat → Int) (s : Nat) (kind : Int) (w : World) (h : okS n z s = true) (h3 : n ≤ 3) (hcap : n ≤ cap) (h8 : n * 8 ≤ 140737488355328) (hz : Ints w a n z) (hF : TwF z n) :
    Calls Try.prog 17 #[.slice a n cap, .int .i64 s, .int .i64 kind] w fun e w' => SomeB true w e w' := by
  obtain ⟨t, ht, hs2, h1n, hn6, h9⟩ := okS_nat h
  have ht' : s = t := by omega
  subst ht'
  have hmn : min n 8 = n := by omega
  have hl := fun W (hW : Below w.heap.size w W) => list_any a cap n z W hcap h8 (hz.keep (Nat.le_refl _) hW)
  rw [hmn] at hl
  have HL := Lib.hid hl
  have HRs := Lib.hid (fun W (hW : Below w.heap.size w W) => rset_r true a n cap z s W h (by omega) (hz.keep (Nat.le_refl _) hW))
  have hok : ∀ u : Nat, u < 2 ^ n → okS n z u = true := fun u hu => okS_iff.2 ⟨⟨h1n, hn6, h9⟩, by omega, by
    have e : (2 : Int) ^ n = ((2 ^ n : Nat) : Int) := by simp
    rw [e]; omega⟩
  have hp0 : 0 < 2 ^ n := Nat.pow_pos (by decide)
  have HP : Hid (∀ u : Nat, u < 2 ^ n → ∀ a1 c1 W, Ints W a1 n z → Calls Try.prog 38 #[.slice a1 n c1, .int .i64 u] W fun e w' => FrOut (twX z n u) (twL z n u) W e w') := fun u hu a1 c1 W hI => fPairs_good a1 n c1 z u (twL z n u) W (hok u hu) h3 hI (hF.ok u hu)
  have HP0 : Hid (∀ a1 c1 W, Ints W a1 n z → Calls Try.prog 38 #[.slice a1 n c1, .int .i64 0] W fun e w' => FrOut (twX z n 0) (twL z n 0) W e w') := fun a1 c1 W hI => HP.out 0 hp0 a1 c1 W hI
  have HPm : Hid (∀ a1 c1 W, Ints W a1 n z → Calls Try.prog 18 #[.slice a1 n c1, .int .i64 ((2 ^ n - 1 : Nat) : Int)] W fun e w' => FrOut (twX z n 0) (twL z n 0) W e w') := fun a1 c1 W hI => fMean_good a1 n c1 z (2 ^ n - 1) (twL z n 0) W (hok _ (by omega)) (by omega) hI (hF.ok 0 hp0)
  have HRt : Hid (∀ u : Nat, u < 2 ^ n → ∀ W, Calls Try.prog 44 #[.agg #[.int .i64 (frA (twX z n u) (twL z n u)), .int .i64 (frB (twX z n u) (twL z n u) : Nat)], .int .i64 ((400 : Nat) : Int)] W fun e w' => e = .returned (.bool true) ∧ Below W.heap.size W w') := fun u hu W => by
    have h1 := hF.rt u hu
    exact right_fr _ _ 400 W h1.1 (by omega) (by omega) (by omega) (by omega) (by omega)
  have HGe : Hid (∀ W, Calls Try.prog 45 #[.agg #[.int .i64 (frA (twX z n s) (twL z n s)), .int .i64 (frB (twX z n s) (twL z n s) : Nat)], .agg #[.int .i64 (frA (twX z n 0) (twL z n 0)), .int .i64 (frB (twX z n 0) (twL z n 0) : Nat)]] W fun e w' => e = .returned (.bool false) ∧ Below W.heap.size W w') := fun W => by
    have h1 := hF.rt s hs2
    have h2 := hF.rt 0 hp0
    have hf := rless_fr (twX z n s) (twX z n 0) (twL z n s) (twL z n 0) W h1.1 h2.1 (by omega) (by omega) (by omega) (by omega) (by omega) (by omega)
    rw [hF.ge s hs2] at hf
    exact hf
  have HGt : Hid (∀ j, j < n → s.testBit j = false → s ||| 2 ^ j < 2 ^ n → ∀ W, Calls Try.prog 45 #[.agg #[.int .i64 (frA (twX z n s) (twL z n s)), .int .i64 (frB (twX z n s) (twL z n s) : Nat)], .agg #[.int .i64 (frA (twX z n (s ||| 2 ^ j)) (twL z n (s ||| 2 ^ j))), .int .i64 (frB (twX z n (s ||| 2 ^ j)) (twL z n (s ||| 2 ^ j)) : Nat)]] W fun e w' => e = .returned (.bool true) ∧ Below W.heap.size W w') := fun j hj hb ho W => by
    have h1 := hF.rt s hs2
    have h2 := hF.rt (s ||| 2 ^ j) ho
    have hf := rless_fr (twX z n s) (twX z n (s ||| 2 ^ j)) (twL z n s) (twL z n (s ||| 2 ^ j)) W h1.1 h2.1 (by omega) (by omega) (by omega) (by omega) (by omega) (by omega)
    rw [hF.gt s j hs2 hj hb] at hf
    exact hf
  have G : decide ((3 : Int) < (n : Int)) = false := by simp; omega
  have h3' : ¬ (3 : Int) < (n : Int) := by omega
  have hs62 : s < 2 ^ 62 := Nat.lt_of_lt_of_le (lt64 hs2 hn6) (by decide)
  obtain ⟨j, hj, ej⟩ := u64_mod kind n h1n (by omega)
  have en : IntKind.u64.wrap (n : Int) = (n : Int) := by
    show (n : Int) % 2 ^ 64 = n
    exact Int.emod_eq_of_lt (by omega) (by omega)
  have hnz : ¬ IntKind.u64.wrap (n : Int) = 0 := by rw [en]; omega
  have HKj := Lib.hid ej
  have HMin := Lib.hid (wrap_full hn6)
  have hmf := wrap_full hn6
  have HMin2 : Hid (wrap64 (IntKind.i64.wrap ((2 : Int) ^ n) - 1) = ((2 ^ n - 1 : Nat) : Int)) := by rw [Hid, IntWalk.i64_left]; exact hmf
  have HMin3 : Hid (IntKind.i64.wrap (wrap64 ((2 : Int) ^ n) - 1) = ((2 ^ n - 1 : Nat) : Int)) := by rw [Hid, IntWalk.i64_left]; exact hmf
  have HMin4 : Hid (IntKind.i64.wrap (IntKind.i64.wrap ((2 : Int) ^ n) - 1) = ((2 ^ n - 1 : Nat) : Int)) := by rw [Hid, IntWalk.i64_left, IntWalk.i64_left]; exact hmf
  have HPow : Hid (wrap64 ((2 : Int) ^ j) = ((2 ^ j : Nat) : Int)) := wrap_pow6 (by omega)
  have HPow2 : Hid (IntKind.i64.wrap ((2 : Int) ^ j) = ((2 ^ j : Nat) : Int)) := by rw [Hid, IntWalk.i64_left]; exact HPow.out
  have hj2 : 2 ^ j < 2 ^ n := Nat.pow_lt_pow_right (by decide) hj
  have hor2 := or_lt hs2 hj2
  have HOr := Lib.hid (bor_nat s (2 ^ j) hs62 (Nat.lt_of_lt_of_le (lt64 hj2 hn6) (by decide)))
  have HBit := Lib.hid (bit_at s j hs62)
  have HBz := Lib.hid (bit_zero s j hs62)
  have hj0 : (0 : Int) ≤ (j : Int) := by omega
  clear hl hz h ht h9 hmn hok hF en ej hs62 hmf
  go_enter Try.func17, Try.ntmps17
  go_wp2_with fail
  refine (HL.out w (Below.refl _ _)).mono ?_
  rintro e w1 ⟨a1, c1, rfl, hO, hb⟩
  have HI1 := Lib.hid hO.ints
  clear hO
  have HBw1 := Lib.hid (band (Below.refl _ _) hb)
  clear hb
  go_wp2_with fail
  refine (HP.out s hs2 a1 c1 w1 HI1.out).mono ?_
  rintro e w2 ⟨rfl, hb⟩
  obtain ⟨A1, hA1⟩ : ∃ A1, A1 = frA (twX z n s) (twL z n s) := ⟨_, rfl⟩
  obtain ⟨B1, hB1⟩ : ∃ B1, B1 = frB (twX z n s) (twL z n s) := ⟨_, rfl⟩
  have HNA1 : Hid (frA (twX z n s) (twL z n s) = A1 ∧ frB (twX z n s) (twL z n s) = B1) := ⟨hA1.symm, hB1.symm⟩
  rw [← hA1, ← hB1]
  clear hA1 hB1
  have HBw2 := Lib.hid (band HBw1.out hb)
  clear hb
  obtain ⟨w3, hw3⟩ : ∃ w3, w3 = w2.alloc (.cells #[.int .i64 A1, .int .i64 (B1 : Int)] 24) := ⟨_, rfl⟩
  have HQ1 : Hid (w3.heap[w2.heap.size]? = some (.cells #[.int .i64 A1, .int .i64 (B1 : Int)] 24)) := by rw [hw3]; exact heap_alloc_new w2 _
  have HBw3 : Hid (Below w.heap.size w w3) := by rw [hw3]; exact HBw2.out.alloc (HBw2.out).size _
  have HWw3 := Lib.hid hw3
  clear hw3
  obtain ⟨qa2, qb2, _, _⟩ := fr_cells HQ1.out
  go_wp2_with fail
  rw [← HWw3.out]
  refine (HRs.out w3 HBw3.out).mono ?_
  rintro e w' ⟨rfl, rfl⟩
  go_wp2_with fail
  refine (HL.out w3 HBw3.out).mono ?_
  rintro e w4 ⟨a2, c2, rfl, hO, hb⟩
  have HI2 := Lib.hid hO.ints
  clear hO
  clear qa2 qb2
  have HBw4 := Lib.hid (band HBw3.out hb)
  have HQ3 := Lib.hid (frAt HQ1.out hb)
  clear hb
  obtain ⟨qa4, qb4, _, _⟩ := fr_cells HQ3.out
  go_wp2_with fail
  refine (HP0.out a2 c2 w4 HI2.out).mono ?_
  rintro e w5 ⟨rfl, hb⟩
  obtain ⟨A2, hA2⟩ : ∃ A2, A2 = frA (twX z n 0) (twL z n 0) := ⟨_, rfl⟩
  obtain ⟨B2, hB2⟩ : ∃ B2, B2 = frB (twX z n 0) (twL z n 0) := ⟨_, rfl⟩
  have HNA2 : Hid (frA (twX z n 0) (twL z n 0) = A2 ∧ frB (twX z n 0) (twL z n 0) = B2) := ⟨hA2.symm, hB2.symm⟩
  rw [← hA2, ← hB2]
  clear hA2 hB2
  clear qa4 qb4
  have HBw5 := Lib.hid (band HBw4.out hb)
  have HQ5 := Lib.hid (frAt HQ3.out hb)
  clear hb
  obtain ⟨qa6, qb6, _, _⟩ := fr_cells HQ5.out
  clear qa6 qb6
  obtain ⟨w6, hw6⟩ : ∃ w6, w6 = w5.alloc (.cells #[.int .i64 A2, .int .i64 (B2 : Int)] 24) := ⟨_, rfl⟩
  have HQ7 : Hid (w6.heap[w2.heap.size]? = some (.cells #[.int .i64 A1, .int .i64 (B1 : Int)] 24)) := by rw [hw6]; exact frAt HQ5.out (below_one w5 _)
  have HQ8 : Hid (w6.heap[w5.heap.size]? = some (.cells #[.int .i64 A2, .int .i64 (B2 : Int)] 24)) := by rw [hw6]; exact heap_alloc_new w5 _
  have HBw6 : Hid (Below w.heap.size w w6) := by rw [hw6]; exact HBw5.out.alloc (HBw5.out).size _
  have HWw6 := Lib.hid hw6
  clear hw6
  obtain ⟨qa9, qb9, _, _⟩ := fr_cells HQ7.out
  obtain ⟨qa10, qb10, _, _⟩ := fr_cells HQ8.out
  obtain ⟨qa11, qb11, _, _⟩ := fr_cells (frAt HQ5.out (below_one w5 (.cells #[.int .i64 A2, .int .i64 (B2 : Int)] 24)))
  clear qa9 qb9 qa10 qb10 qa11 qb11
  go_wp2
  rw [← HWw6.out]
  have HL1 := Lib.hid (HL.out w6.drew HBw6.out.drew)
  have HL2 := Lib.hid (HL.out (w6.alloc (.cells #[.int .i64 0, .int .i64 0] 24)).drew (HBw6.out.alloc HBw6.out.size _).drew)
  go_cut [11, 12] (fun s9 s10 wc => ∃ b9, s9 = .pointer (some ⟨b9, 0, none⟩) ∧ s10 = .int .i64 0 ∧ NewFr w6 wc b9 A2 B2)
  case first =>
    go_region_with (first
      | (go_at_call 19; (first | (refine HL1.out.mono ?_; rintro e v5 ⟨a5, c5, rfl, hO, hb5⟩; have HB5 : Hid (Below w6.heap.size w6 v5) := below_drew1 hb5) | (refine HL2.out.mono ?_; rintro e v5 ⟨a5, c5, rfl, hO, hb5⟩; have HB5 : Hid (Below w6.heap.size w6 v5) := below_al1 hb5; have HX5 := Lib.hid (blk_al1 hb5))); have HI5 := Lib.hid hO.ints; clear hO hb5)
      | (go_at_call 18; (first | rw [HMin.out] | rw [HMin2.out] | rw [HMin3.out] | rw [HMin4.out]); (first | (refine (HPm.out a5 c5 v5 HI5.out).mono ?_; rintro e v6 ⟨rfl, hb6⟩; have HB6 : Hid (Below w6.heap.size w6 v6) := HB5.out.trans (hb6.mono HB5.out.size); (first | have HX6 := Lib.hid (frAt HX5.out hb6) | skip)) | (refine (HPm.out a5 c5 (v5.alloc (.cells #[.int .i64 0, .int .i64 0] 24)) (HI5.out.keep (Nat.le_refl _) (below_one _ _))).mono ?_; rintro e v6 ⟨rfl, hb6⟩; have HB6 : Hid (Below w6.heap.size w6 v6) := (HB5.out.alloc HB5.out.size _).trans (hb6.mono (by have := HB5.out.size; simp; omega)); have HX6' := Lib.hid (frAt (heap_alloc_new v5 (.cells #[.int .i64 0, .int .i64 0] 24)) hb6))); rw [HNA2.out.1, HNA2.out.2]; clear hb6; (first | (have hx := fr_cells HX6.out; obtain ⟨x1, x2, x3, x4⟩ := hx) | (have hx := fr_cells HX6'.out; obtain ⟨x1, x2, x3, x4⟩ := hx) | skip)))
    all_goals
      go_wp2
      go_meet
    all_goals (first
      | exact ⟨_, rfl, rfl, newFr_last HB6.out⟩
      | exact ⟨_, rfl, rfl, newFr_set (cs := (_, _)) HX6.out (Nat.le_refl _) HB6.out⟩
      | exact ⟨_, rfl, rfl, newFr_set (cs := (_, _)) HX6'.out HB5.out.size HB6.out⟩)
  case rest =>
    obtain ⟨b9, rfl, rfl, hNew⟩ := hcut
    obtain ⟨h9, lo9, hb9⟩ := hNew
    have HQX := Lib.hid (frAt HQ7.out hb9)
    have HQA := Lib.hid (frAt HQ8.out hb9)
    have HQB := Lib.hid h9
    have HBwc := Lib.hid (band HBw6.out hb9)
    clear h9 hb9 lo9 HL1 HL2
    obtain ⟨qa12, qb12, _, _⟩ := fr_cells HQX.out
    obtain ⟨qa13, qb13, _, _⟩ := fr_cells HQA.out
    obtain ⟨qa14, qb14, _, _⟩ := fr_cells HQB.out
    have hRa := HRt.out 0 hp0
    rw [HNA2.out.1, HNA2.out.2] at hRa
    have hRb := HRt.out s hs2
    rw [HNA1.out.1, HNA1.out.2] at hRb
    have hLa := HGe.out
    rw [HNA1.out.1, HNA1.out.2, HNA2.out.1, HNA2.out.2] at hLa
    have HRa := Lib.hid hRa
    have HRb := Lib.hid hRb
    have HLa := Lib.hid hLa
    clear hRa hRb hLa
    go_wp2_with fail
    refine (HRa.out _).mono ?_
    rintro e w7 ⟨rfl, hb⟩
    clear qa12 qb12 qa13 qb13 qa14 qb14
    have HBw7 := Lib.hid (band HBwc.out hb)
    have HQ15 := Lib.hid (frAt HQX.out hb)
    have HQ16 := Lib.hid (frAt HQA.out hb)
    have HQ17 := Lib.hid (frAt HQB.out hb)
    clear hb
    obtain ⟨qa18, qb18, _, _⟩ := fr_cells HQ15.out
    obtain ⟨qa19, qb19, _, _⟩ := fr_cells HQ16.out
    obtain ⟨qa20, qb20, _, _⟩ := fr_cells HQ17.out
    go_wp2_with fail
    refine (HRb.out _).mono ?_
    rintro e w8 ⟨rfl, hb⟩
    clear qa18 qb18 qa19 qb19 qa20 qb20
    have HBw8 := Lib.hid (band HBw7.out hb)
    have HQ21 := Lib.hid (frAt HQ15.out hb)
    have HQ22 := Lib.hid (frAt HQ16.out hb)
    have HQ23 := Lib.hid (frAt HQ17.out hb)
    clear hb
    obtain ⟨qa24, qb24, _, _⟩ := fr_cells HQ21.out
    obtain ⟨qa25, qb25, _, _⟩ := fr_cells HQ22.out
    obtain ⟨qa26, qb26, _, _⟩ := fr_cells HQ23.out
    go_wp2_with fail
    refine (HLa.out _).mono ?_
    rintro e w9 ⟨rfl, hb⟩
    clear qa24 qb24 qa25 qb25 qa26 qb26
    have HBw9 := Lib.hid (band HBw8.out hb)
    have HQ27 := Lib.hid (frAt HQ21.out hb)
    have HQ28 := Lib.hid (frAt HQ22.out hb)
    have HQ29 := Lib.hid (frAt HQ23.out hb)
    clear hb
    obtain ⟨qa30, qb30, _, _⟩ := fr_cells HQ27.out
    obtain ⟨qa31, qb31, _, _⟩ := fr_cells HQ28.out
    obtain ⟨qa32, qb32, _, _⟩ := fr_cells HQ29.out
    clear qa30 qb30 qa31 qb31 qa32 qb32
    go_wp2
    rw [HKj.out]
    clear HRa HRb HLa HRs HPm HMin HMin2 HMin3 HMin4 HP0
    cases hbit : s.testBit j
    · have HLt := Lib.hid (HGt.out j hj hbit hor2)
      have HB1 := HBit.out
      have HB0 := HBz.out
      rw [hbit] at HB1 HB0
      have hB0 : (bits BinOp.and IntKind.i64 ((s : Int) / 2 ^ j) 1 == 0) = true := HB0
      have hB1 := Lib.hid HB1
      have hBz := Lib.hid hB0
      clear hbit HBit HBz HB1 HB0 hB0
      obtain ⟨A3, hA3⟩ : ∃ A3, A3 = frA (twX z n (s ||| 2 ^ j)) (twL z n (s ||| 2 ^ j)) := ⟨_, rfl⟩
      obtain ⟨B3, hB3⟩ : ∃ B3, B3 = frB (twX z n (s ||| 2 ^ j)) (twL z n (s ||| 2 ^ j)) := ⟨_, rfl⟩
      have HNA3 : Hid (frA (twX z n (s ||| 2 ^ j)) (twL z n (s ||| 2 ^ j)) = A3 ∧ frB (twX z n (s ||| 2 ^ j)) (twL z n (s ||| 2 ^ j)) = B3) := ⟨hA3.symm, hB3.symm⟩
      clear hA3 hB3
      have hLt := HLt.out
      rw [HNA1.out.1, HNA1.out.2, HNA3.out.1, HNA3.out.2] at hLt
      have HLy := Lib.hid hLt
      clear hLt HLt
      have hRc := HRt.out (s ||| 2 ^ j) hor2
      rw [HNA3.out.1, HNA3.out.2] at hRc
      have HRc := Lib.hid hRc
      clear hRc
      have HL1 := Lib.hid (HL.out w9.drew HBw9.out.drew)
      have HL2 := Lib.hid (HL.out (w9.alloc (.cells #[.int .i64 0, .int .i64 0] 24)).drew (HBw9.out.alloc HBw9.out.size _).drew)
      go_cut [8, 13] (fun s10 s9 wd => ∃ bY, s9 = .pointer (some ⟨bY, 0, none⟩) ∧ s10 = .int .i64 0 ∧ NewFr w9 wd bY A3 B3)
      case first =>
        go_region_with (first
          | (go_at_call 19; (first | (refine HL1.out.mono ?_; rintro e v5 ⟨a5, c5, rfl, hO, hb5⟩; have HB5 : Hid (Below w9.heap.size w9 v5) := below_drew1 hb5) | (refine HL2.out.mono ?_; rintro e v5 ⟨a5, c5, rfl, hO, hb5⟩; have HB5 : Hid (Below w9.heap.size w9 v5) := below_al1 hb5; have HX5 := Lib.hid (blk_al1 hb5))); have HI5 := Lib.hid hO.ints; clear hO hb5)
          | (go_at_call 38; (first | rw [HPow.out] | rw [HPow2.out]); rw [HOr.out]; (first | (refine (HP.out (s ||| 2 ^ j) hor2 a5 c5 v5 HI5.out).mono ?_; rintro e v6 ⟨rfl, hb6⟩; have HB6 : Hid (Below w9.heap.size w9 v6) := HB5.out.trans (hb6.mono HB5.out.size); (first | have HX6 := Lib.hid (frAt HX5.out hb6) | skip)) | (refine (HP.out (s ||| 2 ^ j) hor2 a5 c5 (v5.alloc (.cells #[.int .i64 0, .int .i64 0] 24)) (HI5.out.keep (Nat.le_refl _) (below_one _ _))).mono ?_; rintro e v6 ⟨rfl, hb6⟩; have HB6 : Hid (Below w9.heap.size w9 v6) := (HB5.out.alloc HB5.out.size _).trans (hb6.mono (by have := HB5.out.size; simp; omega)); have HX6' := Lib.hid (frAt (heap_alloc_new v5 (.cells #[.int .i64 0, .int .i64 0] 24)) hb6))); rw [HNA3.out.1, HNA3.out.2]; clear hb6; (first | (have hx := fr_cells HX6.out; obtain ⟨x1, x2, x3, x4⟩ := hx) | (have hx := fr_cells HX6'.out; obtain ⟨x1, x2, x3, x4⟩ := hx) | skip)))
        all_goals
          go_wp2
          go_meet
        all_goals (first
          | exact ⟨_, rfl, rfl, newFr_last HB6.out⟩
          | exact ⟨_, rfl, rfl, newFr_set (cs := (_, _)) HX6.out (Nat.le_refl _) HB6.out⟩
          | exact ⟨_, rfl, rfl, newFr_set (cs := (_, _)) HX6'.out HB5.out.size HB6.out⟩)
      case rest =>
        obtain ⟨bY, rfl, rfl, hNew⟩ := hcut
        obtain ⟨h9, lo9, hb9⟩ := hNew
        have HQY0 := Lib.hid (frAt HQ27.out hb9)
        have HQY1 := Lib.hid (frAt HQ28.out hb9)
        have HQY2 := Lib.hid (frAt HQ29.out hb9)
        have HQYy := Lib.hid h9
        have HBwd := Lib.hid (band HBw9.out hb9)
        clear h9 hb9 lo9 HL1 HL2
        have B1f := hB1.out
        have B0f := hBz.out
        obtain ⟨qa33, qb33, _, _⟩ := fr_cells HQY0.out
        obtain ⟨qa34, qb34, _, _⟩ := fr_cells HQY1.out
        obtain ⟨qa35, qb35, _, _⟩ := fr_cells HQY2.out
        obtain ⟨qa36, qb36, _, _⟩ := fr_cells HQYy.out
        go_wp2_with fail
        refine (HRc.out _).mono ?_
        rintro e w10 ⟨rfl, hb⟩
        clear qa33 qb33 qa34 qb34 qa35 qb35 qa36 qb36
        have HBw10 := Lib.hid (band HBwd.out hb)
        have HQ37 := Lib.hid (frAt HQY0.out hb)
        have HQ38 := Lib.hid (frAt HQY1.out hb)
        have HQ39 := Lib.hid (frAt HQY2.out hb)
        have HQ40 := Lib.hid (frAt HQYy.out hb)
        clear hb
        obtain ⟨qa41, qb41, _, _⟩ := fr_cells HQ37.out
        obtain ⟨qa42, qb42, _, _⟩ := fr_cells HQ38.out
        obtain ⟨qa43, qb43, _, _⟩ := fr_cells HQ39.out
        obtain ⟨qa44, qb44, _, _⟩ := fr_cells HQ40.out
        go_wp2_with fail
        refine (HLy.out _).mono ?_
        rintro e w11 ⟨rfl, hb⟩
        clear qa41 qb41 qa42 qb42 qa43 qb43 qa44 qb44
        have HBw11 := Lib.hid (band HBw10.out hb)
        have HQ45 := Lib.hid (frAt HQ37.out hb)
        have HQ46 := Lib.hid (frAt HQ38.out hb)
        have HQ47 := Lib.hid (frAt HQ39.out hb)
        have HQ48 := Lib.hid (frAt HQ40.out hb)
        clear hb
        obtain ⟨qa49, qb49, _, _⟩ := fr_cells HQ45.out
        obtain ⟨qa50, qb50, _, _⟩ := fr_cells HQ46.out
        obtain ⟨qa51, qb51, _, _⟩ := fr_cells HQ47.out
        obtain ⟨qa52, qb52, _, _⟩ := fr_cells HQ48.out
        go_wp2_with fail
        refine (awake_any _).mono ?_
        rintro e w12 ⟨rfl, hb⟩
        clear qa49 qb49 qa50 qb50 qa51 qb51 qa52 qb52
        have HBw12 := Lib.hid (band HBw11.out hb)
        have HQ53 := Lib.hid (frAt HQ45.out hb)
        have HQ54 := Lib.hid (frAt HQ46.out hb)
        have HQ55 := Lib.hid (frAt HQ47.out hb)
        have HQ56 := Lib.hid (frAt HQ48.out hb)
        clear hb
        obtain ⟨qa57, qb57, _, _⟩ := fr_cells HQ53.out
        obtain ⟨qa58, qb58, _, _⟩ := fr_cells HQ54.out
        obtain ⟨qa59, qb59, _, _⟩ := fr_cells HQ55.out
        obtain ⟨qa60, qb60, _, _⟩ := fr_cells HQ56.out
        go_wp2
        go_ret
        exact ⟨rfl, HBw12.out⟩
    · have HSame := Lib.hid (or_same hbit)
      have HB1 := HBit.out
      have HB0 := HBz.out
      rw [hbit] at HB1 HB0
      have hB0 : (bits BinOp.and IntKind.i64 ((s : Int) / 2 ^ j) 1 == 0) = false := HB0
      have hB1 := Lib.hid HB1
      have hBz := Lib.hid hB0
      clear hbit HBit HBz HB1 HB0 hB0
      have hRc := HRt.out s hs2
      rw [HNA1.out.1, HNA1.out.2] at hRc
      have HRc := Lib.hid hRc
      clear hRc
      have HL1 := Lib.hid (HL.out w9.drew HBw9.out.drew)
      have HL2 := Lib.hid (HL.out (w9.alloc (.cells #[.int .i64 0, .int .i64 0] 24)).drew (HBw9.out.alloc HBw9.out.size _).drew)
      go_cut [8, 13] (fun s10 s9 wd => ∃ bY, s9 = .pointer (some ⟨bY, 0, none⟩) ∧ s10 = .int .i64 0 ∧ NewFr w9 wd bY A1 B1)
      case first =>
        go_region_with (first
          | (go_at_call 19; (first | (refine HL1.out.mono ?_; rintro e v5 ⟨a5, c5, rfl, hO, hb5⟩; have HB5 : Hid (Below w9.heap.size w9 v5) := below_drew1 hb5) | (refine HL2.out.mono ?_; rintro e v5 ⟨a5, c5, rfl, hO, hb5⟩; have HB5 : Hid (Below w9.heap.size w9 v5) := below_al1 hb5; have HX5 := Lib.hid (blk_al1 hb5))); have HI5 := Lib.hid hO.ints; clear hO hb5)
          | (go_at_call 38; (first | rw [HPow.out] | rw [HPow2.out]); rw [HOr.out, HSame.out]; (first | (refine (HP.out s hs2 a5 c5 v5 HI5.out).mono ?_; rintro e v6 ⟨rfl, hb6⟩; have HB6 : Hid (Below w9.heap.size w9 v6) := HB5.out.trans (hb6.mono HB5.out.size); (first | have HX6 := Lib.hid (frAt HX5.out hb6) | skip)) | (refine (HP.out s hs2 a5 c5 (v5.alloc (.cells #[.int .i64 0, .int .i64 0] 24)) (HI5.out.keep (Nat.le_refl _) (below_one _ _))).mono ?_; rintro e v6 ⟨rfl, hb6⟩; have HB6 : Hid (Below w9.heap.size w9 v6) := (HB5.out.alloc HB5.out.size _).trans (hb6.mono (by have := HB5.out.size; simp; omega)); have HX6' := Lib.hid (frAt (heap_alloc_new v5 (.cells #[.int .i64 0, .int .i64 0] 24)) hb6))); rw [HNA1.out.1, HNA1.out.2]; clear hb6; (first | (have hx := fr_cells HX6.out; obtain ⟨x1, x2, x3, x4⟩ := hx) | (have hx := fr_cells HX6'.out; obtain ⟨x1, x2, x3, x4⟩ := hx) | skip)))
        all_goals
          go_wp2
          go_meet
        all_goals (first
          | exact ⟨_, rfl, rfl, newFr_last HB6.out⟩
          | exact ⟨_, rfl, rfl, newFr_set (cs := (_, _)) HX6.out (Nat.le_refl _) HB6.out⟩
          | exact ⟨_, rfl, rfl, newFr_set (cs := (_, _)) HX6'.out HB5.out.size HB6.out⟩)
      case rest =>
        obtain ⟨bY, rfl, rfl, hNew⟩ := hcut
        obtain ⟨h9, lo9, hb9⟩ := hNew
        have HQY0 := Lib.hid (frAt HQ27.out hb9)
        have HQY1 := Lib.hid (frAt HQ28.out hb9)
        have HQY2 := Lib.hid (frAt HQ29.out hb9)
        have HQYy := Lib.hid h9
        have HBwd := Lib.hid (band HBw9.out hb9)
        clear h9 hb9 lo9 HL1 HL2
        have B1f := hB1.out
        have B0f := hBz.out
        obtain ⟨qa33, qb33, _, _⟩ := fr_cells HQY0.out
        obtain ⟨qa34, qb34, _, _⟩ := fr_cells HQY1.out
        obtain ⟨qa35, qb35, _, _⟩ := fr_cells HQY2.out
        obtain ⟨qa36, qb36, _, _⟩ := fr_cells HQYy.out
        go_wp2_with fail
        refine (HRc.out _).mono ?_
        rintro e w10 ⟨rfl, hb⟩
        clear qa33 qb33 qa34 qb34 qa35 qb35 qa36 qb36
        have HBw10 := Lib.hid (band HBwd.out hb)
        have HQ37 := Lib.hid (frAt HQY0.out hb)
        have HQ38 := Lib.hid (frAt HQY1.out hb)
        have HQ39 := Lib.hid (frAt HQY2.out hb)
        have HQ40 := Lib.hid (frAt HQYy.out hb)
        clear hb
        obtain ⟨qa41, qb41, _, _⟩ := fr_cells HQ37.out
        obtain ⟨qa42, qb42, _, _⟩ := fr_cells HQ38.out
        obtain ⟨qa43, qb43, _, _⟩ := fr_cells HQ39.out
        obtain ⟨qa44, qb44, _, _⟩ := fr_cells HQ40.out
        go_wp2_with fail
        refine (awake_any _).mono ?_
        rintro e w11 ⟨rfl, hb⟩
        clear qa41 qb41 qa42 qb42 qa43 qb43 qa44 qb44
        have HBw11 := Lib.hid (band HBw10.out hb)
        have HQ45 := Lib.hid (frAt HQ37.out hb)
        have HQ46 := Lib.hid (frAt HQ38.out hb)
        have HQ47 := Lib.hid (frAt HQ39.out hb)
        have HQ48 := Lib.hid (frAt HQ40.out hb)
        clear hb
        obtain ⟨qa49, qb49, _, _⟩ := fr_cells HQ45.out
        obtain ⟨qa50, qb50, _, _⟩ := fr_cells HQ46.out
        obtain ⟨qa51, qb51, _, _⟩ := fr_cells HQ47.out
        obtain ⟨qa52, qb52, _, _⟩ := fr_cells HQ48.out
        go_wp2
        go_ret
        exact ⟨rfl, HBw11.out⟩

theorem twice_row (w : World) (a : Option Addr) (n cap : Nat) (z : Nat → Int) (hcap : n ≤ cap) (h8 : n * 8 ≤ 140737488355328) (hz : Ints w a n z) (s : Int) (_ : -9223372036854775808 ≤ s ∧ s ≤ 9223372036854775807) (kind : Int) (_ : -9223372036854775808 ≤ kind ∧ kind ≤ 9223372036854775807) :
    Calls Try.prog 17 #[.slice a n cap, .int .i64 s, .int .i64 kind] w fun e w' => SomeB true w e w' := by
  by_cases h : okS n z s = true ∧ n ≤ 3
  · have hs := okS_iff.1 h.1
    obtain ⟨u, rfl⟩ : ∃ u : Nat, s = u := ⟨s.toNat, by omega⟩
    obtain ⟨y, hy, hy9, hF⟩ := tw_any hs.1.1 h.2 hs.1.2.2
    refine twice_good a n cap y u kind w (okS_iff.2 ⟨⟨hs.1.1, hs.1.2.1, hy9⟩, hs.2⟩) h.2 hcap h8 (ints_same hz hy) hF
  · refine twice_bad a n cap z s kind w ?_ hcap h8 hz
    cases h1 : okS n z s
    · exact Or.inl rfl
    · by_cases h2 : n ≤ 3
      · exact absurd ⟨h1, h2⟩ h
      · exact Or.inr (by omega)
end Go.Proofs.Ytlmjddlpenmpkaa
