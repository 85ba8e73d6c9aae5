import Derived.Test.YtlmjddlpenmpkaaN2
import Derived.Test.YtlmjddlpenmpkaaL3
namespace Go.Proofs.Ytlmjddlpenmpkaa
open Go.RowKit Go.Shelf

set_option maxHeartbeats 4000000 in
set_option maxRecDepth 100000 in
theorem grow_bad (a : Option Addr) (n cap : Nat) (z : Nat → Int) (s k more : Int) (w : World) (h : okS n z s = false ∨ isNumB k = false) (hcap : n ≤ cap) (h8 : n * 8 ≤ 140737488355328) (hz : Ints w a n z) :
    Calls Try.prog 13 #[.slice a n cap, .int .i64 s, .int .i64 k, .int .i64 more] w fun e w' => SomeB true w e w' := by
  have H2 : Hid (okS (min n 8) z s = false ∨ isNumB k = false) := by rw [Hid, okS_cut]; exact h
  have HL := Lib.hid (fun W (hW : Below w.heap.size w W) => list_any a cap n z W hcap h8 (hz.keep (Nat.le_refl _) hW))
  have HD := Lib.hid (fun a1 c1 W (hI : Ints W a1 (min n 8) z) => fDone_bad a1 (min n 8) c1 z s k W H2.out (by have := Nat.min_le_right n 8; omega) hI)
  clear hz h
  go_enter Try.func13, Try.ntmps13
  go_wp2_with fail
  refine (HL.out w (Below.refl _ _)).mono ?_
  rintro e w1 ⟨a1, c1, rfl, hO, hb⟩
  have HI1 := Lib.hid hO.ints
  clear hO
  have HBw1 := Lib.hid (band (Below.refl _ _) hb)
  clear hb
  go_wp2_with fail
  refine (HD.out a1 c1 w1 HI1.out).mono ?_
  rintro e w2 ⟨rfl, hb⟩
  have HBw2 := Lib.hid (band HBw1.out hb)
  clear hb
  obtain ⟨w3, hw3⟩ : ∃ w3, w3 = w2.alloc (.cells #[.int .i64 0, .int .i64 (0 : Int)] 24) := ⟨_, rfl⟩
  have HQ1 : Hid (w3.heap[w2.heap.size]? = some (.cells #[.int .i64 0, .int .i64 (0 : Int)] 24)) := by rw [hw3]; exact heap_alloc_new w2 _
  have HBw3 : Hid (Below w.heap.size w w3) := by rw [hw3]; exact HBw2.out.alloc (HBw2.out).size _
  have HWw3 := Lib.hid hw3
  clear hw3
  obtain ⟨qa2, qb2, _, _⟩ := fr_cells HQ1.out
  go_wp2_with fail
  rw [← HWw3.out]
  refine (awake_any _).mono ?_
  rintro e w4 ⟨rfl, hb⟩
  clear qa2 qb2
  have HBw4 := Lib.hid (band HBw3.out hb)
  have HQ3 := Lib.hid (frAt HQ1.out hb)
  clear hb
  obtain ⟨qa4, qb4, _, _⟩ := fr_cells HQ3.out
  go_wp2
  go_ret
  exact ⟨rfl, HBw4.out⟩

theorem u64_pow {n : Nat} (hn : n ≤ 6) : IntKind.u64.wrap ((2 : Int) ^ n) = (2 : Int) ^ n := by
  have : n = 0 ∨ n = 1 ∨ n = 2 ∨ n = 3 ∨ n = 4 ∨ n = 5 ∨ n = 6 := by omega
  rcases this with rfl | rfl | rfl | rfl | rfl | rfl | rfl <;> decide +kernel
theorem u64_pos (x : Int) : 0 ≤ IntKind.u64.wrap x := by
  show 0 ≤ x % 2 ^ 64
  exact Int.emod_nonneg _ (by decide)
theorem more_lt {n : Nat} (hn : n ≤ 6) (x : Int) : 0 ≤ wrap64 ((IntKind.u64.wrap x).tmod (IntKind.u64.wrap ((2 : Int) ^ n))) ∧ wrap64 ((IntKind.u64.wrap x).tmod (IntKind.u64.wrap ((2 : Int) ^ n))) < (2 : Int) ^ n := by
  have h0 := u64_pos x
  have hp := pow_6 hn
  have e : (2 : Int) ^ n = ((2 ^ n : Nat) : Int) := by simp
  rw [u64_pow hn, e, Int.tmod_eq_emod_of_nonneg h0]
  have h1 := Int.emod_nonneg (IntKind.u64.wrap x) (show ((2 ^ n : Nat) : Int) ≠ 0 by omega)
  have h2 := Int.emod_lt_of_pos (IntKind.u64.wrap x) (show (0 : Int) < ((2 ^ n : Nat) : Int) by omega)
  rw [IntWalk.wrap64_in _ ⟨by omega, by omega⟩]
  exact ⟨h1, h2⟩
theorem or_lt {s m n : Nat} (hs : s < 2 ^ n) (hm : m < 2 ^ n) : (s ||| m) < 2 ^ n := Nat.or_lt_two_pow hs hm
theorem and_or_self (s m : Nat) : s &&& (s ||| m) = s := by
  refine Nat.eq_of_testBit_eq fun i => ?_
  rw [Nat.testBit_and, Nat.testBit_or]
  cases s.testBit i <;> rfl

set_option maxHeartbeats 8000000 in
set_option maxRecDepth 100000 in
theorem grow_good (a : Option Addr) (n cap : Nat) (z : Nat → Int) (s k : Nat) (more : Int) (w : World) (h : okS n z s = true) (hk : k ≤ 8) (hcap : n ≤ cap) (h8 : n * 8 ≤ 140737488355328) (hz : Ints w a n z) :
    Calls Try.prog 13 #[.slice a n cap, .int .i64 s, .int .i64 k, .int .i64 more] w fun e w' => SomeB true w e w' := by
  obtain ⟨t, ht, hs2, h1n, hn6, h9⟩ := okS_nat h
  have ht' : s = t := by omega
  subst ht'
  have hmn : min n 8 = n := by omega
  have hl := fun W (hW : Below w.heap.size w W) => list_any a cap n z W hcap h8 (hz.keep (Nat.le_refl _) hW)
  rw [hmn] at hl
  have HL := Lib.hid hl
  have HRs := Lib.hid (fun W (hW : Below w.heap.size w W) => rset_r true a n cap z s W h (by omega) (hz.keep (Nat.le_refl _) hW))
  have hok : ∀ u : Nat, u < 2 ^ n → okS n z u = true := fun u hu => okS_iff.2 ⟨⟨h1n, hn6, h9⟩, by omega, by
    have e : (2 : Int) ^ n = ((2 ^ n : Nat) : Int) := by simp
    rw [e]; omega⟩
  have HD : Hid (∀ (u j : Nat), u < 2 ^ n → j ≤ 8 → ∀ a1 c1 W, Ints W a1 n z → Calls Try.prog 26 #[.slice a1 n c1, .int .i64 u, .int .i64 j] W fun e w' => FrOut (doC z (2 ^ n - 1) u j) (LK z n j) W e w') := fun u j hu hj a1 c1 W hI => fDone_good a1 n c1 z u j W (hok u hu) hj (by omega) hI
  have HK : Hid (∀ j : Nat, j ≤ 8 → ∀ a1 c1 W, Ints W a1 n z → Calls Try.prog 30 #[.slice a1 n c1, .int .i64 j] W fun e w' => FrOut (knC z n j) (LK z n j) W e w') := fun j hj a1 c1 W hI => fKinds_good a1 n c1 z j W (isW_iff.2 ⟨h1n, hn6, h9⟩) hj hI
  have hLb : ∀ j, j ≤ 8 → 1 ≤ LK z n j ∧ LK z n j ≤ 72301961339136 := fun j hj => LK_bd h1n hn6 h9 hj
  have hone : ∀ u j, u < 2 ^ n → 0 ≤ doC z (2 ^ n - 1) u j ∧ doC z (2 ^ n - 1) u j ≤ (LK z n j : Nat) := fun u j hu => doC_one hu hn6 h1n h9
  have HR1 : Hid (∀ (u j : Nat), u < 2 ^ n → j ≤ 8 → ∀ W, Calls Try.prog 44 #[.agg #[.int .i64 (frA (doC z (2 ^ n - 1) u j) (LK z n j)), .int .i64 (frB (doC z (2 ^ n - 1) u j) (LK z n j) : Nat)], .int .i64 ((1 : Nat) : Int)] W fun e w' => e = .returned (.bool true) ∧ Below W.heap.size W w') := fun u j hu hj W => by
    have h1 := hLb j hj
    have h2 := hone u j hu
    exact right_fr _ _ 1 W h2.1 h1.1 (by omega) (by omega) (by omega) (by omega)
  have HR6 : Hid (∀ j : Nat, j ≤ 8 → ∀ W, Calls Try.prog 44 #[.agg #[.int .i64 (frA (knC z n j) (LK z n j)), .int .i64 (frB (knC z n j) (LK z n j) : Nat)], .int .i64 ((6 : Nat) : Int)] W fun e w' => e = .returned (.bool true) ∧ Below W.heap.size W w') := fun j hj W => by
    have h1 := hLb j hj
    have h2 := knC_one (z := z) (n := n) (k := j) hn6 h1n h9
    have h3 : (n : Int) * (LK z n j : Nat) ≤ 6 * (LK z n j : Nat) := Int.mul_le_mul_of_nonneg_right (by omega) (by omega)
    exact right_fr _ _ 6 W h2.1 h1.1 (by omega) (by omega) (by omega) (by omega)
  have HLs : Hid (∀ u v j : Nat, u < 2 ^ n → v < 2 ^ n → u &&& v = u → j ≤ 8 → ∀ W, Calls Try.prog 45 #[.agg #[.int .i64 (frA (doC z (2 ^ n - 1) u j) (LK z n j)), .int .i64 (frB (doC z (2 ^ n - 1) u j) (LK z n j) : Nat)], .agg #[.int .i64 (frA (doC z (2 ^ n - 1) v j) (LK z n j)), .int .i64 (frB (doC z (2 ^ n - 1) v j) (LK z n j) : Nat)]] W fun e w' => e = .returned (.bool false) ∧ Below W.heap.size W w') := fun u v j hu hv huv hj W => by
    have h1 := hLb j hj
    have h2 := hone u j hu
    have h3 := hone v j hv
    have hm := doC_more hn6 h9 j v u hv hu huv
    have hf := rless_fr (doC z (2 ^ n - 1) u j) (doC z (2 ^ n - 1) v j) (LK z n j) (LK z n j) W h2.1 h3.1 h1.1 h1.1 (by omega) (by omega) (by omega) (by omega)
    have hd : decide (doC z (2 ^ n - 1) u j * (LK z n j : Nat) < doC z (2 ^ n - 1) v j * (LK z n j : Nat)) = false := by
      rw [decide_eq_false_iff_not]
      have := Int.mul_le_mul_of_nonneg_right hm (show (0 : Int) ≤ (LK z n j : Nat) by omega)
      omega
    rw [hd] at hf
    exact hf
  have HLk : Hid (∀ j : Nat, j + 1 ≤ 8 → ∀ W, Calls Try.prog 45 #[.agg #[.int .i64 (frA (doC z (2 ^ n - 1) s (j + 1)) (LK z n (j + 1))), .int .i64 (frB (doC z (2 ^ n - 1) s (j + 1)) (LK z n (j + 1)) : Nat)], .agg #[.int .i64 (frA (doC z (2 ^ n - 1) s j) (LK z n j)), .int .i64 (frB (doC z (2 ^ n - 1) s j) (LK z n j) : Nat)]] W fun e w' => e = .returned (.bool false) ∧ Below W.heap.size W w') := fun j hj W => by
    have h1 := hLb j (by omega)
    have h1' := hLb (j + 1) hj
    have h2 := hone s j hs2
    have h3 := hone s (j + 1) hs2
    have hf := rless_fr (doC z (2 ^ n - 1) s (j + 1)) (doC z (2 ^ n - 1) s j) (LK z n (j + 1)) (LK z n j) W h3.1 h2.1 h1'.1 h1.1 (by omega) (by omega) (by omega) (by omega)
    rw [no_less (doC_later hs2 hn6 h9) (LK_succ hn6 h1n h9)] at hf
    exact hf
  have HLn : Hid (∀ j : Nat, j + 1 ≤ 8 → ∀ W, Calls Try.prog 45 #[.agg #[.int .i64 (frA (knC z n (j + 1)) (LK z n (j + 1))), .int .i64 (frB (knC z n (j + 1)) (LK z n (j + 1)) : Nat)], .agg #[.int .i64 (frA (knC z n j) (LK z n j)), .int .i64 (frB (knC z n j) (LK z n j) : Nat)]] W fun e w' => e = .returned (.bool false) ∧ Below W.heap.size W w') := fun j hj W => by
    have h1 := hLb j (by omega)
    have h1' := hLb (j + 1) hj
    have h2 := knC_one (z := z) (n := n) (k := j) hn6 h1n h9
    have h3 := knC_one (z := z) (n := n) (k := j + 1) hn6 h1n h9
    have h4 : (n : Int) * (LK z n j : Nat) ≤ 6 * (LK z n j : Nat) := Int.mul_le_mul_of_nonneg_right (by omega) (by omega)
    have h5 : (n : Int) * (LK z n (j + 1) : Nat) ≤ 6 * (LK z n (j + 1) : Nat) := Int.mul_le_mul_of_nonneg_right (by omega) (by omega)
    have hf := rless_fr (knC z n (j + 1)) (knC z n j) (LK z n (j + 1)) (LK z n j) W h3.1 h2.1 h1'.1 h1.1 (by omega) (by omega) (by omega) (by omega)
    rw [no_less (knC_later hn6 h9) (LK_succ hn6 h1n h9)] at hf
    exact hf
  have hk0 : (0 : Int) ≤ (k : Int) := by omega
  have hk8 : (k : Int) ≤ 8 := by omega
  have G : decide ((8 : Int) < (k : Int)) = false := by simp; omega
  have hs62 : s < 2 ^ 62 := Nat.lt_of_lt_of_le (lt64 hs2 hn6) (by decide)
  have hmod := more_lt hn6 more
  obtain ⟨m, hm⟩ : ∃ m : Nat, wrap64 ((IntKind.u64.wrap more).tmod (IntKind.u64.wrap ((2 : Int) ^ n))) = (m : Int) := ⟨(wrap64 ((IntKind.u64.wrap more).tmod (IntKind.u64.wrap ((2 : Int) ^ n)))).toNat, by omega⟩
  have hm2 : m < 2 ^ n := by
    have e : (2 : Int) ^ n = ((2 ^ n : Nat) : Int) := by simp
    rw [hm] at hmod
    have h2 := hmod.2
    rw [e] at h2; omega
  have HM := Lib.hid hm
  have hm62 : m < 2 ^ 62 := Nat.lt_of_lt_of_le (lt64 hm2 hn6) (by decide)
  have hor := bor_nat s m hs62 hm62
  have hor2 := or_lt hs2 hm2
  have hand := and_or_self s m
  have hu0 : ¬ IntKind.u64.wrap ((2 : Int) ^ n) = 0 := by
    rw [u64_pow hn6]
    have := Int.pow_pos (n := 2) (m := n) (by omega)
    omega
  have HOr := Lib.hid hor
  have HAnd := Lib.hid hand
  clear hl hz h ht h9 hmn hm hmod hor hand hok hLb hone hs62 hm62
  go_enter Try.func13, Try.ntmps13
  go_wp2_with fail
  refine (HL.out w (Below.refl _ _)).mono ?_
  rintro e w1 ⟨a1, c1, rfl, hO, hb⟩
  have HI1 := Lib.hid hO.ints
  clear hO
  have HBw1 := Lib.hid (band (Below.refl _ _) hb)
  clear hb
  go_wp2_with fail
  refine (HD.out s k hs2 hk a1 c1 w1 HI1.out).mono ?_
  rintro e w2 ⟨rfl, hb⟩
  obtain ⟨A1, hA1⟩ : ∃ A1, A1 = frA (doC z (2 ^ n - 1) s k) (LK z n k) := ⟨_, rfl⟩
  obtain ⟨B1, hB1⟩ : ∃ B1, B1 = frB (doC z (2 ^ n - 1) s k) (LK z n k) := ⟨_, rfl⟩
  have HNA1 : Hid (frA (doC z (2 ^ n - 1) s k) (LK z n k) = A1 ∧ frB (doC z (2 ^ n - 1) s k) (LK z n k) = B1) := ⟨hA1.symm, hB1.symm⟩
  rw [← hA1, ← hB1]
  clear hA1 hB1
  have HBw2 := Lib.hid (band HBw1.out hb)
  clear hb
  obtain ⟨w3, hw3⟩ : ∃ w3, w3 = w2.alloc (.cells #[.int .i64 A1, .int .i64 (B1 : Int)] 24) := ⟨_, rfl⟩
  have HQ1 : Hid (w3.heap[w2.heap.size]? = some (.cells #[.int .i64 A1, .int .i64 (B1 : Int)] 24)) := by rw [hw3]; exact heap_alloc_new w2 _
  have HBw3 : Hid (Below w.heap.size w w3) := by rw [hw3]; exact HBw2.out.alloc (HBw2.out).size _
  have HWw3 := Lib.hid hw3
  clear hw3
  obtain ⟨qa2, qb2, _, _⟩ := fr_cells HQ1.out
  go_wp2_with fail
  rw [← HWw3.out]
  refine (HRs.out w3 HBw3.out).mono ?_
  rintro e w' ⟨rfl, rfl⟩
  go_wp2_with fail
  rw [HM.out]
  refine (HL.out w3 HBw3.out).mono ?_
  rintro e w90 ⟨a2, c2, rfl, hO, hb⟩
  have HI2 := Lib.hid hO.ints
  clear hO
  clear qa2 qb2
  have HBw90 := Lib.hid (band HBw3.out hb)
  have HQ3 := Lib.hid (frAt HQ1.out hb)
  clear hb
  obtain ⟨qa4, qb4, _, _⟩ := fr_cells HQ3.out
  go_wp2_with fail
  rw [HOr.out]
  refine (HD.out (s ||| m) k hor2 hk a2 c2 w90 HI2.out).mono ?_
  rintro e w4 ⟨rfl, hb⟩
  obtain ⟨A2, hA2⟩ : ∃ A2, A2 = frA (doC z (2 ^ n - 1) (s ||| m) k) (LK z n k) := ⟨_, rfl⟩
  obtain ⟨B2, hB2⟩ : ∃ B2, B2 = frB (doC z (2 ^ n - 1) (s ||| m) k) (LK z n k) := ⟨_, rfl⟩
  have HNA2 : Hid (frA (doC z (2 ^ n - 1) (s ||| m) k) (LK z n k) = A2 ∧ frB (doC z (2 ^ n - 1) (s ||| m) k) (LK z n k) = B2) := ⟨hA2.symm, hB2.symm⟩
  rw [← hA2, ← hB2]
  clear hA2 hB2
  clear qa4 qb4
  have HBw4 := Lib.hid (band HBw90.out hb)
  have HQ5 := Lib.hid (frAt HQ3.out hb)
  clear hb
  obtain ⟨qa6, qb6, _, _⟩ := fr_cells HQ5.out
  clear qa6 qb6
  obtain ⟨w5, hw5⟩ : ∃ w5, w5 = w4.alloc (.cells #[.int .i64 A2, .int .i64 (B2 : Int)] 24) := ⟨_, rfl⟩
  have HQ7 : Hid (w5.heap[w2.heap.size]? = some (.cells #[.int .i64 A1, .int .i64 (B1 : Int)] 24)) := by rw [hw5]; exact frAt HQ5.out (below_one w4 _)
  have HQ8 : Hid (w5.heap[w4.heap.size]? = some (.cells #[.int .i64 A2, .int .i64 (B2 : Int)] 24)) := by rw [hw5]; exact heap_alloc_new w4 _
  have HBw5 : Hid (Below w.heap.size w w5) := by rw [hw5]; exact HBw4.out.alloc (HBw4.out).size _
  have HWw5 := Lib.hid hw5
  clear hw5
  obtain ⟨qa9, qb9, _, _⟩ := fr_cells HQ7.out
  obtain ⟨qa10, qb10, _, _⟩ := fr_cells HQ8.out
  obtain ⟨qa11, qb11, _, _⟩ := fr_cells (frAt HQ5.out (below_one w4 (.cells #[.int .i64 A2, .int .i64 (B2 : Int)] 24)))
  have HR1a := HR1.out s k hs2 hk
  rw [HNA1.out.1, HNA1.out.2] at HR1a
  have HR1b := HR1.out (s ||| m) k hor2 hk
  rw [HNA2.out.1, HNA2.out.2] at HR1b
  have HLsa := HLs.out s (s ||| m) k hs2 hor2 HAnd.out hk
  rw [HNA1.out.1, HNA1.out.2, HNA2.out.1, HNA2.out.2] at HLsa
  have HRa := Lib.hid HR1a
  have HRb := Lib.hid HR1b
  have HLa := Lib.hid HLsa
  clear HR1a HR1b HLsa
  go_wp2_with fail
  rw [← HWw5.out]
  refine (HRa.out _).mono ?_
  rintro e w6 ⟨rfl, hb⟩
  clear qa9 qb9 qa10 qb10 qa11 qb11
  have HBw6 := Lib.hid (band HBw5.out hb)
  have HQ12 := Lib.hid (frAt HQ7.out hb)
  have HQ13 := Lib.hid (frAt HQ8.out hb)
  clear hb
  obtain ⟨qa14, qb14, _, _⟩ := fr_cells HQ12.out
  obtain ⟨qa15, qb15, _, _⟩ := fr_cells HQ13.out
  go_wp2_with fail
  refine (HRb.out _).mono ?_
  rintro e w7 ⟨rfl, hb⟩
  clear qa14 qb14 qa15 qb15
  have HBw7 := Lib.hid (band HBw6.out hb)
  have HQ16 := Lib.hid (frAt HQ12.out hb)
  have HQ17 := Lib.hid (frAt HQ13.out hb)
  clear hb
  obtain ⟨qa18, qb18, _, _⟩ := fr_cells HQ16.out
  obtain ⟨qa19, qb19, _, _⟩ := fr_cells HQ17.out
  go_wp2_with fail
  refine (HLa.out _).mono ?_
  rintro e w8 ⟨rfl, hb⟩
  clear qa18 qb18 qa19 qb19
  have HBw8 := Lib.hid (band HBw7.out hb)
  have HQ20 := Lib.hid (frAt HQ16.out hb)
  have HQ21 := Lib.hid (frAt HQ17.out hb)
  clear hb
  obtain ⟨qa22, qb22, _, _⟩ := fr_cells HQ20.out
  obtain ⟨qa23, qb23, _, _⟩ := fr_cells HQ21.out
  by_cases hk8' : k = 8
  · have G8 : ((k : Int) == 8) = true := by simp; omega
    clear hk8'
    go_wp2_with fail
    refine (awake_any _).mono ?_
    rintro e w9 ⟨rfl, hb⟩
    clear qa22 qb22 qa23 qb23
    have HBw9 := Lib.hid (band HBw8.out hb)
    have HQ24 := Lib.hid (frAt HQ20.out hb)
    have HQ25 := Lib.hid (frAt HQ21.out hb)
    clear hb
    obtain ⟨qa26, qb26, _, _⟩ := fr_cells HQ24.out
    obtain ⟨qa27, qb27, _, _⟩ := fr_cells HQ25.out
    go_wp2
    go_ret
    exact ⟨rfl, HBw9.out⟩
  · have G8 : ((k : Int) == 8) = false := by simp; omega
    have hk7 : k + 1 ≤ 8 := by omega
    clear hk8'
    go_wp2_with fail
    refine (HL.out w8 HBw8.out).mono ?_
    rintro e w9 ⟨a3, c3, rfl, hO, hb⟩
    have HI3 := Lib.hid hO.ints
    clear hO
    clear qa22 qb22 qa23 qb23
    have HBw9 := Lib.hid (band HBw8.out hb)
    have HQ24 := Lib.hid (frAt HQ20.out hb)
    have HQ25 := Lib.hid (frAt HQ21.out hb)
    clear hb
    obtain ⟨qa26, qb26, _, _⟩ := fr_cells HQ24.out
    obtain ⟨qa27, qb27, _, _⟩ := fr_cells HQ25.out
    go_wp2_with fail
    rw [show ((k : Int) + 1) = ((k + 1 : Nat) : Int) by omega]
    refine (HD.out s (k + 1) hs2 hk7 a3 c3 w9 HI3.out).mono ?_
    rintro e w10 ⟨rfl, hb⟩
    obtain ⟨A3, hA3⟩ : ∃ A3, A3 = frA (doC z (2 ^ n - 1) s (k + 1)) (LK z n (k + 1)) := ⟨_, rfl⟩
    obtain ⟨B3, hB3⟩ : ∃ B3, B3 = frB (doC z (2 ^ n - 1) s (k + 1)) (LK z n (k + 1)) := ⟨_, rfl⟩
    have HNA3 : Hid (frA (doC z (2 ^ n - 1) s (k + 1)) (LK z n (k + 1)) = A3 ∧ frB (doC z (2 ^ n - 1) s (k + 1)) (LK z n (k + 1)) = B3) := ⟨hA3.symm, hB3.symm⟩
    rw [← hA3, ← hB3]
    clear hA3 hB3
    clear qa26 qb26 qa27 qb27
    have HBw10 := Lib.hid (band HBw9.out hb)
    have HQ28 := Lib.hid (frAt HQ24.out hb)
    have HQ29 := Lib.hid (frAt HQ25.out hb)
    clear hb
    obtain ⟨qa30, qb30, _, _⟩ := fr_cells HQ28.out
    obtain ⟨qa31, qb31, _, _⟩ := fr_cells HQ29.out
    clear qa30 qb30 qa31 qb31
    obtain ⟨w11, hw11⟩ : ∃ w11, w11 = w10.alloc (.cells #[.int .i64 A3, .int .i64 (B3 : Int)] 24) := ⟨_, rfl⟩
    have HQ32 : Hid (w11.heap[w2.heap.size]? = some (.cells #[.int .i64 A1, .int .i64 (B1 : Int)] 24)) := by rw [hw11]; exact frAt HQ28.out (below_one w10 _)
    have HQ33 : Hid (w11.heap[w4.heap.size]? = some (.cells #[.int .i64 A2, .int .i64 (B2 : Int)] 24)) := by rw [hw11]; exact frAt HQ29.out (below_one w10 _)
    have HQ34 : Hid (w11.heap[w10.heap.size]? = some (.cells #[.int .i64 A3, .int .i64 (B3 : Int)] 24)) := by rw [hw11]; exact heap_alloc_new w10 _
    have HBw11 : Hid (Below w.heap.size w w11) := by rw [hw11]; exact HBw10.out.alloc (HBw10.out).size _
    have HWw11 := Lib.hid hw11
    clear hw11
    obtain ⟨qa35, qb35, _, _⟩ := fr_cells HQ32.out
    obtain ⟨qa36, qb36, _, _⟩ := fr_cells HQ33.out
    obtain ⟨qa37, qb37, _, _⟩ := fr_cells HQ34.out
    obtain ⟨qa38, qb38, _, _⟩ := fr_cells (frAt HQ28.out (below_one w10 (.cells #[.int .i64 A3, .int .i64 (B3 : Int)] 24)))
    obtain ⟨qa39, qb39, _, _⟩ := fr_cells (frAt HQ29.out (below_one w10 (.cells #[.int .i64 A3, .int .i64 (B3 : Int)] 24)))
    go_wp2_with fail
    rw [← HWw11.out]
    refine (HL.out w11 HBw11.out).mono ?_
    rintro e w12 ⟨a4, c4, rfl, hO, hb⟩
    have HI4 := Lib.hid hO.ints
    clear hO
    clear qa35 qb35 qa36 qb36 qa37 qb37 qa38 qb38 qa39 qb39
    have HBw12 := Lib.hid (band HBw11.out hb)
    have HQ40 := Lib.hid (frAt HQ32.out hb)
    have HQ41 := Lib.hid (frAt HQ33.out hb)
    have HQ42 := Lib.hid (frAt HQ34.out hb)
    clear hb
    obtain ⟨qa43, qb43, _, _⟩ := fr_cells HQ40.out
    obtain ⟨qa44, qb44, _, _⟩ := fr_cells HQ41.out
    obtain ⟨qa45, qb45, _, _⟩ := fr_cells HQ42.out
    go_wp2_with fail
    refine (HK.out k hk a4 c4 w12 HI4.out).mono ?_
    rintro e w13 ⟨rfl, hb⟩
    obtain ⟨A4, hA4⟩ : ∃ A4, A4 = frA (knC z n k) (LK z n k) := ⟨_, rfl⟩
    obtain ⟨B4, hB4⟩ : ∃ B4, B4 = frB (knC z n k) (LK z n k) := ⟨_, rfl⟩
    have HNA4 : Hid (frA (knC z n k) (LK z n k) = A4 ∧ frB (knC z n k) (LK z n k) = B4) := ⟨hA4.symm, hB4.symm⟩
    rw [← hA4, ← hB4]
    clear hA4 hB4
    clear qa43 qb43 qa44 qb44 qa45 qb45
    have HBw13 := Lib.hid (band HBw12.out hb)
    have HQ46 := Lib.hid (frAt HQ40.out hb)
    have HQ47 := Lib.hid (frAt HQ41.out hb)
    have HQ48 := Lib.hid (frAt HQ42.out hb)
    clear hb
    obtain ⟨qa49, qb49, _, _⟩ := fr_cells HQ46.out
    obtain ⟨qa50, qb50, _, _⟩ := fr_cells HQ47.out
    obtain ⟨qa51, qb51, _, _⟩ := fr_cells HQ48.out
    clear qa49 qb49 qa50 qb50 qa51 qb51
    obtain ⟨w14, hw14⟩ : ∃ w14, w14 = w13.alloc (.cells #[.int .i64 A4, .int .i64 (B4 : Int)] 24) := ⟨_, rfl⟩
    have HQ52 : Hid (w14.heap[w2.heap.size]? = some (.cells #[.int .i64 A1, .int .i64 (B1 : Int)] 24)) := by rw [hw14]; exact frAt HQ46.out (below_one w13 _)
    have HQ53 : Hid (w14.heap[w4.heap.size]? = some (.cells #[.int .i64 A2, .int .i64 (B2 : Int)] 24)) := by rw [hw14]; exact frAt HQ47.out (below_one w13 _)
    have HQ54 : Hid (w14.heap[w10.heap.size]? = some (.cells #[.int .i64 A3, .int .i64 (B3 : Int)] 24)) := by rw [hw14]; exact frAt HQ48.out (below_one w13 _)
    have HQ55 : Hid (w14.heap[w13.heap.size]? = some (.cells #[.int .i64 A4, .int .i64 (B4 : Int)] 24)) := by rw [hw14]; exact heap_alloc_new w13 _
    have HBw14 : Hid (Below w.heap.size w w14) := by rw [hw14]; exact HBw13.out.alloc (HBw13.out).size _
    have HWw14 := Lib.hid hw14
    clear hw14
    obtain ⟨qa56, qb56, _, _⟩ := fr_cells HQ52.out
    obtain ⟨qa57, qb57, _, _⟩ := fr_cells HQ53.out
    obtain ⟨qa58, qb58, _, _⟩ := fr_cells HQ54.out
    obtain ⟨qa59, qb59, _, _⟩ := fr_cells HQ55.out
    obtain ⟨qa60, qb60, _, _⟩ := fr_cells (frAt HQ46.out (below_one w13 (.cells #[.int .i64 A4, .int .i64 (B4 : Int)] 24)))
    obtain ⟨qa61, qb61, _, _⟩ := fr_cells (frAt HQ47.out (below_one w13 (.cells #[.int .i64 A4, .int .i64 (B4 : Int)] 24)))
    obtain ⟨qa62, qb62, _, _⟩ := fr_cells (frAt HQ48.out (below_one w13 (.cells #[.int .i64 A4, .int .i64 (B4 : Int)] 24)))
    go_wp2_with fail
    rw [← HWw14.out]
    refine (HL.out w14 HBw14.out).mono ?_
    rintro e w15 ⟨a5, c5, rfl, hO, hb⟩
    have HI5 := Lib.hid hO.ints
    clear hO
    clear qa56 qb56 qa57 qb57 qa58 qb58 qa59 qb59 qa60 qb60 qa61 qb61 qa62 qb62
    have HBw15 := Lib.hid (band HBw14.out hb)
    have HQ63 := Lib.hid (frAt HQ52.out hb)
    have HQ64 := Lib.hid (frAt HQ53.out hb)
    have HQ65 := Lib.hid (frAt HQ54.out hb)
    have HQ66 := Lib.hid (frAt HQ55.out hb)
    clear hb
    obtain ⟨qa67, qb67, _, _⟩ := fr_cells HQ63.out
    obtain ⟨qa68, qb68, _, _⟩ := fr_cells HQ64.out
    obtain ⟨qa69, qb69, _, _⟩ := fr_cells HQ65.out
    obtain ⟨qa70, qb70, _, _⟩ := fr_cells HQ66.out
    go_wp2_with fail
    rw [show ((k : Int) + 1) = ((k + 1 : Nat) : Int) by omega]
    refine (HK.out (k + 1) hk7 a5 c5 w15 HI5.out).mono ?_
    rintro e w16 ⟨rfl, hb⟩
    obtain ⟨A5, hA5⟩ : ∃ A5, A5 = frA (knC z n (k + 1)) (LK z n (k + 1)) := ⟨_, rfl⟩
    obtain ⟨B5, hB5⟩ : ∃ B5, B5 = frB (knC z n (k + 1)) (LK z n (k + 1)) := ⟨_, rfl⟩
    have HNA5 : Hid (frA (knC z n (k + 1)) (LK z n (k + 1)) = A5 ∧ frB (knC z n (k + 1)) (LK z n (k + 1)) = B5) := ⟨hA5.symm, hB5.symm⟩
    rw [← hA5, ← hB5]
    clear hA5 hB5
    clear qa67 qb67 qa68 qb68 qa69 qb69 qa70 qb70
    have HBw16 := Lib.hid (band HBw15.out hb)
    have HQ71 := Lib.hid (frAt HQ63.out hb)
    have HQ72 := Lib.hid (frAt HQ64.out hb)
    have HQ73 := Lib.hid (frAt HQ65.out hb)
    have HQ74 := Lib.hid (frAt HQ66.out hb)
    clear hb
    obtain ⟨qa75, qb75, _, _⟩ := fr_cells HQ71.out
    obtain ⟨qa76, qb76, _, _⟩ := fr_cells HQ72.out
    obtain ⟨qa77, qb77, _, _⟩ := fr_cells HQ73.out
    obtain ⟨qa78, qb78, _, _⟩ := fr_cells HQ74.out
    clear qa75 qb75 qa76 qb76 qa77 qb77 qa78 qb78
    obtain ⟨w17, hw17⟩ : ∃ w17, w17 = w16.alloc (.cells #[.int .i64 A5, .int .i64 (B5 : Int)] 24) := ⟨_, rfl⟩
    have HQ79 : Hid (w17.heap[w2.heap.size]? = some (.cells #[.int .i64 A1, .int .i64 (B1 : Int)] 24)) := by rw [hw17]; exact frAt HQ71.out (below_one w16 _)
    have HQ80 : Hid (w17.heap[w4.heap.size]? = some (.cells #[.int .i64 A2, .int .i64 (B2 : Int)] 24)) := by rw [hw17]; exact frAt HQ72.out (below_one w16 _)
    have HQ81 : Hid (w17.heap[w10.heap.size]? = some (.cells #[.int .i64 A3, .int .i64 (B3 : Int)] 24)) := by rw [hw17]; exact frAt HQ73.out (below_one w16 _)
    have HQ82 : Hid (w17.heap[w13.heap.size]? = some (.cells #[.int .i64 A4, .int .i64 (B4 : Int)] 24)) := by rw [hw17]; exact frAt HQ74.out (below_one w16 _)
    have HQ83 : Hid (w17.heap[w16.heap.size]? = some (.cells #[.int .i64 A5, .int .i64 (B5 : Int)] 24)) := by rw [hw17]; exact heap_alloc_new w16 _
    have HBw17 : Hid (Below w.heap.size w w17) := by rw [hw17]; exact HBw16.out.alloc (HBw16.out).size _
    have HWw17 := Lib.hid hw17
    clear hw17
    obtain ⟨qa84, qb84, _, _⟩ := fr_cells HQ79.out
    obtain ⟨qa85, qb85, _, _⟩ := fr_cells HQ80.out
    obtain ⟨qa86, qb86, _, _⟩ := fr_cells HQ81.out
    obtain ⟨qa87, qb87, _, _⟩ := fr_cells HQ82.out
    obtain ⟨qa88, qb88, _, _⟩ := fr_cells HQ83.out
    obtain ⟨qa89, qb89, _, _⟩ := fr_cells (frAt HQ71.out (below_one w16 (.cells #[.int .i64 A5, .int .i64 (B5 : Int)] 24)))
    obtain ⟨qa90, qb90, _, _⟩ := fr_cells (frAt HQ72.out (below_one w16 (.cells #[.int .i64 A5, .int .i64 (B5 : Int)] 24)))
    obtain ⟨qa91, qb91, _, _⟩ := fr_cells (frAt HQ73.out (below_one w16 (.cells #[.int .i64 A5, .int .i64 (B5 : Int)] 24)))
    obtain ⟨qa92, qb92, _, _⟩ := fr_cells (frAt HQ74.out (below_one w16 (.cells #[.int .i64 A5, .int .i64 (B5 : Int)] 24)))
    have hRa := HR1.out s (k + 1) hs2 hk7
    have hRb := HR6.out k hk
    have hRc := HR6.out (k + 1) hk7
    have hLa := HLk.out k hk7
    have hLb := HLn.out k hk7
    rw [HNA3.out.1, HNA3.out.2] at hRa
    rw [HNA4.out.1, HNA4.out.2] at hRb
    rw [HNA5.out.1, HNA5.out.2] at hRc
    rw [HNA3.out.1, HNA3.out.2, HNA1.out.1, HNA1.out.2] at hLa
    rw [HNA5.out.1, HNA5.out.2, HNA4.out.1, HNA4.out.2] at hLb
    have HHRa := Lib.hid hRa
    have HHRb := Lib.hid hRb
    have HHRc := Lib.hid hRc
    have HHLa := Lib.hid hLa
    have HHLb := Lib.hid hLb
    clear hRa hRb hRc hLa hLb
    go_wp2_with fail
    rw [← HWw17.out]
    refine (HHRa.out _).mono ?_
    rintro e w18 ⟨rfl, hb⟩
    clear qa84 qb84 qa85 qb85 qa86 qb86 qa87 qb87 qa88 qb88 qa89 qb89 qa90 qb90 qa91 qb91 qa92 qb92
    have HBw18 := Lib.hid (band HBw17.out hb)
    have HQ93 := Lib.hid (frAt HQ79.out hb)
    have HQ94 := Lib.hid (frAt HQ80.out hb)
    have HQ95 := Lib.hid (frAt HQ81.out hb)
    have HQ96 := Lib.hid (frAt HQ82.out hb)
    have HQ97 := Lib.hid (frAt HQ83.out hb)
    clear hb
    obtain ⟨qa98, qb98, _, _⟩ := fr_cells HQ93.out
    obtain ⟨qa99, qb99, _, _⟩ := fr_cells HQ94.out
    obtain ⟨qa100, qb100, _, _⟩ := fr_cells HQ95.out
    obtain ⟨qa101, qb101, _, _⟩ := fr_cells HQ96.out
    obtain ⟨qa102, qb102, _, _⟩ := fr_cells HQ97.out
    go_wp2_with fail
    refine (HHRb.out _).mono ?_
    rintro e w19 ⟨rfl, hb⟩
    clear qa98 qb98 qa99 qb99 qa100 qb100 qa101 qb101 qa102 qb102
    have HBw19 := Lib.hid (band HBw18.out hb)
    have HQ103 := Lib.hid (frAt HQ93.out hb)
    have HQ104 := Lib.hid (frAt HQ94.out hb)
    have HQ105 := Lib.hid (frAt HQ95.out hb)
    have HQ106 := Lib.hid (frAt HQ96.out hb)
    have HQ107 := Lib.hid (frAt HQ97.out hb)
    clear hb
    obtain ⟨qa108, qb108, _, _⟩ := fr_cells HQ103.out
    obtain ⟨qa109, qb109, _, _⟩ := fr_cells HQ104.out
    obtain ⟨qa110, qb110, _, _⟩ := fr_cells HQ105.out
    obtain ⟨qa111, qb111, _, _⟩ := fr_cells HQ106.out
    obtain ⟨qa112, qb112, _, _⟩ := fr_cells HQ107.out
    go_wp2_with fail
    refine (HHRc.out _).mono ?_
    rintro e w20 ⟨rfl, hb⟩
    clear qa108 qb108 qa109 qb109 qa110 qb110 qa111 qb111 qa112 qb112
    have HBw20 := Lib.hid (band HBw19.out hb)
    have HQ113 := Lib.hid (frAt HQ103.out hb)
    have HQ114 := Lib.hid (frAt HQ104.out hb)
    have HQ115 := Lib.hid (frAt HQ105.out hb)
    have HQ116 := Lib.hid (frAt HQ106.out hb)
    have HQ117 := Lib.hid (frAt HQ107.out hb)
    clear hb
    obtain ⟨qa118, qb118, _, _⟩ := fr_cells HQ113.out
    obtain ⟨qa119, qb119, _, _⟩ := fr_cells HQ114.out
    obtain ⟨qa120, qb120, _, _⟩ := fr_cells HQ115.out
    obtain ⟨qa121, qb121, _, _⟩ := fr_cells HQ116.out
    obtain ⟨qa122, qb122, _, _⟩ := fr_cells HQ117.out
    go_wp2_with fail
    refine (HHLa.out _).mono ?_
    rintro e w21 ⟨rfl, hb⟩
    clear qa118 qb118 qa119 qb119 qa120 qb120 qa121 qb121 qa122 qb122
    have HBw21 := Lib.hid (band HBw20.out hb)
    have HQ123 := Lib.hid (frAt HQ113.out hb)
    have HQ124 := Lib.hid (frAt HQ114.out hb)
    have HQ125 := Lib.hid (frAt HQ115.out hb)
    have HQ126 := Lib.hid (frAt HQ116.out hb)
    have HQ127 := Lib.hid (frAt HQ117.out hb)
    clear hb
    obtain ⟨qa128, qb128, _, _⟩ := fr_cells HQ123.out
    obtain ⟨qa129, qb129, _, _⟩ := fr_cells HQ124.out
    obtain ⟨qa130, qb130, _, _⟩ := fr_cells HQ125.out
    obtain ⟨qa131, qb131, _, _⟩ := fr_cells HQ126.out
    obtain ⟨qa132, qb132, _, _⟩ := fr_cells HQ127.out
    go_wp2_with fail
    refine (HHLb.out _).mono ?_
    rintro e w22 ⟨rfl, hb⟩
    clear qa128 qb128 qa129 qb129 qa130 qb130 qa131 qb131 qa132 qb132
    have HBw22 := Lib.hid (band HBw21.out hb)
    have HQ133 := Lib.hid (frAt HQ123.out hb)
    have HQ134 := Lib.hid (frAt HQ124.out hb)
    have HQ135 := Lib.hid (frAt HQ125.out hb)
    have HQ136 := Lib.hid (frAt HQ126.out hb)
    have HQ137 := Lib.hid (frAt HQ127.out hb)
    clear hb
    obtain ⟨qa138, qb138, _, _⟩ := fr_cells HQ133.out
    obtain ⟨qa139, qb139, _, _⟩ := fr_cells HQ134.out
    obtain ⟨qa140, qb140, _, _⟩ := fr_cells HQ135.out
    obtain ⟨qa141, qb141, _, _⟩ := fr_cells HQ136.out
    obtain ⟨qa142, qb142, _, _⟩ := fr_cells HQ137.out
    go_wp2_with fail
    refine (awake_any _).mono ?_
    rintro e w23 ⟨rfl, hb⟩
    clear qa138 qb138 qa139 qb139 qa140 qb140 qa141 qb141 qa142 qb142
    have HBw23 := Lib.hid (band HBw22.out hb)
    have HQ143 := Lib.hid (frAt HQ133.out hb)
    have HQ144 := Lib.hid (frAt HQ134.out hb)
    have HQ145 := Lib.hid (frAt HQ135.out hb)
    have HQ146 := Lib.hid (frAt HQ136.out hb)
    have HQ147 := Lib.hid (frAt HQ137.out hb)
    clear hb
    obtain ⟨qa148, qb148, _, _⟩ := fr_cells HQ143.out
    obtain ⟨qa149, qb149, _, _⟩ := fr_cells HQ144.out
    obtain ⟨qa150, qb150, _, _⟩ := fr_cells HQ145.out
    obtain ⟨qa151, qb151, _, _⟩ := fr_cells HQ146.out
    obtain ⟨qa152, qb152, _, _⟩ := fr_cells HQ147.out
    go_wp2
    go_ret
    exact ⟨rfl, HBw23.out⟩

theorem grow_row (w : World) (a : Option Addr) (n cap : Nat) (z : Nat → Int) (hcap : n ≤ cap) (h8 : n * 8 ≤ 140737488355328) (hz : Ints w a n z) (s : Int) (_ : -9223372036854775808 ≤ s ∧ s ≤ 9223372036854775807) (k : Int) (_ : -9223372036854775808 ≤ k ∧ k ≤ 9223372036854775807) (more : Int) (_ : -9223372036854775808 ≤ more ∧ more ≤ 9223372036854775807) :
    Calls Try.prog 13 #[.slice a n cap, .int .i64 s, .int .i64 k, .int .i64 more] w fun e w' => SomeB true w e w' := by
  by_cases h : okS n z s = true ∧ isNumB k = true
  · have hk := isNumB_iff.1 h.2
    obtain ⟨t, ht, _⟩ := okS_nat h.1
    obtain ⟨j, rfl⟩ : ∃ j : Nat, k = j := ⟨k.toNat, by omega⟩
    subst ht
    exact grow_good a n cap z t j more w h.1 (by omega) hcap h8 hz
  · refine grow_bad a n cap z s k more w ?_ hcap h8 hz
    cases h1 : okS n z s
    · exact Or.inl rfl
    · cases h2 : isNumB k
      · exact Or.inr rfl
      · exact absurd ⟨h1, h2⟩ h
end Go.Proofs.Ytlmjddlpenmpkaa
