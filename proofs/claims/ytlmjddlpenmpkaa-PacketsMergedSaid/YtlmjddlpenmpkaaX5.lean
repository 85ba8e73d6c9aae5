import Derived.Test.YtlmjddlpenmpkaaX3
import Derived.Test.YtlmjddlpenmpkaaG4
import Derived.Test.YtlmjddlpenmpkaaL4
namespace Go.Proofs.Ytlmjddlpenmpkaa
open Go.RowKit Go.Shelf

theorem wrap_full6 {n : Nat} (hn : n ≤ 6) : wrap64 (wrap64 ((2 : Int) ^ n) - 1) = ((2 ^ n - 1 : Nat) : Int) := by
  rw [wrap_pow6 hn]
  have h := pow_6 hn
  generalize 2 ^ n = P at *
  rw [IntWalk.wrap64_in _ ⟨by omega, by omega⟩]
  omega
/-- A set without kind b, when b is left out. -/
def sq (b t : Nat) : Nat := (t &&& (2 ^ b - 1)) ||| ((t >>> (b + 1)) <<< b)
theorem other_val {n j q : Nat} (hn : n ≤ 6) (hj : j < n) (hq : q < 2 ^ n) : bits .or .i64 (bits .and .i64 (q : Int) (wrap64 (wrap64 ((2 : Int) ^ j) - 1))) (wrap64 ((q : Int) / 2 ^ (j + 1) * 2 ^ j)) = ((sq j q : Nat) : Int) := by
  have hq64 := lt64 hq hn
  have hp : (2 : Nat) ^ j < 64 := lt64 (two_lt hj) hn
  have e1 : (q : Int) / 2 ^ (j + 1) * 2 ^ j = (((q >>> (j + 1)) <<< j : Nat) : Int) := by
    rw [Nat.shiftLeft_eq, Nat.shiftRight_eq_div_pow]; simp
  have hsm : (q >>> (j + 1)) <<< j < 64 := by
    rw [Nat.shiftLeft_eq, Nat.shiftRight_eq_div_pow]
    have h1 : q / 2 ^ (j + 1) * 2 ^ (j + 1) ≤ q := Nat.div_mul_le_self _ _
    have h2 : q / 2 ^ (j + 1) * 2 ^ j ≤ q / 2 ^ (j + 1) * 2 ^ (j + 1) := Nat.mul_le_mul_left _ (Nat.pow_le_pow_right (by decide) (by omega))
    exact Nat.lt_of_le_of_lt h2 (Nat.lt_of_le_of_lt h1 hq64)
  have e2 : wrap64 ((((q >>> (j + 1)) <<< j : Nat) : Int)) = (((q >>> (j + 1)) <<< j : Nat) : Int) := by
    generalize (q >>> (j + 1)) <<< j = v at hsm
    exact IntWalk.wrap64_in _ ⟨by omega, by omega⟩
  have h62 : ∀ x : Nat, x < 64 → x < 2 ^ 62 := fun x hx => Nat.lt_of_lt_of_le hx (by decide)
  have hpm : 2 ^ j - 1 < 64 := Nat.lt_of_le_of_lt (Nat.sub_le _ _) hp
  rw [wrap_full6 (by omega : j ≤ 6), e1, e2, band_nat _ _ (h62 _ hq64) (h62 _ hpm), bor_nat _ _ (h62 _ (Nat.lt_of_le_of_lt Nat.and_le_left hq64)) (h62 _ hsm)]
  rfl
def sqB (b s : Nat) : Bool := s.testBit b || (((partsL s).map (sq b) == partsL (sq b s)) && (partsL s).all fun t => (pop (sq b t) == pop t) && (kindsL (sq b t) == (kindsL t).map (fun i => if i < b then i else i - 1)) && ((sq b t == 0) == (t == 0)))
theorem sq_all : (List.range 6).all (fun b => (List.range 64).all (sqB b)) = true := by decide +kernel
theorem sq_at {b s : Nat} (hb : b < 6) (hs : s < 64) (h : s.testBit b = false) : (partsL s).map (sq b) = partsL (sq b s) ∧
    ∀ t ∈ partsL s, pop (sq b t) = pop t ∧ kindsL (sq b t) = (kindsL t).map (fun i => if i < b then i else i - 1) ∧ (sq b t = 0 ↔ t = 0) := by
  have h1 := List.all_eq_true.1 (List.all_eq_true.1 sq_all b (List.mem_range.2 hb)) s (List.mem_range.2 hs)
  simp only [sqB, h, Bool.false_or, Bool.and_eq_true, beq_iff_eq, List.all_eq_true] at h1
  refine ⟨h1.1, fun t ht => ?_⟩
  obtain ⟨⟨p1, p2⟩, p3⟩ := h1.2 t ht
  refine ⟨p1, p2, ?_⟩
  constructor
  · intro h; rw [h] at p3; simpa using p3.symm
  · intro h; rw [h] at p3; simpa [h] using p3
theorem sq_lt_all : (List.range 7).all (fun n => (List.range n).all fun b => (List.range (2 ^ n)).all fun s => decide (2 * sq b s < 2 ^ n)) = true := by decide +kernel
theorem sq_lt {n b s : Nat} (hn : n ≤ 6) (hb : b < n) (hs : s < 2 ^ n) : sq b s < 2 ^ (n - 1) := by
  have h := List.all_eq_true.1 (List.all_eq_true.1 (List.all_eq_true.1 sq_lt_all n (List.mem_range.2 (by omega))) b (List.mem_range.2 hb)) s (List.mem_range.2 hs)
  have h2 : 2 * sq b s < 2 ^ n := by simpa using h
  obtain ⟨m, rfl⟩ : ∃ m, n = m + 1 := ⟨n - 1, by omega⟩
  rw [Nat.pow_succ] at h2
  show sq b s < 2 ^ m
  omega

theorem mg_at {z : Nat → Int} {i j k : Nat} (hi : k ≠ i) (hj : k ≠ j) : mgZ z i j (if k < j then k else k - 1) = z k := by
  unfold mgZ outZ setZ
  by_cases h : k < j
  · simp [h, hi]
  · have h1 : ¬ (k - 1 < j) := by omega
    have h2 : k - 1 + 1 = k := by omega
    simp [h, h1, h2, hi]
theorem mg_range {z : Nat → Int} {n i j l : Nat} (h9 : ∀ q, q < n → 1 ≤ z q ∧ z q ≤ 9) (hi : i < n) (hj : j < n) (hij : i ≠ j) (hs : z i + z j ≤ 9) (hl : l < n - 1) : 1 ≤ mgZ z i j l ∧ mgZ z i j l ≤ 9 := by
  have h1 := h9 i hi
  have h2 := h9 j hj
  unfold mgZ outZ setZ
  by_cases h : l < j
  · simp only [h, if_true]
    split
    · omega
    · exact h9 l (by omega)
  · simp only [h, if_false]
    split
    · omega
    · exact h9 (l + 1) (by omega)
theorem mg_sum {z : Nat → Int} {n i j : Nat} (hn : n ≤ 6) (hi : i < n) (hj : j < n) (hij : i ≠ j) : ((List.range (n - 1)).map (mgZ z i j)).sum = ((List.range n).map z).sum := by
  have e : n = 2 ∨ n = 3 ∨ n = 4 ∨ n = 5 ∨ n = 6 := by omega
  have ei : i = 0 ∨ i = 1 ∨ i = 2 ∨ i = 3 ∨ i = 4 ∨ i = 5 := by omega
  have ej : j = 0 ∨ j = 1 ∨ j = 2 ∨ j = 3 ∨ j = 4 ∨ j = 5 := by omega
  rcases e with rfl | rfl | rfl | rfl | rfl <;> rcases ei with rfl | rfl | rfl | rfl | rfl | rfl <;> rcases ej with rfl | rfl | rfl | rfl | rfl | rfl <;>
    first
      | (exfalso; omega)
      | (simp [List.range_succ, mgZ, outZ, setZ] <;> omega)
/-- The averages are the same. -/
theorem mg_mean {z : Nat → Int} {n i j s K : Nat} (hn : n ≤ 6) (hs : s < 2 ^ n) (hj : j < n) (bi : s.testBit i = false) (bj : s.testBit j = false) : mX z K s = mX (mgZ z i j) K (sq j s) := by
  have hs64 := lt64 hs hn
  obtain ⟨h1, h2⟩ := sq_at (by omega) hs64 bj
  unfold mX sumC
  rw [← h1, List.map_map]
  refine congrArg (- ·) (sum_congr fun t ht => ?_)
  obtain ⟨p1, p2, p3⟩ := h2 t ht
  have hsub := partsL_sub ht
  have hof : ofS (mgZ z i j) (sq j t) = ofS z t := by
    unfold ofS ofL
    rw [p2, List.map_map]
    refine sum_congr fun k hk => ?_
    have hkt := kinds_bit hk
    have hks : s.testBit k = true := by rw [← hsub, Nat.testBit_and, Bool.and_eq_true] at hkt; exact hkt.2
    exact mg_at (fun e => by rw [e, bi] at hks; cases hks) (fun e => by rw [e, bj] at hks; cases hks)
  show alC (vC z K) t = alC (vC (mgZ z i j) K) (sq j t)
  have hv : vC z K t = vC (mgZ z i j) K (sq j t) := by
    unfold vC
    rw [hof]
    by_cases h0 : t = 0
    · rw [if_pos h0, if_pos (p3.2 h0)]
    · rw [if_neg h0, if_neg (fun h => h0 (p3.1 h))]
  unfold alC
  rw [p1, hv]
theorem mg_frac {z : Nat → Int} {n i j s : Nat} (h : mgB n z i j = true) (hs : s < 2 ^ n) (bi : s.testBit i = false) (bj : s.testBit j = false) :
    ∃ (A : Int) (B : Nat), (∀ (a : Option Addr) (cap : Nat) (w : World), Ints w a n z → Calls Try.prog 18 #[.slice a n cap, .int .i64 s] w fun e w' => e = .returned (.tuple #[.agg #[.int .i64 A, .int .i64 (B : Int)], .int .i64 0]) ∧ Below w.heap.size w w') ∧
      ∀ (a : Option Addr) (cap : Nat) (w : World), Ints w a (n - 1) (mgZ z i j) → Calls Try.prog 18 #[.slice a (n - 1 : Nat) cap, .int .i64 (sq j s : Nat)] w fun e w' => e = .returned (.tuple #[.agg #[.int .i64 A, .int .i64 (B : Int)], .int .i64 0]) ∧ Below w.heap.size w w' := by
  obtain ⟨hw, hx, hy, hxy, h99⟩ := mgB_iff.1 h
  obtain ⟨h1n, hn, h9⟩ := isW_iff.1 hw
  simp only [Int.toNat_natCast] at h99
  have hi : i < n := by omega
  have hj : j < n := by omega
  have hij : i ≠ j := by omega
  have h9' : ∀ q, q < n - 1 → 1 ≤ mgZ z i j q ∧ mgZ z i j q ≤ 9 := fun q hq => mg_range h9 hi hj hij h99 hq
  have hlt := sq_lt hn hj hs
  obtain ⟨L, D, hF, hD, hdD⟩ := meanF_any (z := z) h1n hn h9
  obtain ⟨L', D', hF', hD', hdD'⟩ := meanF_any (z := mgZ z i j) (n := n - 1) (by omega) (by omega) h9'
  have hal : ofS (mgZ z i j) (2 ^ (n - 1) - 1) = ofS z (2 ^ n - 1) := by
    rw [ofS_full z hn, ofS_full _ (by omega : n - 1 ≤ 6)]; exact mg_sum hn hi hj hij
  have heq : mX z D s * (L' : Int) = mX (mgZ z i j) D' (sq j s) * (L : Int) := by
    rw [mX_scale (hdD.sub (full_sub hs)), mX_scale (hdD'.sub (full_sub hlt)), mg_mean hn hs hj bi bj]
    have : D * L' = D' * L := by
      have : ((D * L' : Nat) : Int) = ((D' * L : Nat) : Int) := by rw [Int.natCast_mul, Int.natCast_mul, hD, hD', hal]; grind
      omega
    rw [this]
  have hfr := fr_same (a := mX z D s) (b := mX (mgZ z i j) D' (sq j s)) hF.L1 hF'.L1 heq
  have hok : okS n z (s : Int) = true := okS_iff.2 ⟨⟨h1n, hn, h9⟩, Int.natCast_nonneg _, by
    have e : (2 : Int) ^ n = ((2 ^ n : Nat) : Int) := by simp
    rw [e]; omega⟩
  have hok' : okS (n - 1) (mgZ z i j) ((sq j s : Nat) : Int) = true := okS_iff.2 ⟨⟨by omega, by omega, h9'⟩, Int.natCast_nonneg _, by
    have e : (2 : Int) ^ (n - 1) = ((2 ^ (n - 1) : Nat) : Int) := by simp
    rw [e]; omega⟩
  refine ⟨frA (mX z D s) L, frB (mX z D s) L, fun a cap w hz => hF.mean a cap s w hok (by omega) hz, fun a cap w hz => ?_⟩
  rw [hfr.1, hfr.2]
  exact hF'.mean a cap (sq j s) w hok' (by omega) hz

set_option maxHeartbeats 2000000 in
set_option maxRecDepth 100000 in
theorem merged_bad (a : Option Addr) (n cap : Nat) (z : Nat → Int) (x y s : Int) (w : World) (h : mgB n z x y = false) (hcap : n ≤ cap) (h8 : n * 8 ≤ 140737488355328) (hz : Ints w a n z) :
    Calls Try.prog 16 #[.slice a n cap, .int .i64 x, .int .i64 y, .int .i64 s] w fun e w' => SomeB true w e w' := by
  have H2 : mgB (min n 8) z x y = false := by rw [mgB_cut]; exact h
  have HL := Lib.hid (fun W (hW : Below w.heap.size w W) => list_any a cap n z W hcap h8 (hz.keep (Nat.le_refl _) hW))
  have HD := Lib.hid (fun a1 c1 W (hI : Ints W a1 (min n 8) z) => fMerge_bad a1 (min n 8) c1 z x y W H2 (by have := Nat.min_le_right n 8; omega) hI)
  clear hz h H2
  go_enter Try.func16, Try.ntmps16
  go_wp2_with fail
  refine (HL.out w (Below.refl _ _)).mono ?_
  rintro e w1 ⟨a1, c1, rfl, hO, hb⟩
  have HI1 := Lib.hid hO.ints
  clear hO
  have HBw1 := Lib.hid (band (Below.refl _ _) hb)
  clear hb
  go_wp2_with fail
  refine (HD.out a1 c1 w1 HI1.out).mono ?_
  rintro e w2 ⟨rfl, hb⟩
  have HBw2 := Lib.hid (band HBw1.out hb)
  clear hb
  go_wp2_with fail
  refine (awake_any _).mono ?_
  rintro e w3 ⟨rfl, hb⟩
  have HBw3 := Lib.hid (band HBw2.out hb)
  clear hb
  go_wp2
  go_ret
  exact ⟨rfl, HBw3.out⟩

set_option maxHeartbeats 4000000 in
set_option maxRecDepth 100000 in
theorem merged_good (a : Option Addr) (n cap : Nat) (z : Nat → Int) (i j : Nat) (s : Int) (w : World) (h : mgB n z i j = true) (hcap : n ≤ cap) (h8 : n * 8 ≤ 140737488355328) (hz : Ints w a n z) :
    Calls Try.prog 16 #[.slice a n cap, .int .i64 i, .int .i64 j, .int .i64 s] w fun e w' => SomeB true w e w' := by
  obtain ⟨hw, hx, hy, hxy, h99⟩ := mgB_iff.1 h
  obtain ⟨h1n, hn6, h9⟩ := isW_iff.1 hw
  have hmn : min n 8 = n := by omega
  have hl := fun W (hW : Below w.heap.size w W) => list_any a cap n z W hcap h8 (hz.keep (Nat.le_refl _) hW)
  rw [hmn] at hl
  have HL := Lib.hid hl
  have HD := Lib.hid (fun a1 c1 W (hI : Ints W a1 n z) => fMerge_good a1 n c1 z i j W h (by omega) hI)
  have hm := fun W (hW : Below w.heap.size w W) => rmerged_any a n cap z i j W (by omega) (hz.keep (Nat.le_refl _) hW)
  rw [h] at hm
  have HR := Lib.hid hm
  have hlt := more_lt hn6 s
  obtain ⟨m, hm2⟩ : ∃ m : Nat, wrap64 ((IntKind.u64.wrap s).tmod (IntKind.u64.wrap ((2 : Int) ^ n))) = (m : Int) := ⟨(wrap64 ((IntKind.u64.wrap s).tmod (IntKind.u64.wrap ((2 : Int) ^ n)))).toNat, by omega⟩
  have hu0 : ¬ IntKind.u64.wrap ((2 : Int) ^ n) = 0 := by
    rw [u64_pow hn6]
    have := Int.pow_pos (n := 2) (m := n) (by omega)
    omega
  have hi0 : (0 : Int) ≤ (i : Int) := by omega
  have hj0 : (0 : Int) ≤ (j : Int) := by omega
  have hij : i ≠ j := by omega
  have hm2n : m < 2 ^ n := by
    have e : (2 : Int) ^ n = ((2 ^ n : Nat) : Int) := by simp
    rw [hm2] at hlt
    have h2 := hlt.2
    rw [e] at h2; omega
  obtain ⟨q, hq⟩ : ∃ q, q = sdiff m (2 ^ i ||| 2 ^ j) := ⟨_, rfl⟩
  have hi2 : 2 ^ i < 2 ^ n := two_lt (by omega)
  have hj2 : 2 ^ j < 2 ^ n := two_lt (by omega)
  have hij2 : 2 ^ i ||| 2 ^ j < 2 ^ n := Nat.or_lt_two_pow hi2 hj2
  have hm64 := lt64 hm2n hn6
  have hq2 : q < 2 ^ n := by rw [hq]; exact sdiff_lt hm2n
  have hqv : bits .andNot .i64 (m : Int) (bits .or .i64 (wrap64 ((2 : Int) ^ i)) (wrap64 ((2 : Int) ^ j))) = (q : Int) := by
    rw [wrap_two (by omega), wrap_two (by omega), bor_nat _ _ (Nat.lt_of_lt_of_le (lt64 hi2 hn6) (by decide)) (Nat.lt_of_lt_of_le (lt64 hj2 hn6) (by decide)), andNot_nat hm64 (lt64 hij2 hn6), hq]
  have hbits : q.testBit i = false ∧ q.testBit j = false := by
    rw [hq, sdiff_bit hm64 (lt64 hij2 hn6) (by omega), sdiff_bit hm64 (lt64 hij2 hn6) (by omega), Nat.testBit_or, Nat.testBit_or, Nat.testBit_two_pow_self, Nat.testBit_two_pow_self]
    simp
  obtain ⟨A, B, hMa, hMb⟩ := mg_frac h hq2 hbits.1 hbits.2
  have HMa := Lib.hid hMa
  have HMb := Lib.hid hMb
  have HOV := Lib.hid (other_val (q := q) (j := j) hn6 (by omega) hq2)
  have hj5 : (j : Int) ≤ 5 := by omega
  have hi5 : (i : Int) ≤ 5 := by omega
  have hj5n : j ≤ 5 := by omega
  clear hl hm hmn hz h hw hx hy hxy h99 h9 hlt hq hm2n hi2 hj2 hij2 hm64 hq2 hbits hMa hMb hij
  go_enter Try.func16, Try.ntmps16
  go_wp2_with fail
  refine (HL.out w (Below.refl _ _)).mono ?_
  rintro e w1 ⟨a1, c1, rfl, hO, hb⟩
  have HI1 := Lib.hid hO.ints
  clear hO
  have HBw1 := Lib.hid (band (Below.refl _ _) hb)
  clear hb
  go_wp2_with fail
  refine (HD.out a1 c1 w1 HI1.out).mono ?_
  rintro e w2 ⟨a2, c2, rfl, hI2, hb⟩
  have HI2 := Lib.hid hI2
  clear hI2
  have HBw2 := Lib.hid (band HBw1.out hb)
  clear hb
  go_wp2_with fail
  refine (HR.out w2 HBw2.out).mono ?_
  rintro e w3 ⟨rfl, hb⟩
  have HB23 := Lib.hid hb
  have HBw3 := Lib.hid (band HBw2.out hb)
  clear hb
  go_wp2_with fail
  go_quiet (fail)
  have HB4 := Lib.hid (below_drewN HBw3.out nq)
  have HBx : Hid (Below w2.heap.size w2 (w3.drewN nq)) := below_drewN HB23.out nq
  clear HBw3
  generalize w3.drewN nq = w4 at *
  go_wp2
  go_quiet (fail)
  have HB5 := Lib.hid (below_drewN HB4.out nq)
  have HI5 := Lib.hid ((HI2.out.keep (Nat.le_refl _) HBx.out).keep (Nat.le_refl _) (below_drewN (Below.refl _ w4) nq))
  generalize w4.drewN nq = w5 at *
  clear HB4 HBx
  go_wp2_with fail
  refine (HL.out w5 HB5.out).mono ?_
  rintro e w6 ⟨a6, c6, rfl, hO, hb⟩
  have HI6 := Lib.hid hO.ints
  have HI7 := Lib.hid (HI5.out.keep (Nat.le_refl _) hb)
  have HB6 := Lib.hid (band HB5.out hb)
  clear hO hb
  go_wp2_with fail
  refine (HMa.out a6 c6 w6 HI6.out).mono ?_
  rintro e w7 ⟨rfl, hb⟩
  have HB7 := Lib.hid (band HB6.out hb)
  have HI8 := Lib.hid ((HI7.out.keep (Nat.le_refl _) hb).keep (Nat.le_refl _) (below_one w7 (.cells #[.int .i64 A, .int .i64 (B : Int)] 24)))
  clear hb
  obtain ⟨w8, hw8⟩ : ∃ w8, w8 = w7.alloc (.cells #[.int .i64 A, .int .i64 (B : Int)] 24) := ⟨_, rfl⟩
  have HQ8 : Hid (w8.heap[w7.heap.size]? = some (.cells #[.int .i64 A, .int .i64 (B : Int)] 24)) := by rw [hw8]; exact heap_alloc_new w7 _
  have HB8 : Hid (Below w.heap.size w w8) := by rw [hw8]; exact HB7.out.alloc HB7.out.size _
  rw [← hw8] at HI8
  have HW8 := Lib.hid hw8
  clear hw8
  go_wp2_with fail
  rw [← HW8.out, HOV.out]
  refine (HMb.out a2 c2 w8 HI8.out).mono ?_
  rintro e w9 ⟨rfl, hb⟩
  obtain ⟨x1, x2, _, _⟩ := fr_cells (frAt (frAt HQ8.out hb) (below_one w9 (.cells #[.int .i64 A, .int .i64 (B : Int)] 24)))
  have HB9 := Lib.hid (band HB8.out hb)
  clear hb
  go_wp2_with fail
  refine (awake_any _).mono ?_
  rintro e w10 ⟨rfl, hb⟩
  have HB10 : Hid (Below w.heap.size w w10) := (HB9.out.trans ((below_one w9 _).mono HB9.out.size)).trans (hb.mono (by have := HB9.out.size; simp; omega))
  clear hb
  go_wp2
  go_ret
  exact ⟨rfl, HB10.out⟩

theorem merged_row (w : World) (a : Option Addr) (n cap : Nat) (z : Nat → Int) (hcap : n ≤ cap) (h8 : n * 8 ≤ 140737488355328) (hz : Ints w a n z) (x : Int) (_ : -9223372036854775808 ≤ x ∧ x ≤ 9223372036854775807) (y : Int) (_ : -9223372036854775808 ≤ y ∧ y ≤ 9223372036854775807) (s : Int) (_ : -9223372036854775808 ≤ s ∧ s ≤ 9223372036854775807) :
    Calls Try.prog 16 #[.slice a n cap, .int .i64 x, .int .i64 y, .int .i64 s] w fun e w' => SomeB true w e w' := by
  cases h : mgB n z x y
  · exact merged_bad a n cap z x y s w h hcap h8 hz
  · have h1 := mgB_iff.1 h
    obtain ⟨i, rfl⟩ : ∃ i : Nat, x = i := ⟨x.toNat, by omega⟩
    obtain ⟨j, rfl⟩ : ∃ j : Nat, y = j := ⟨y.toNat, by omega⟩
    exact merged_good a n cap z i j s w h hcap h8 hz
end Go.Proofs.Ytlmjddlpenmpkaa
