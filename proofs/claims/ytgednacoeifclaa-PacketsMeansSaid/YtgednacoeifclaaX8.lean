import Derived.Test.YtgednacoeifclaaP5
import Derived.Test.YtgednacoeifclaaX6
import Derived.Test.YtgednacoeifclaaX2
/-
  The chance to be the last kind, kind by kind, as the document's own recursion has it.
-/
namespace Go.Proofs.Ytgednacoeifclaa
open Go.RowKit

theorem lX_le {z : Nat → Int} {n k D : Nat} (hk : k < n) (hn : n ≤ 6) (h9 : ∀ j, j < n → 1 ≤ z j ∧ z j ≤ 9) : ∀ r : Nat, r < 2 ^ n → LOk z D k r → lX z D k r ≤ D := by
  intro r
  induction r using Nat.strongRecOn with
  | _ r ih =>
    intro hr hD
    have hzk := h9 k hk
    by_cases h0 : r = 0
    · subst h0; rw [lX_zero (by omega)]; exact Int.le_refl _
    · have hr64 := lt64 hr hn
      have hstep := lX_step hr64 hD
      rw [if_neg h0] at hstep
      have hle : ((kindsL r).map fun i => z i * lX z D k (sdiff r (2 ^ i))).sum ≤ ((kindsL r).map fun i => (D : Int) * z i).sum := sum_le fun i hi => by
        have hi6 := kindsL_lt hi
        rw [Int.mul_comm (D : Int)]
        exact Int.mul_le_mul_of_nonneg_left (ih _ (sdiff_less hr64 hi6 (kinds_bit hi)) (sdiff_lt hr) (hD.sub (sub_sdiff hr64 hi6))) (by have := h9 i (kindsL_in hr hi); omega)
      rw [sum_mul] at hle
      have ho := (of_pos hr hn h0 h9).1
      have e : ((kindsL r).map z).sum = ofS z r := rfl
      rw [e] at hle
      have h2 : (z k + ofS z r) * lX z D k r ≤ (z k + ofS z r) * (D : Int) := by
        rw [Int.add_mul (z k) (ofS z r) (D : Int), Int.mul_comm (ofS z r)]
        have : 0 ≤ z k * (D : Int) := Int.mul_nonneg (by omega) (by omega)
        omega
      exact Int.le_of_mul_le_mul_left h2 (by omega)
theorem lX_scale {z : Nat → Int} {D K k r : Nat} (hD : LOk z D k r) (hz : ∀ t ∈ partsL r, z k + ofS z t ≠ 0) : lX z D k r * K = lX z (D * K) k r := by
  unfold lX
  rw [Int.mul_comm, ← sumC_mul]
  refine sumC_congr fun t ht => ?_
  rw [Int.mul_comm, alC_mulr _ (fun _ => (K : Int))]
  refine alC_congr ?_
  unfold lC
  obtain ⟨q, hq⟩ := hD t ht
  rw [Int.natCast_mul, ← Int.mul_assoc, hq, Int.mul_ediv_cancel_left _ (hz t ht), Int.mul_assoc, Int.mul_ediv_cancel_left _ (hz t ht)]
/-- The sum over the kinds of a rest, those below j. -/
def laT (z : Nat → Int) (P k r j : Nat) : Int := sumC (fun i => z i * lX z P k (sdiff r (2 ^ i))) (kindsTo r j)
/-- What is known of the recursion at a set of at least two kinds. -/
structure RecF (n : Nat) (z : Nat → Int) (k r P : Nat) : Prop where
  P1 : 1 ≤ P
  PM : (z k + ofS z r) * P ≤ 1152921504606846976
  ok : ∀ i ∈ kindsL r, LOk z P k (sdiff r (2 ^ i))
  rg : ∀ i ∈ kindsL r, 0 ≤ lX z P k (sdiff r (2 ^ i)) ∧ lX z P k (sdiff r (2 ^ i)) ≤ P
  bd : ∀ j, j ≤ n → 0 ≤ laT z P k r j ∧ laT z P k r j ≤ (z k + ofS z r) * P
  en : ∀ L : Nat, 1 ≤ L → LOk z L k r → laT z P k r n * (L : Int) = lX z L k r * ((z k + ofS z r) * P)
theorem recF_any {z : Nat → Int} {n k r : Nat} (hr : r < 2 ^ n) (hk : k < n) (_hkr : r.testBit k = false) (h0 : r ≠ 0) (hn : n ≤ 6) (h9 : ∀ j, j < n → 1 ≤ z j ∧ z j ≤ 9) (h5 : (kindsL r).length ≤ 5) : ∃ P, RecF n z k r P := by
  have hr64 := lt64 hr hn
  obtain ⟨L0, P, hH⟩ := head_any (z := z) hr hk hn h5 h9
  have hzk := h9 k hk
  have hok : ∀ i ∈ kindsL r, LOk z P k (sdiff r (2 ^ i)) := fun i hi t ht => by
    have hi6 := kindsL_lt hi
    have hts := parts_sub (sub_sdiff hr64 hi6) ht
    have ht2 := partsL_lt2 hr hts
    have e1 := on_eq (z := z) ht2 h9
    have e2 := on_eq (z := z) hr h9
    have e3 := zn_eq (z := z) hzk.1
    have hne : on z t ≠ on z r := by
      have hd := ofS_diff z hr64 (partsL_lt hts) (partsL_sub hts)
      have hs0 : sdiff r t ≠ 0 := by
        intro h
        have hb : (sdiff r t).testBit i = true := by
          rw [sdiff_bit hr64 (partsL_lt hts) hi6, kinds_bit hi]
          have : t.testBit i = false := by
            have h3 := partsL_sub ht
            have h4 : t.testBit i = (t.testBit i && (sdiff r (2 ^ i)).testBit i) := by rw [← Nat.testBit_and, h3]
            rw [h4, sdiff_bit hr64 (show 2 ^ i < 64 by have : 2 ^ i < 2 ^ 6 := Nat.pow_lt_pow_right (by decide) hi6; omega) hi6, Nat.testBit_two_pow_self]
            simp
          rw [this]; rfl
        rw [h, Nat.zero_testBit] at hb; cases hb
      have := (of_pos (sdiff_lt hr) hn hs0 h9).1
      omega
    have h := hH.pv t hts hne
    have h2 : ((zn z k + on z t : Nat) : Int) ∣ ((P * zn z k : Nat) : Int) := Int.natCast_dvd_natCast.2 h
    rw [Int.natCast_add, e1, e3, Int.natCast_mul, e3, Int.mul_comm] at h2
    exact h2
  have hrg : ∀ i ∈ kindsL r, 0 ≤ lX z P k (sdiff r (2 ^ i)) ∧ lX z P k (sdiff r (2 ^ i)) ≤ P := fun i hi =>
    ⟨lX_pos hk hn h9 _ (sdiff_lt hr) (hok i hi), lX_le hk hn h9 _ (sdiff_lt hr) (hok i hi)⟩
  have e2 := on_eq (z := z) hr h9
  have e3 := zn_eq (z := z) hzk.1
  have hPM : (z k + ofS z r) * P ≤ 1152921504606846976 := by
    have h := hH.PM
    have h' : (((zn z k + on z r) * P : Nat) : Int) ≤ 1152921504606846976 := by omega
    rw [Int.natCast_mul, Int.natCast_add, e2, e3] at h'
    exact h'
  refine ⟨P, hH.P1, hPM, hok, hrg, fun j hj => ?_, fun L hL hD => ?_⟩
  · have hsub : (kindsTo r j).Sublist (kindsL r) := (kindsTo_le (by omega : j ≤ 6)).sublist
    have hp : ∀ i ∈ kindsL r, 0 ≤ z i * lX z P k (sdiff r (2 ^ i)) := fun i hi => Int.mul_nonneg (by have := h9 i (kindsL_in hr hi); omega) (hrg i hi).1
    have h1 := sumA_pos (fun i hi => hp i (hsub.subset hi))
    have h2 := sumA_sub (fun i => z i * lX z P k (sdiff r (2 ^ i))) hsub
    have h3 := sumA_pos hp
    have h4 : sumC (fun i => z i * lX z P k (sdiff r (2 ^ i))) (kindsL r) ≤ ((kindsL r).map fun i => (P : Int) * z i).sum := sum_le fun i hi => by
      rw [Int.mul_comm (P : Int)]
      exact Int.mul_le_mul_of_nonneg_left (hrg i hi).2 (by have := h9 i (kindsL_in hr hi); omega)
    rw [sum_mul, show ((kindsL r).map z).sum = ofS z r from rfl] at h4
    unfold laT
    have h6 : (z k + ofS z r) * (P : Int) = z k * P + P * ofS z r := by rw [Int.add_mul, Int.mul_comm (ofS z r)]
    have h7 : 0 ≤ z k * (P : Int) := Int.mul_nonneg (by omega) (by omega)
    rw [h6]
    omega
  · unfold laT
    rw [kindsTo_end hr hn]
    have hne : ∀ t ∈ partsL r, z k + ofS z t ≠ 0 := fun t ht => by
      have e := on_eq (z := z) (partsL_lt2 hr ht) h9
      omega
    have hst := lX_step hr64 hD
    rw [if_neg h0] at hst
    rw [Int.mul_comm, ← sumC_mul]
    have e : sumC (fun i => (L : Int) * (z i * lX z P k (sdiff r (2 ^ i)))) (kindsL r) = sumC (fun i => (P : Int) * (z i * lX z L k (sdiff r (2 ^ i)))) (kindsL r) := sumC_congr fun i hi => by
      have hi6 := kindsL_lt hi
      have hss := sub_sdiff hr64 hi6
      have a1 := lX_scale (K := L) (hok i hi) (fun t ht => hne t (parts_sub hss ht))
      have a2 := lX_scale (K := P) (hD.sub hss) (fun t ht => hne t (parts_sub hss ht))
      rw [Nat.mul_comm L P, ← a1] at a2
      have : (L : Int) * (z i * lX z P k (sdiff r (2 ^ i))) = z i * (lX z P k (sdiff r (2 ^ i)) * L) := by grind
      rw [this, ← a2]; grind
    rw [e, sumC_mul]
    have e2 : sumC (fun i => z i * lX z L k (sdiff r (2 ^ i))) (kindsL r) = (z k + ofS z r) * lX z L k r := by
      unfold sumC; rw [hst]; omega
    rw [e2]; grind
end Go.Proofs.Ytgednacoeifclaa

namespace Go.Proofs.Ytgednacoeifclaa
open Go.RowKit Go.Shelf

theorem two_of_rest {s k : Nat} (hs : s < 64) (hk : k < 6) (h : s.testBit k = true) : (sdiff s (2 ^ k) = 0 ↔ s = 2 ^ k) ∧ (sdiff s (2 ^ k)).testBit k = false := by
  have all : (List.range 64).all (fun s => (List.range 6).all fun k => !s.testBit k || ((sdiff s (2 ^ k) == 0) == (s == 2 ^ k)) && !(sdiff s (2 ^ k)).testBit k) = true := by decide +kernel
  have h1 := List.all_eq_true.1 (List.all_eq_true.1 all s (List.mem_range.2 hs)) k (List.mem_range.2 hk)
  simp only [h, Bool.not_true, Bool.false_or, Bool.and_eq_true, beq_iff_eq, Bool.not_eq_true'] at h1
  refine ⟨?_, h1.2⟩
  have h2 := h1.1
  constructor
  · intro e; rw [e] at h2; simpa using h2.symm
  · intro e; rw [e] at h2; rw [e]; simpa using h2
theorem rest_swap {s k i : Nat} (hs : s < 64) (hk : k < 6) (hi : i < 6) (hki : k ≠ i) (hb : s.testBit i = true) (hbk : s.testBit k = true) :
    sdiff (sdiff s (2 ^ i)) (2 ^ k) = sdiff (sdiff s (2 ^ k)) (2 ^ i) ∧ (sdiff s (2 ^ i)).testBit k = true ∧ sdiff s (2 ^ i) < s ∧ (sdiff s (2 ^ k)).testBit i = true := by
  have all : (List.range 64).all (fun s => (List.range 6).all fun k => (List.range 6).all fun i => k == i || !s.testBit i || !s.testBit k || ((sdiff (sdiff s (2 ^ i)) (2 ^ k) == sdiff (sdiff s (2 ^ k)) (2 ^ i)) && (sdiff s (2 ^ i)).testBit k && decide (sdiff s (2 ^ i) < s) && (sdiff s (2 ^ k)).testBit i)) = true := by decide +kernel
  have h1 := List.all_eq_true.1 (List.all_eq_true.1 (List.all_eq_true.1 all s (List.mem_range.2 hs)) k (List.mem_range.2 hk)) i (List.mem_range.2 hi)
  have e : (k == i) = false := by simpa using hki
  simp only [e, hb, hbk, Bool.not_true, Bool.false_or, Bool.and_eq_true, beq_iff_eq, decide_eq_true_eq] at h1
  exact ⟨h1.1.1.1, h1.1.1.2, h1.1.2, h1.2⟩
theorem two_in {s k : Nat} (h : s.testBit k = true) : 2 ^ k &&& s = 2 ^ k := by
  refine Nat.eq_of_testBit_eq fun i => ?_
  rw [Nat.testBit_and, Nat.testBit_two_pow]
  by_cases e : k = i
  · subst e; simp [h]
  · simp [e]
theorem rest_no {s k i : Nat} (hs : s < 64) (hk : k < 6) (hi : i < 6) (h : s.testBit i = false ∨ i = k) : (sdiff s (2 ^ k)).testBit i = false := by
  have h2k : 2 ^ k < 64 := by have : 2 ^ k < 2 ^ 6 := Nat.pow_lt_pow_right (by decide) hk; omega
  rw [sdiff_bit hs h2k hi]
  rcases h with h | h
  · rw [h]; rfl
  · subst h; rw [Nat.testBit_two_pow_self]; simp

theorem two_cells {W : World} {b : Nat} {A : Int} {B : Nat} (h : W.heap[b]? = some (.cells #[.int .i64 A, .int .i64 (B : Int)] 24)) : W.cell? ⟨b, 0, none⟩ = some (.int .i64 A) ∧ W.cell? ⟨b, 1, none⟩ = some (.int .i64 (B : Int)) := ⟨(fr_cells h).1, (fr_cells h).2.1⟩

set_option maxRecDepth 100000 in
set_option maxHeartbeats 8000000 in
theorem rlast_any (n cap : Nat) (z : Nat → Int) (k : Nat) (hk : k < n) (hn : n ≤ 6) (h9 : ∀ j, j < n → 1 ≤ z j ∧ z j ≤ 9) : ∀ (s : Nat) (a : Option Addr) (L : Nat) (w : World), s < 2 ^ n → s.testBit k = true → 1 ≤ L → LOk z L k (sdiff s (2 ^ k)) → Ints w a n z →
    Calls Try.prog 25 #[.slice a n cap, .int .i64 s, .int .i64 k] w fun e w' => QOut (laX z L s k) L w e w' := by
  intro s
  induction s using Nat.strongRecOn with
  | _ s ih =>
    intro a L w hs hb hL hok hz
    obtain ⟨b0, o0, rfl, _⟩ := hz 0 (by omega)
    have hs64 := lt64 hs hn
    have hzk := h9 k hk
    have h2r := two_of_rest hs64 (by omega) hb
    have hP2 : wrap64 ((2 : Int) ^ k) = ((2 ^ k : Nat) : Int) := wrap_two (by omega)
    have hP3 : IntKind.i64.wrap ((2 : Int) ^ k) = ((2 ^ k : Nat) : Int) := wrap_two' (by omega)
    have hk0 : (0 : Int) ≤ (k : Int) := by omega
    by_cases h0 : sdiff s (2 ^ k) = 0
    · have hsk := h2r.1.1 h0
      have G : ((s : Int) == wrap64 ((2 : Int) ^ k)) = true := by rw [hP2, hsk]; simp
      have hX : laX z L s k = L := by unfold laX; rw [h0, lX_zero (by omega)]
      have hf := fr_full hL
      have h1 := fr_one 1
      have HE : Hid (frA (laX z L s k) L = frA 1 1 ∧ frB (laX z L s k) L = frB 1 1) := by rw [Hid, hX, hf.1, hf.2, h1.1, h1.2]; exact ⟨rfl, rfl⟩
      have HW := Lib.hid (rwhole_any 1)
      have hP := Lib.hid (And.intro hP2 hP3)
      clear ih hz h9 hok h2r h0 hX hf h1 hs hb hsk hP2 hP3
      go_enter Try.func25, Try.ntmps25
      go_wp2_with fail
      refine (HW.out _).mono ?_
      rintro e w1 ⟨rfl, hb1⟩
      obtain ⟨s1, s2, s3, s4⟩ := fr_cells ((hb1.block w.heap.size (by simp)).trans (heap_alloc_new w _))
      have HB1 : Hid (Below w.heap.size w w1) := (below_one w _).trans (hb1.mono (by simp))
      clear hb1
      rw [← HE.out.1, ← HE.out.2]
      obtain ⟨A, hA⟩ : ∃ A, A = frA (laX z L s k) L := ⟨_, rfl⟩
      obtain ⟨B, hB⟩ : ∃ B, B = frB (laX z L s k) L := ⟨_, rfl⟩
      rw [← hA, ← hB]
      go_wp2
      exact bodyPost_ret (v := .agg #[.int .i64 A, .int .i64 (B : Int)]) (by simp [results, Try.results25, go_sem, s1, s2, hA, hB]) rfl ⟨by rw [hA, hB], (HB1.out.setCell (by simp) _).setCell (by simp) _⟩
    · have hsk : s ≠ 2 ^ k := fun h => h0 (h2r.1.2 h)
      have G : ((s : Int) == wrap64 ((2 : Int) ^ k)) = false := by rw [hP2]; exact beq_false_of_ne (fun h => hsk (Int.ofNat_inj.1 h))
      have hr := sdiff_lt (t := 2 ^ k) hs
      obtain ⟨P, hR⟩ := recF_any (z := z) hr hk h2r.2 h0 hn h9 (len5 hs64 (by omega) hb)
      have hos := ofS_diff z hs64 (show 2 ^ k < 64 by have : 2 ^ k < 2 ^ 6 := Nat.pow_lt_pow_right (by decide) (show k < 6 by omega); omega) (two_in hb)
      rw [of_two (by omega)] at hos
      have hofs := of_pos hs hn (fun h => by rw [h, Nat.zero_testBit] at hb; cases hb) h9
      obtain ⟨o, ho⟩ : ∃ o : Nat, ofS z s = o := ⟨(ofS z s).toNat, by omega⟩
      have hKe : (z k + ofS z (sdiff s (2 ^ k))) * (P : Int) = ((o * P : Nat) : Int) := by rw [Int.natCast_mul, ← ho, ← hos, Int.add_comm]
      have hKM := hR.PM
      have hbd := hR.bd
      have hen := hR.en L hL hok
      rw [hKe] at hKM hbd hen
      have ho1 : 1 ≤ o ∧ o ≤ 54 := by omega
      have hP1 := hR.P1
      have hK1 : 1 ≤ o * P := Nat.mul_pos (by omega) (by omega)
      have hPK : P ≤ o * P := Nat.le_mul_of_pos_left _ (by omega)
      have hfin := fr_same (a := laT z P k (sdiff s (2 ^ k)) n) (b := laX z L s k) hK1 hL hen
      have HFin : Hid (frA (laT z P k (sdiff s (2 ^ k)) n) (o * P) = frA (laX z L s k) L ∧ frB (laT z P k (sdiff s (2 ^ k)) n) (o * P) = frB (laX z L s k) L) := hfin
      have hr6 : sdiff s (2 ^ k) < 64 := lt64 hr hn
      have hin : ∀ i, i < n → s.testBit i = true → i ≠ k → i ∈ kindsL (sdiff s (2 ^ k)) := fun i hi hbi hik => List.mem_filter.2 ⟨List.mem_range.2 (by omega), (rest_swap hs64 (by omega) (by omega) (Ne.symm hik) hbi hb).2.2.2⟩
      have HLa : Hid (∀ i, i < n → s.testBit i = true → i ≠ k → ∀ W, Below w.heap.size w W → Calls Try.prog 25 #[.slice (some ⟨b0, o0, none⟩) n cap, .int .i64 ((sdiff s (2 ^ i) : Nat) : Int), .int .i64 k] W fun e w' => QOut (lX z P k (sdiff (sdiff s (2 ^ k)) (2 ^ i))) P W e w') := fun i hi hbi hik W hW => by
        obtain ⟨e1, e2, e3, e4⟩ := rest_swap hs64 (show k < 6 by omega) (show i < 6 by omega) (Ne.symm hik) hbi hb
        have h := ih (sdiff s (2 ^ i)) e3 (some ⟨b0, o0, none⟩) P W (sdiff_lt hs) e2 hP1 (by rw [e1]; exact hR.ok i (hin i hi hbi hik)) (hz.keep (Nat.le_refl _) hW)
        unfold laX at h
        rw [e1] at h
        exact h
      have HFr : Hid (∀ i, i < n → ∀ W, Calls Try.prog 54 #[.int .i64 (z i), .int .i64 o] W fun e w' => QOut (z i) o W e w') := fun i hi W => by
        have h := h9 i hi
        exact rfrac_any (z i) o W (by omega) (by omega) (by omega) ho1.1
      have hterm : ∀ i, i < n → s.testBit i = true → i ≠ k → 0 ≤ z i * lX z P k (sdiff (sdiff s (2 ^ k)) (2 ^ i)) ∧ z i * lX z P k (sdiff (sdiff s (2 ^ k)) (2 ^ i)) ≤ 9 * (P : Int) := fun i hi hbi hik => by
        have h := h9 i hi
        have hrg := hR.rg i (hin i hi hbi hik)
        exact ⟨Int.mul_nonneg (by omega) hrg.1, Int.mul_le_mul h.2 hrg.2 hrg.1 (by omega)⟩
      have hP60 : P ≤ 1152921504606846976 := by omega
      have hT9 : ∀ i, i < n → s.testBit i = true → i ≠ k → (z i * lX z P k (sdiff (sdiff s (2 ^ k)) (2 ^ i))).natAbs ≤ 1152921504606846976 := fun i hi hbi hik => by
        have hbi' := (rest_swap hs64 (show k < 6 by omega) (show i < 6 by omega) (Ne.symm hik) hbi hb).2.2.2
        have h1 := hbd i (by omega)
        have h2 := hbd (i + 1) (by omega)
        have e : laT z P k (sdiff s (2 ^ k)) (i + 1) = laT z P k (sdiff s (2 ^ k)) i + z i * lX z P k (sdiff (sdiff s (2 ^ k)) (2 ^ i)) := by unfold laT; rw [kindsTo_yes hbi', sumC_snoc]
        have h3 := (hterm i hi hbi hik).1
        omega
      have HTi : Hid (∀ i, i < n → s.testBit i = true → i ≠ k → ∀ W, Calls Try.prog 56 #[.agg #[.int .i64 (frA (z i) o), .int .i64 (frB (z i) o : Nat)], .agg #[.int .i64 (frA (lX z P k (sdiff (sdiff s (2 ^ k)) (2 ^ i))) P), .int .i64 (frB (lX z P k (sdiff (sdiff s (2 ^ k)) (2 ^ i))) P : Nat)]] W fun e w' => QOut (z i * lX z P k (sdiff (sdiff s (2 ^ k)) (2 ^ i))) (o * P) W e w') := fun i hi hbi hik W => by
        have h := h9 i hi
        have hrg := hR.rg i (hin i hi hbi hik)
        have h2 := hT9 i hi hbi hik
        have a1 := frA_abs (z i * lX z P k (sdiff (sdiff s (2 ^ k)) (2 ^ i))) (L := o * P) hK1
        have a2 := frB_le (z i * lX z P k (sdiff (sdiff s (2 ^ k)) (2 ^ i))) (o * P)
        exact rtimes_any _ _ o P W ho1.1 hP1 (by omega) (by omega) (by omega) (by omega) (by omega) (by omega)
      have HPl : Hid (∀ i, i < n → s.testBit i = true → i ≠ k → ∀ W, Calls Try.prog 55 #[.agg #[.int .i64 (frA (laT z P k (sdiff s (2 ^ k)) i) (o * P)), .int .i64 (frB (laT z P k (sdiff s (2 ^ k)) i) (o * P) : Nat)], .agg #[.int .i64 (frA (z i * lX z P k (sdiff (sdiff s (2 ^ k)) (2 ^ i))) (o * P)), .int .i64 (frB (z i * lX z P k (sdiff (sdiff s (2 ^ k)) (2 ^ i))) (o * P) : Nat)]] W fun e w' => QOut (laT z P k (sdiff s (2 ^ k)) (i + 1)) (o * P) W e w') := fun i hi hbi hik W => by
        have hbi' := (rest_swap hs64 (show k < 6 by omega) (show i < 6 by omega) (Ne.symm hik) hbi hb).2.2.2
        have e : laT z P k (sdiff s (2 ^ k)) (i + 1) = laT z P k (sdiff s (2 ^ k)) i + z i * lX z P k (sdiff (sdiff s (2 ^ k)) (2 ^ i)) := by unfold laT; rw [kindsTo_yes hbi', sumC_snoc]
        rw [e]
        have h1 := hbd i (by omega)
        have h2 := hT9 i hi hbi hik
        exact rplus_any _ _ (o * P) W hK1 (by omega) (by omega) (by omega)
      have HNo : Hid (∀ i, i < n → (s.testBit i = false ∨ i = k) → laT z P k (sdiff s (2 ^ k)) (i + 1) = laT z P k (sdiff s (2 ^ k)) i) := fun i hi h => by
        unfold laT; rw [kindsTo_no (rest_no hs64 (by omega) (by omega) h)]
      have HSum := Lib.hid (fun W (hW : Below w.heap.size w W) => rsum_any (some ⟨b0, o0, none⟩) n cap z s W hs hn (hz.keep (Nat.le_refl _) hW) h9)
      rw [ho] at HSum
      have HZ := Lib.hid hz
      have HW := Lib.hid (rwhole_any 0)
      have h1 := fr_one 0
      have hz0 := fr_zero (L := o * P) hK1
      have HE : Hid (frA 0 1 = frA (laT z P k (sdiff s (2 ^ k)) 0) (o * P) ∧ frB 0 1 = frB (laT z P k (sdiff s (2 ^ k)) 0) (o * P)) := ⟨h1.1.trans hz0.1.symm, h1.2.trans hz0.2.symm⟩
      obtain ⟨T, hT⟩ : ∃ T : Nat → Int, T = laT z P k (sdiff s (2 ^ k)) := ⟨_, rfl⟩
      obtain ⟨Y, hY⟩ : ∃ Y : Nat → Int, Y = fun i => lX z P k (sdiff (sdiff s (2 ^ k)) (2 ^ i)) := ⟨_, rfl⟩
      have hY' : ∀ i, lX z P k (sdiff (sdiff s (2 ^ k)) (2 ^ i)) = Y i := fun i => by rw [hY]
      obtain ⟨K, hK⟩ : ∃ K, K = o * P := ⟨_, rfl⟩
      simp only [← hT, ← hK] at HFin HPl HNo HE
      simp only [hY', ← hK] at HLa HTi HPl
      have hs62 : s < 2 ^ 62 := Nat.lt_of_lt_of_le hs64 (by decide)
      clear ih hz hok h2r h0 hsk hR hos hofs ho hKe hKM hbd hen ho1 hP1 hK1 hPK hfin hr6 hin hterm hP60 hT9 h1 hz0 hT hY hY' hK hr hb hP2 hP3
      go_enter Try.func25, Try.ntmps25
      go_wp2_with fail
      refine (HW.out _).mono ?_
      rintro e w1 ⟨rfl, hb1⟩
      rw [HE.out.1, HE.out.2]
      have HB1 : Hid (Below w.heap.size w w1) := (below_one w _).trans (hb1.mono (by simp))
      have hr1 : w1.heap[w.heap.size]? = some (.cells #[.int .i64 0, .int .i64 0] 24) := (hb1.block _ (by simp)).trans (heap_alloc_new w _)
      have hs1 : w.heap.size < w1.heap.size := by have := hb1.size; simp at this; omega
      obtain ⟨W2, hW2⟩ : ∃ W2, W2 = w1.alloc (.cells #[.int .i64 (frA (T 0) K), .int .i64 (frB (T 0) K : Nat)] 24) := ⟨_, rfl⟩
      have HFB : Hid (FrBox W2 w1.heap.size (T 0) K) := by rw [hW2]; exact heap_alloc_new w1 _
      have HB2 : Hid (Below w.heap.size w W2) := by rw [hW2]; exact HB1.out.alloc HB1.out.size _
      have HR2 : Hid (W2.heap[w.heap.size]? = some (.cells #[.int .i64 0, .int .i64 0] 24)) := by rw [hW2]; exact (Below.heap_alloc _ _ _ hs1).trans hr1
      have hs2 : W2.heap.size = w1.heap.size + 1 := by rw [hW2]; simp
      have HWe := Lib.hid hW2
      clear hW2 hb1 hr1 HB1
      go_wp2
      rw [← HWe.out]
      go_loopw [8, 9, 18] (fun _ _ i wr => ∃ j : Nat, j ≤ n ∧ i = .int .i64 j ∧ FrBox wr w1.heap.size (T j) K ∧ Below w1.heap.size W2 wr) (fun _ _ i _ => n - (intOf i).toNat)
      case atStart => exact ⟨0, Nat.zero_le _, rfl, HFB.out, Below.refl _ _⟩
      case round =>
        obtain ⟨j, hj, rfl, hbx, hbl⟩ := hrel
        obtain ⟨q1, q2, q3, q4⟩ := fr_cells hbx
        have HBX := Lib.hid hbx
        have HBL := Lib.hid hbl
        have hsz := hbl.size
        have HBw := Lib.hid (HB2.out.trans (hbl.mono (by omega)))
        clear hbx hbl
        by_cases hlt : j < n
        · have hj0 : (0 : Int) ≤ (j : Int) := by omega
          have hltI : (j : Int) < (n : Int) := by omega
          obtain ⟨b', o', he, hcx⟩ := (HZ.out.keep (Nat.le_refl _) HBw.out) j hlt
          cases he
          have hbj := bit_at s j hs62
          by_cases hbit : s.testBit j = true
          · rw [hbit] at hbj
            by_cases hik : j = k
            · have G2 : ((j : Int) != (k : Int)) = false := by simp [hik]
              have HNj := Lib.hid (HNo.out j hlt (Or.inr hik))
              clear hbit hik
              go_wp2
              go_roundw
              case rel => exact ⟨j + 1, by omega, by go_num, by rw [HNj.out]; exact HBX.out, HBL.out⟩
              case measure => simp [intOf]; omega
            · have G2 : ((j : Int) != (k : Int)) = true := by simp; omega
              have HLj := Lib.hid (HLa.out j hlt hbit hik)
              have HFj := Lib.hid (HFr.out j hlt)
              have HTj := Lib.hid (HTi.out j hlt hbit hik)
              have HPj := Lib.hid (HPl.out j hlt hbit hik)
              have HP2 : Hid (wrap64 ((2 : Int) ^ j) = ((2 ^ j : Nat) : Int)) := wrap_two (by omega)
              have HP3 : Hid (IntKind.i64.wrap ((2 : Int) ^ j) = ((2 ^ j : Nat) : Int)) := wrap_two' (by omega)
              have HAN : Hid (bits .andNot .i64 (s : Int) (((2 ^ j : Nat)) : Int) = ((sdiff s (2 ^ j) : Nat) : Int)) := andNot_nat hs64 (by have : 2 ^ j < 2 ^ 6 := Nat.pow_lt_pow_right (by decide) (show j < 6 by omega); omega)
              clear hbit hik
              go_wp2
              go_region_with (first
                | (go_at_call 47; refine (HSum.out _ HBw.out.drew).mono ?_; rintro e w' ⟨rfl, rfl⟩)
                | (go_at_call 54; refine (HFj.out _).mono ?_; rintro e w3 ⟨rfl, hb3⟩; have HB3 := Lib.hid (band HBw.out (below_drew1 hb3)); have HQ3 := Lib.hid (frAt HBX.out (below_drew1 hb3)); have HLw := Lib.hid (HLj.out w3 HB3.out); obtain ⟨x1, x2, x3, x4⟩ := fr_cells HQ3.out; have HBd3 := Lib.hid (below_drew1 hb3); clear hb3)
                | (go_at_call 25; (first | rw [HP2.out] | rw [HP3.out] | skip); rw [HAN.out]; refine HLw.out.mono ?_; rintro e w4 ⟨rfl, hb4⟩; have HB4 := Lib.hid (band HB3.out hb4); have HQ4 := Lib.hid (frAt HQ3.out hb4); obtain ⟨y1, y2, y3, y4⟩ := fr_cells HQ4.out; have HBd4 := Lib.hid (HBd3.out.trans (hb4.mono HBd3.out.size)); clear hb4)
                | (go_at_call 56; refine (HTj.out _).mono ?_; rintro e w5 ⟨rfl, hb5⟩; have HB5 := Lib.hid (band HB4.out hb5); have HQ5 := Lib.hid (frAt HQ4.out hb5); obtain ⟨z1, z2, z3, z4⟩ := fr_cells HQ5.out; have HBd5 := Lib.hid (HBd4.out.trans (hb5.mono HBd4.out.size)); clear hb5)
                | (go_at_call 55; refine (HPj.out _).mono ?_; rintro e w6 ⟨rfl, hb6⟩; have HB6 := Lib.hid (band HB5.out hb6); have HQ6 := Lib.hid (frAt HQ5.out hb6); obtain ⟨u1, u2, u3, u4⟩ := fr_cells HQ6.out; have HBd6 := Lib.hid (HBd5.out.trans (hb6.mono HBd5.out.size)); clear hb6))
              all_goals
                have HN : Hid (FrBox ((w6.setCell ⟨w1.heap.size, 0, none⟩ (.int .i64 (frA (T (j + 1)) K))).setCell ⟨w1.heap.size, 1, none⟩ (.int .i64 (frB (T (j + 1)) K : Nat))) w1.heap.size (T (j + 1)) K) := FrBox.set HQ6.out _ _
                have HBn : Hid (Below w1.heap.size W2 ((w6.setCell ⟨w1.heap.size, 0, none⟩ (.int .i64 (frA (T (j + 1)) K))).setCell ⟨w1.heap.size, 1, none⟩ (.int .i64 (frB (T (j + 1)) K : Nat)))) := (HBL.out.trans (HBd6.out.mono (by omega))).trans (below_set2 w6 w1.heap.size _ _)
                go_wp2
                go_roundw
                case rel => exact ⟨j + 1, by omega, by go_num, HN.out, HBn.out⟩
                case measure => simp [intOf]; omega
          · have hbit : s.testBit j = false := by simpa using hbit
            rw [hbit] at hbj
            have HNj := Lib.hid (HNo.out j hlt (Or.inl hbit))
            clear hbit
            go_wp2
            go_roundw
            case rel => exact ⟨j + 1, by omega, by go_num, by rw [HNj.out]; exact HBX.out, HBL.out⟩
            case measure => simp [intOf]; omega
        · have e : j = n := by omega
          have HFn : Hid (frA (T j) K = frA (laX z L s k) L ∧ frB (T j) K = frB (laX z L s k) L) := by rw [Hid, e]; exact HFin.out
          have hge : (n : Int) ≤ j := by omega
          have hres : wr.heap[w.heap.size]? = some (.cells #[.int .i64 0, .int .i64 0] 24) := (HBL.out.block _ hs1).trans HR2.out
          obtain ⟨r1, r2, r3, r4⟩ := fr_cells hres
          obtain ⟨A, hA⟩ : ∃ A, A = frA (T j) K := ⟨_, rfl⟩
          obtain ⟨B, hB⟩ : ∃ B, B = frB (T j) K := ⟨_, rfl⟩
          rw [← hA, ← hB] at HFn
          rw [← hA] at q1
          rw [← hB] at q2
          clear e hA hB hres
          go_wp2
          exact bodyPost_ret (v := .agg #[.int .i64 A, .int .i64 (B : Int)]) (by simp [results, Try.results25, go_sem, r1, r2]) rfl ⟨by rw [HFn.out.1, HFn.out.2], (HBw.out.setCell (by simp) _).setCell (by simp) _⟩
end Go.Proofs.Ytgednacoeifclaa
