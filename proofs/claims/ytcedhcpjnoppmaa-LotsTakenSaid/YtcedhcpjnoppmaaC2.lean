import Derived.Test.YtcedhcpjnoppmaaC1
namespace Go.Proofs.Ytcedhcpjnoppmaa
open Go.RowKit Go.Maps

theorem after_r (r : Int) (aT : Option Addr) (nT cT : Nat) (aL : Option Addr) (nL cL : Nat) (T L : Nat → Int) (i : Nat) (b : Int) (w : World)
    (hT : Ints w aT nT T) (hL : Ints w aL nL L) (hi : i < nT) (hi2 : i < nL) (hi3 : nT ≤ 12) (hr : av T L i b = r) :
    Calls Try.prog 78 #[plV aT nT cT aL nL cL, .int .i64 ((i : Int) + 1), .int .i64 b] w fun e w' => e = .returned (.int .i64 r) ∧ Below w.heap.size w w' := by
  subst hr; exact after_any aT nT cT aL nL cL T L i b w hT hL hi hi2 hi3

/-- What the inner loop's map reads as. -/
def inF (Y O : Int) (T L : Nat → Int) (k : Nat) (lf : Int → Bool) (z : Int) : Int := if lf z then fu Y O (op Y O T L k) z else op Y O T L (k + 1) z

theorem inF_set {Y O : Int} {T L : Nat → Int} {k : Nat} {lf : Int → Bool} {j : Nat} (_ : lf j = true) (h0 : av T L k j = 0) (z : Int) : inF Y O T L k lf z = inF Y O T L k (fun z => lf z && !(z == (j : Int))) z := by
  unfold inF
  by_cases e : z = (j : Int)
  · subst e; simp [op, h0]
  · simp [e]
theorem inF_del {Y O : Int} {T L : Nat → Int} {k : Nat} {lf : Int → Bool} {j : Nat} (h0 : av T L k j ≠ 0) (z : Int) : (if z = (j : Int) then 0 else inF Y O T L k lf z) = inF Y O T L k (fun z => lf z && !(z == (j : Int))) z := by
  unfold inF
  by_cases e : z = (j : Int)
  · subst e; simp [op, h0]
  · simp [e]

/-- Ahead of each round of the inner loop. -/
structure InAt (aT : Option Addr) (nT cT : Nat) (aL : Option Addr) (nL cL : Nat) (Y O : Int) (T L : Nat → Int) (w : World) (k b r m : Nat) (wr : World) (lf : Int → Bool) (cnt : Nat) : Prop where
  base : CnBase aT nT cT aL nL cL Y O w wr (tk Y O T L k * O + sumN (dn lf (tf Y O T L k)) (k + 2)) (lk Y O T L k * O + sumN (dn lf (fu Y O (op Y O T L k))) (k + 2)) (O ^ (k + 1))
  rng : RangesAt wr b r m (k + 1) (inF Y O T L k lf) lf cnt
  hb : w.heap.size + 4 ≤ b
  hr : w.heap.size + 4 ≤ r

/-- Ahead of each round of the outer loop. -/
structure OutAt (aT : Option Addr) (nT cT : Nat) (aL : Option Addr) (nL cL : Nat) (Y O : Int) (T L : Nat → Int) (w : World) (k b m : Nat) (wr : World) : Prop where
  base : CnBase aT nT cT aL nL cL Y O w wr (tk Y O T L k) (lk Y O T L k) (O ^ k)
  ways : WaysAt wr b m k (op Y O T L k)
  hb : w.heap.size + 4 ≤ b
  hm : m ≤ 2 ^ k

theorem two_pow {k : Nat} (h : k ≤ 12) : 2 ^ k ≤ 4096 := by
  have := Nat.pow_le_pow_right (n := 2) (by omega) h
  exact this

theorem pow_nonneg' {O : Int} (h : 0 ≤ O) (k : Nat) : 0 ≤ O ^ k := Int.pow_nonneg h

/-- Small enough for the machine: what the tally holds, times a number of kinds. -/
theorem tally_bd {Y O : Int} {T L : Nat → Int} (hY : 0 ≤ Y) (hO : Y ≤ O) (h1 : 1 ≤ O) (h12 : O ≤ 12) {k : Nat} (hk : k < 12) :
    (0 ≤ tk Y O T L k * O ∧ tk Y O T L k * O ≤ 107000000000000) ∧ (0 ≤ lk Y O T L k * O ∧ lk Y O T L k * O ≤ 107000000000000) ∧ (0 ≤ O ^ k * O ∧ O ^ k * O ≤ 107000000000000) ∧ ∀ z, 0 ≤ op Y O T L k z ∧ op Y O T L k z ≤ 743008370688 := by
  have hp := pow_max h1 h12 (i := k + 1) (by omega)
  have hp2 : 0 ≤ O ^ k := pow_nonneg' (by omega) k
  have hp11 : O ^ k ≤ 743008370688 := by
    have h2 := (pow_base (by omega) h12 k).2
    have h3 : (12 : Int) ^ k ≤ 12 ^ 11 := pow_mono (by omega) (by omega)
    have h4 : (12 : Int) ^ 11 = 743008370688 := by decide
    omega
  rw [Int.pow_succ] at hp
  have ht := tk_le (T := T) (L := L) hY hO k
  have hl := lk_le (T := T) (L := L) hY hO k
  have hs := sumN_nonneg (f := op Y O T L k) (k + 1) (fun j _ => op_nonneg hY hO k j)
  have a1 := Int.mul_nonneg ht.1 (show 0 ≤ O by omega)
  have a2 := Int.mul_nonneg hl.1 (show 0 ≤ O by omega)
  have a3 : tk Y O T L k * O ≤ O ^ k * O := Int.mul_le_mul_of_nonneg_right (by omega) (by omega)
  have a4 : lk Y O T L k * O ≤ k * O ^ k * O := Int.mul_le_mul_of_nonneg_right hl.2 (by omega)
  have a5 : (k : Int) * O ^ k * O ≤ 12 * (O ^ k * O) := by
    rw [Int.mul_assoc]; exact Int.mul_le_mul_of_nonneg_right (by omega) (by omega)
  refine ⟨⟨a1, by omega⟩, ⟨a2, by omega⟩, ⟨by omega, by omega⟩, fun z => ⟨(op_bd hY hO k z).1, Int.le_trans (op_bd hY hO k z).2 hp11⟩⟩

theorem dn_le {lf : Int → Bool} {f : Int → Int} (h : ∀ z, 0 ≤ f z) (z : Int) : 0 ≤ dn lf f z ∧ dn lf f z ≤ f z := by
  have := h z
  unfold dn; split <;> omega

/-- One more key is done. -/
theorem dn_sum {lf : Int → Bool} {f : Int → Int} {j n : Nat} (hl : lf j = true) (hj : j < n) : sumN (dn (fun z => lf z && !(z == (j : Int))) f) n = sumN (dn lf f) n + f j := by
  rw [sumN_set (f := dn lf f) j n hj (fun i hi => by rw [dn_set hl, if_neg (by omega)]), dn_set hl, if_pos rfl, dn_left hl]; omega
theorem dn_sum_bd {lf : Int → Bool} {f : Int → Int} {j n : Nat} (hl : lf j = true) (hj : j < n) (h : ∀ z, 0 ≤ f z) : 0 ≤ sumN (dn lf f) n ∧ 0 ≤ f j ∧ sumN (dn lf f) n + f j ≤ sumN f n := by
  refine ⟨sumN_nonneg n fun i _ => (dn_le h i).1, h j, ?_⟩
  rw [← dn_sum hl hj]
  exact sumN_le n fun i _ => (dn_le h i).2

theorem in_start {aT : Option Addr} {nT cT : Nat} {aL : Option Addr} {nL cL : Nat} {Y O : Int} {T L : Nat → Int} {w : World} {k b m : Nat} {wr w0 : World} {lf : Int → Bool} {cnt : Nat}
    (hB : CnBase aT nT cT aL nL cL Y O w wr (tk Y O T L k * O) (lk Y O T L k * O) (O ^ k * O)) (hr : RangesAt w0 b wr.heap.size m (k + 1) (fu Y O (op Y O T L k)) lf cnt) (hz : ∀ z, lf z = false → fu Y O (op Y O T L k) z = 0)
    (hg : wr.grownBy w0 none) (hb : w.heap.size + 4 ≤ b) : InAt aT nT cT aL nL cL Y O T L w k b wr.heap.size m w0 lf cnt := by
  have e1 : ∀ (f : Int → Int), (∀ z, lf z = false → f z = 0) → sumN (dn lf f) (k + 2) = 0 := fun f hf => sumN_zero _ fun j _ => by
    unfold dn
    cases e : lf j
    · simp [hf j e]
    · simp
  have e2 : ∀ z, lf z = false → tf Y O T L k z = 0 := fun z h => by unfold tf; rw [hz z h]; simp
  refine ⟨?_, hr.congr (fun z => ?_) (fun _ => rfl), hb, hB.size⟩
  · rw [e1 _ e2, e1 _ hz, Int.add_zero, Int.add_zero, Int.pow_succ]; exact hB.grown hg (fun _ h => by cases h)
  · unfold inF
    cases e : lf z
    · simp [op, hz z e]
    · simp

theorem in_end {aT : Option Addr} {nT cT : Nat} {aL : Option Addr} {nL cL : Nat} {Y O : Int} {T L : Nat → Int} {w : World} {k b r m : Nat} {wr : World} {lf : Int → Bool} {cnt : Nat}
    (h : InAt aT nT cT aL nL cL Y O T L w k b r m wr lf cnt) (hl : ∀ z, lf z = false) (hm : m ≤ 2 ^ (k + 1)) : OutAt aT nT cT aL nL cL Y O T L w (k + 1) b m wr := by
  refine ⟨?_, h.rng.ways.congr fun z => by simp [inF, hl], h.hb, hm⟩
  have hB := h.base
  rw [sumN_congr (f := dn lf (tf Y O T L k)) (k + 2) (fun j _ => dn_end hl j), sumN_congr (f := dn lf (fu Y O (op Y O T L k))) (k + 2) (fun j _ => dn_end hl j)] at hB
  exact hB

theorem in_step {aT : Option Addr} {nT cT : Nat} {aL : Option Addr} {nL cL : Nat} {Y O : Int} {T L : Nat → Int} {w : World} {k b r m j : Nat} {wr wz : World} {lf : Int → Bool} {cnt cnt1 : Nat} {t l : Int} {f : Int → Int}
    (h : InAt aT nT cT aL nL cL Y O T L w k b r m wr lf cnt) (hl : lf j = true) (hj : j ≤ k + 1) (hB : CnBase aT nT cT aL nL cL Y O w wz t l (O ^ (k + 1)))
    (ht : t = tk Y O T L k * O + sumN (dn lf (tf Y O T L k)) (k + 2) + tf Y O T L k j) (hl2 : l = lk Y O T L k * O + sumN (dn lf (fu Y O (op Y O T L k))) (k + 2) + fu Y O (op Y O T L k) j)
    (hr : RangesAt wz b r m (k + 1) f (fun z => lf z && !(z == (j : Int))) cnt1) (hf : ∀ z, f z = inF Y O T L k (fun z => lf z && !(z == (j : Int))) z) :
    InAt aT nT cT aL nL cL Y O T L w k b r m wz (fun z => lf z && !(z == (j : Int))) cnt1 := by
  refine ⟨?_, hr.congr hf (fun _ => rfl), h.hb, h.hr⟩
  rw [dn_sum hl (by omega), dn_sum hl (by omega), ← Int.add_assoc, ← Int.add_assoc, ← ht, ← hl2]; exact hB

theorem in_bd {Y O : Int} {T L : Nat → Int} {k j : Nat} {lf : Int → Bool} (hY : 0 ≤ Y) (hO : Y ≤ O) (h1 : 1 ≤ O) (h12 : O ≤ 12) (hk : k < 12) (hl : lf j = true) (hj : j ≤ k + 1) :
    (0 ≤ tk Y O T L k * O + sumN (dn lf (tf Y O T L k)) (k + 2) ∧ tk Y O T L k * O + sumN (dn lf (tf Y O T L k)) (k + 2) ≤ 107000000000000) ∧
    (0 ≤ lk Y O T L k * O + sumN (dn lf (fu Y O (op Y O T L k))) (k + 2) ∧ lk Y O T L k * O + sumN (dn lf (fu Y O (op Y O T L k))) (k + 2) ≤ 107000000000000) ∧
    0 ≤ fu Y O (op Y O T L k) j ∧ fu Y O (op Y O T L k) j ≤ 107000000000000 := by
  have hp := pow_max h1 h12 (i := k + 1) (by omega)
  have ht := tk_le (T := T) (L := L) hY hO (k + 1)
  have hL := lk_le (T := T) (L := L) hY hO (k + 1)
  have hs := sumN_nonneg (f := op Y O T L (k + 1)) (k + 1 + 1) (fun j _ => op_nonneg hY hO (k + 1) j)
  have b1 := dn_sum_bd (f := tf Y O T L k) hl (show j < k + 2 by omega) (fun z => tf_nonneg hY hO k z)
  have b2 := dn_sum_bd (f := fu Y O (op Y O T L k)) hl (show j < k + 2 by omega) (fun z => fu_nonneg hY hO (op_nonneg hY hO k) z)
  have c1 := tk_le (T := T) (L := L) hY hO k
  have c2 := lk_le (T := T) (L := L) hY hO k
  have d1 := Int.mul_nonneg c1.1 (show 0 ≤ O by omega)
  have d2 := Int.mul_nonneg c2.1 (show 0 ≤ O by omega)
  have e1 : tk Y O T L (k + 1) = tk Y O T L k * O + sumN (tf Y O T L k) (k + 2) := rfl
  have e2 : lk Y O T L (k + 1) = lk Y O T L k * O + sumN (fu Y O (op Y O T L k)) (k + 2) := rfl
  have e3 : ((k + 1 : Nat) : Int) * O ^ (k + 1) ≤ 12 * O ^ (k + 1) := Int.mul_le_mul_of_nonneg_right (by omega) (by omega)
  omega

end Go.Proofs.Ytcedhcpjnoppmaa
