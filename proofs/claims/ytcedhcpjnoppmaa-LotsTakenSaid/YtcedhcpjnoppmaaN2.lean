import Derived.Test.YtcedhcpjnoppmaaN1
import Derived.Test.YtcedhcpjnoppmaaC2
import Derived.Test.YtcedhcpjnoppmaaV3
import Derived.BigRegion
namespace Go.Proofs.Ytcedhcpjnoppmaa
open Go.RowKit

theorem make_int (n : Nat) (hn : n ≤ 20) (W : World) : (Instr.makeSlice 22 (.int .i64 (n : Int)) (.int .i64 (n : Int))).run Try.prog W = .ok (.slice (some ⟨W.heap.size, 0, none⟩) n n) (W.alloc (.cells (madeCells #[.int .i64 0] n) 3)) := by
  obtain ⟨i0, hi, hz0, hz1, hz2⟩ := info_parts Try.info3
  have := run_make (P := Try.prog) W 22 3 i0 (.int .i64 0) Try.underlying22 hi hz0 .i64 .i64 (n : Int) (n : Int) (by omega) (Int.le_refl _) (by rw [hz2]; omega) (by omega)
  rw [hz1] at this
  simp only [Int.toNat_natCast, Nat.mul_one] at this
  exact this

theorem set_new (W : World) (cs : Array Value) (T : TypeId) (j : Nat) (v : Value) : (W.alloc (.cells cs T)).setCell ⟨W.heap.size, j, none⟩ v = W.alloc (.cells (cs.setIfInBounds j v) T) := by
  simp [go_sem]

/-- The boxes of a plan and of a Chance. -/
structure NmAt (aT : Option Addr) (nT cT : Nat) (aL : Option Addr) (nL cL : Nat) (Y O : Int) (w wr : World) : Prop where
  pl : wr.heap[w.heap.size]? = some (.cells #[.slice aT nT cT, .slice aL nL cL] 24)
  ch : wr.heap[w.heap.size + 1]? = some (.cells #[.int .i64 Y, .int .i64 O] 26)
  bel : Below w.heap.size w wr
  size : w.heap.size + 2 ≤ wr.heap.size

section
variable {aT : Option Addr} {nT cT : Nat} {aL : Option Addr} {nL cL : Nat} {Y O : Int} {w wr : World}
theorem NmAt.start (w : World) : NmAt aT nT cT aL nL cL Y O w ((w.alloc (.cells #[.slice aT nT cT, .slice aL nL cL] 24)).alloc (.cells #[.int .i64 Y, .int .i64 O] 26)) :=
  ⟨heap_two1 _ _ _, heap_two2 _ _ _, below_two _ _ _, by simp⟩
theorem NmAt.keep (h : NmAt aT nT cT aL nL cL Y O w wr) {wr' : World} {B : Nat} (hB : w.heap.size + 2 ≤ B) (hb : Below B wr wr') : NmAt aT nT cT aL nL cL Y O w wr' :=
  ⟨by rw [hb.block _ (by omega)]; exact h.pl, by rw [hb.block _ (by omega)]; exact h.ch, h.bel.trans (hb.mono (by omega)), Nat.le_trans h.size hb.size⟩
theorem NmAt.set (h : NmAt aT nT cT aL nL cL Y O w wr) {a : Addr} (ha : w.heap.size + 2 ≤ a.block) (v : Value) : NmAt aT nT cT aL nL cL Y O w (wr.setCell a v) :=
  h.keep (Nat.le_refl _) ((Below.refl _ _).setCell ha v)
theorem NmAt.drew (h : NmAt aT nT cT aL nL cL Y O w wr) : NmAt aT nT cT aL nL cL Y O w wr.drew := ⟨h.pl, h.ch, h.bel.drew, h.size⟩
theorem NmAt.drewN (h : NmAt aT nT cT aL nL cL Y O w wr) (q : Nat) : NmAt aT nT cT aL nL cL Y O w (wr.drewN q) := ⟨h.pl, h.ch, below_drewN h.bel q, h.size⟩
theorem NmAt.cells (h : NmAt aT nT cT aL nL cL Y O w wr) : wr.cell? ⟨w.heap.size, 0, none⟩ = some (.slice aT nT cT) ∧ wr.cell? ⟨w.heap.size, 1, none⟩ = some (.slice aL nL cL) ∧ wr.cell? ⟨w.heap.size + 1, 0, none⟩ = some (.int .i64 Y) ∧ wr.cell? ⟨w.heap.size + 1, 1, none⟩ = some (.int .i64 O) :=
  ⟨block_cell h.pl 0, block_cell h.pl 1, block_cell h.ch 0, block_cell h.ch 1⟩
end

/-- Ahead of the outer loop's rounds: i items were looked at. -/
structure NuAt (aT : Option Addr) (nT cT : Nat) (aL : Option Addr) (nL cL : Nat) (Y O : Int) (T L : Nat → Int) (n : Nat) (w : World) (i b : Nat) (wr : World) : Prop where
  base : NmAt aT nT cT aL nL cL Y O w wr
  now : SumAt wr b (n + 1) (fun j => op Y O T L i j)
  hb : w.heap.size + 2 ≤ b

/-- All the numbers are small. -/
theorem num_bd {Y O : Int} {T L : Nat → Int} (hY : 0 ≤ Y) (hO : Y ≤ O) (h1 : 1 ≤ O) (h12 : O ≤ 12) {n i : Nat} (hn : n ≤ 12) (hi : i < n) :
    (∀ z, 0 ≤ op Y O T L i z ∧ op Y O T L i z ≤ 743008370688) ∧ 1 ≤ O ^ (n - i - 1) ∧ O ^ (n - i - 1) ≤ 8916100448256 ∧
    (∀ z, 0 ≤ op Y O T L i z * O * O ^ (n - i - 1) ∧ op Y O T L i z * O * O ^ (n - i - 1) ≤ 8916100448256) ∧
    (∀ z, 0 ≤ fu Y O (op Y O T L i) z * O ^ (n - i - 1) ∧ fu Y O (op Y O T L i) z * O ^ (n - i - 1) ≤ 8916100448256) ∧
    (0 ≤ lk Y O T L i * O ^ (n - i) ∧ lk Y O T L i * O ^ (n - i) ≤ 106993205379072) ∧ (0 ≤ tk Y O T L i * O ^ (n - i) ∧ tk Y O T L i * O ^ (n - i) ≤ 106993205379072) := by
  have hp := pow_max h1 h12 (i := n - i - 1) (by omega)
  have hN := pow_max h1 h12 (i := n) hn
  have hpi : 0 ≤ O ^ i := Int.pow_nonneg (by omega)
  have e1 : O ^ i * O * O ^ (n - i - 1) = O ^ n := by rw [← Int.pow_succ, ← Int.pow_add]; congr 1; omega
  have e2 : O ^ i * O ^ (n - i) = O ^ n := by rw [← Int.pow_add]; congr 1; omega
  have hl := lk_le (T := T) (L := L) hY hO i
  have ht := tk_le (T := T) (L := L) hY hO i
  have hs := sumN_nonneg (f := op Y O T L i) (i + 1) (fun j _ => op_nonneg hY hO i j)
  have hp0 : 0 ≤ O ^ (n - i) := Int.pow_nonneg (by omega)
  have hbt := tally_bd (T := T) (L := L) hY hO h1 h12 (show i < 12 by omega)
  refine ⟨hbt.2.2.2, hp.1, hp.2, fun z => ?_, fun z => ?_, ?_, ?_⟩
  · have hz := op_bd (T := T) (L := L) hY hO i z
    have a1 := Int.mul_nonneg hz.1 (show 0 ≤ O by omega)
    have a2 := Int.mul_nonneg a1 (show 0 ≤ O ^ (n - i - 1) by omega)
    have a3 : op Y O T L i z * O ≤ O ^ i * O := Int.mul_le_mul_of_nonneg_right hz.2 (by omega)
    have a4 : op Y O T L i z * O * O ^ (n - i - 1) ≤ O ^ i * O * O ^ (n - i - 1) := Int.mul_le_mul_of_nonneg_right a3 (by omega)
    omega
  · have hz := fu_bd (T := T) (L := L) hY hO i z
    have a2 := Int.mul_nonneg hz.1 (show 0 ≤ O ^ (n - i - 1) by omega)
    rw [Int.pow_succ] at hz
    have a4 : fu Y O (op Y O T L i) z * O ^ (n - i - 1) ≤ O ^ i * O * O ^ (n - i - 1) := Int.mul_le_mul_of_nonneg_right hz.2 (by omega)
    omega
  · have a1 := Int.mul_nonneg hl.1 hp0
    have a2 : lk Y O T L i * O ^ (n - i) ≤ i * O ^ i * O ^ (n - i) := Int.mul_le_mul_of_nonneg_right hl.2 hp0
    have a3 : (i : Int) * O ^ i * O ^ (n - i) ≤ 12 * O ^ n := by
      rw [Int.mul_assoc, e2]; exact Int.mul_le_mul_of_nonneg_right (by omega) (by omega)
    omega
  · have a1 := Int.mul_nonneg ht.1 hp0
    have a2 : tk Y O T L i * O ^ (n - i) ≤ O ^ i * O ^ (n - i) := Int.mul_le_mul_of_nonneg_right (by omega) hp0
    omega

theorem sumN_bd {f : Int → Int} {M : Int} (h : ∀ z, 0 ≤ f z ∧ f z ≤ M) : ∀ k : Nat, 0 ≤ sumN f k ∧ sumN f k ≤ k * M
  | 0 => by simp [sumN]
  | k + 1 => by
    have h1 := sumN_bd h k
    have h2 := h k
    have e : ((k + 1 : Nat) : Int) * M = k * M + M := by rw [Int.natCast_add, Int.add_mul]; simp
    rw [e]; simp only [sumN]; omega

/-- The third loop's numbers: those that are done are what goes on. -/
theorem op_next {Y O : Int} {T L : Nat → Int} {i k : Nat} (j : Nat) (v : Int) (hv : v = op Y O T L (i + 1) k) :
    (if j = k then v else if j < k then op Y O T L (i + 1) j else fu Y O (op Y O T L i) j) = if j < k + 1 then op Y O T L (i + 1) j else fu Y O (op Y O T L i) j := by
  by_cases e : j = k
  · subst e; rw [if_pos rfl, if_pos (by omega), hv]
  · rw [if_neg e]
    by_cases h : j < k
    · rw [if_pos h, if_pos (by omega)]
    · rw [if_neg h, if_neg (by omega)]
theorem op_next0 {Y O : Int} {T L : Nat → Int} {i k : Nat} (hv : fu Y O (op Y O T L i) k = op Y O T L (i + 1) k) (j : Nat) :
    (if j < k then op Y O T L (i + 1) j else fu Y O (op Y O T L i) j) = if j < k + 1 then op Y O T L (i + 1) j else fu Y O (op Y O T L i) j := by
  rw [← op_next j _ hv]
  by_cases e : j = k
  · subst e; rw [if_pos rfl, if_neg (by omega)]
  · rw [if_neg e]

theorem tf_bd {Y O : Int} {T L : Nat → Int} {i : Nat} {P M : Int} (h : ∀ z, 0 ≤ fu Y O (op Y O T L i) z * P ∧ fu Y O (op Y O T L i) z * P ≤ M) (z : Int) : 0 ≤ tf Y O T L i z * P ∧ tf Y O T L i z * P ≤ M := by
  have := h z
  unfold tf; split
  · exact this
  · simp; omega
theorem tf_cases {Y O : Int} {T L : Nat → Int} {i : Nat} {b : Int} :
    (b ≤ T i → tf Y O T L i b = fu Y O (op Y O T L i) b ∧ op Y O T L (i + 1) b = 0) ∧ (¬ b ≤ T i → L i ≤ b → tf Y O T L i b = 0 ∧ op Y O T L (i + 1) b = 0) ∧
    (¬ b ≤ T i → ¬ L i ≤ b → tf Y O T L i b = 0 ∧ op Y O T L (i + 1) b = fu Y O (op Y O T L i) b) := by
  refine ⟨fun h => ?_, fun h h2 => ?_, fun h h2 => ?_⟩
  · have e : av T L i b = 1 := by unfold av; rw [if_pos h]
    simp [tf, op, e]
  · have e : av T L i b = 2 := by unfold av; rw [if_neg h, if_pos h2]
    simp [tf, op, e]
  · have e : av T L i b = 0 := by unfold av; rw [if_neg h, if_neg h2]
    simp [tf, op, e]

/-- What the inner loops sum up to. -/
theorem lk_round {Y O : Int} {T L : Nat → Int} {n i : Nat} (hi : i < n) : lk Y O T L i * O ^ (n - i) + sumN (fun z => op Y O T L i z * O * O ^ (n - i - 1)) (n + 1) = lk Y O T L (i + 1) * O ^ (n - (i + 1)) := by
  have e1 : O ^ (n - i) = O * O ^ (n - i - 1) := by
    rw [show n - i = (n - i - 1) + 1 by omega, Int.pow_succ, Int.mul_comm]; rfl
  have e2 : sumN (fun z => op Y O T L i z * O * O ^ (n - i - 1)) (n + 1) = sumN (op Y O T L i) (n + 1) * O * O ^ (n - i - 1) := by
    rw [sumN_mul (f := fun z => op Y O T L i z * O), sumN_mul (f := op Y O T L i)]
  have e3 : sumN (op Y O T L i) (n + 1) = sumN (op Y O T L i) (i + 1) := sumN_cut (n + 1) (by omega) (fun j h1 _ => op_high i j (by omega))
  rw [e2, e3, ← fu_sum, e1, ← Int.mul_assoc, ← Int.add_mul]; rfl
theorem tk_round {Y O : Int} {T L : Nat → Int} {n i : Nat} (hi : i < n) : tk Y O T L i * O ^ (n - i) + sumN (fun z => tf Y O T L i z * O ^ (n - i - 1)) (n + 1) = tk Y O T L (i + 1) * O ^ (n - (i + 1)) := by
  have e1 : O ^ (n - i) = O * O ^ (n - i - 1) := by
    rw [show n - i = (n - i - 1) + 1 by omega, Int.pow_succ, Int.mul_comm]; rfl
  have e3 : sumN (tf Y O T L i) (n + 1) = sumN (tf Y O T L i) (i + 2) := sumN_cut (n + 1) (by omega) (fun j h1 _ => by unfold tf; rw [fu_high i j (by omega)]; simp)
  rw [sumN_mul (f := tf Y O T L i), e3, e1, ← Int.mul_assoc, ← Int.add_mul]; rfl

end Go.Proofs.Ytcedhcpjnoppmaa
