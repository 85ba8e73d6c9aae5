import Derived.Test.YtfommfgokpiieaaDoorF0
import Derived.Test.YtfommfgokpiieaaDoorB3
import Derived.Test.YtfommfgokpiieaaDoorI1
namespace Go.Proofs.YtfommfgokpiieaaDoor
open Go.RowKit

/-- Factorings: the letters put at the end, the lengths of A and B. -/
structure Fa where
  k : Nat
  a : Nat
  b : Nat
/-- The backs of three words, as the program puts them together. -/
def backsB (t : ByteArray) (a b : Nat) : ByteArray := t.extract (t.size - a) t.size ++ t.extract (t.size - a - b) (t.size - a) ++ t.extract (t.size / 2) (t.size - a - b)
def turnL (l : List UInt8) (k : Nat) : List UInt8 := l.drop k ++ l.take k
/-- The back of a turn. -/
def bkB (s : ByteArray) (k : Nat) : ByteArray := ⟨(backL (turnL s.data.toList k)).toArray⟩
def isF (s : ByteArray) (k a b : Nat) : Bool := decide (((turnB s k).extract (s.size / 2) s.size).toList = (backsB (bkB s k) a b).toList)
def facRow (s : ByteArray) (k a m : Nat) : List Fa := ((List.range m).filter fun i => isF s k a (i + 1)).map fun i => ⟨k, a, i + 1⟩
def facA (s : ByteArray) (k m : Nat) : List Fa := (List.range m).flatMap fun i => facRow s k (i + 1) (s.size / 2 - (i + 1))
def facK (s : ByteArray) (m : Nat) : List Fa := (List.range m).flatMap fun k => facA s k (s.size / 2 - 1)
def facL (s : ByteArray) : List Fa := facK s s.size
theorem facRow_yes {s : ByteArray} {k a m : Nat} (h : isF s k a (m + 1) = true) : facRow s k a (m + 1) = facRow s k a m ++ [⟨k, a, m + 1⟩] := by simp [facRow, List.range_succ, h]
theorem facRow_no {s : ByteArray} {k a m : Nat} (h : isF s k a (m + 1) = false) : facRow s k a (m + 1) = facRow s k a m := by simp [facRow, List.range_succ, h]
theorem facA_succ (s : ByteArray) (k m : Nat) : facA s k (m + 1) = facA s k m ++ facRow s k (m + 1) (s.size / 2 - (m + 1)) := by simp [facA, List.range_succ]
theorem facK_succ (s : ByteArray) (m : Nat) : facK s (m + 1) = facK s m ++ facA s m (s.size / 2 - 1) := by simp [facK, List.range_succ]
theorem facRow_le {s : ByteArray} {k a : Nat} : ∀ {m m' : Nat}, m ≤ m' → facRow s k a m <+: facRow s k a m' := by
  intro m m' h
  induction m' with
  | zero => have : m = 0 := by omega
            subst this; exact List.prefix_refl _
  | succ q ih =>
    by_cases e : m = q + 1
    · subst e; exact List.prefix_refl _
    · refine (ih (by omega)).trans ?_
      cases hq : isF s k a (q + 1)
      · rw [facRow_no hq]; exact List.prefix_refl _
      · rw [facRow_yes hq]; exact List.prefix_append _ _
theorem facA_le {s : ByteArray} {k : Nat} : ∀ {m m' : Nat}, m ≤ m' → facA s k m <+: facA s k m' := by
  intro m m' h
  induction m' with
  | zero => have : m = 0 := by omega
            subst this; exact List.prefix_refl _
  | succ q ih =>
    by_cases e : m = q + 1
    · subst e; exact List.prefix_refl _
    · exact (ih (by omega)).trans (by rw [facA_succ]; exact List.prefix_append _ _)
theorem facK_le {s : ByteArray} : ∀ {m m' : Nat}, m ≤ m' → facK s m <+: facK s m' := by
  intro m m' h
  induction m' with
  | zero => have : m = 0 := by omega
            subst this; exact List.prefix_refl _
  | succ q ih =>
    by_cases e : m = q + 1
    · subst e; exact List.prefix_refl _
    · exact (ih (by omega)).trans (by rw [facK_succ]; exact List.prefix_append _ _)
/-- What was handed over so far is a beginning of all. -/
theorem fac_pre {s : ByteArray} {k A B : Nat} (hk : k < s.size) (hA : A + 1 < s.size / 2) (hB : B ≤ s.size / 2 - (A + 1)) : facK s k ++ facA s k A ++ facRow s k (A + 1) B <+: facL s := by
  have h1 : facK s k ++ facA s k A ++ facRow s k (A + 1) B <+: facK s k ++ facA s k (A + 1) := by
    rw [facA_succ, ← List.append_assoc]
    exact (List.prefix_append_right_inj _).2 (facRow_le hB)
  have h2 : facK s k ++ facA s k (A + 1) <+: facK s (k + 1) := by
    rw [facK_succ]
    exact (List.prefix_append_right_inj _).2 (facA_le (by omega))
  exact (h1.trans h2).trans (facK_le (by omega))

theorem turnB_list (s : ByteArray) (k : Nat) : (turnB s k).data.toList = turnL s.data.toList k := by
  unfold turnB turnL
  rw [ByteArray.data_append, Array.toList_append, extract_list s _ rfl, extract_list s _ rfl, List.drop_zero, List.take_of_length_le (show s.data.toList.length ≤ s.size from Nat.le_refl _)]
theorem turnB_size (s : ByteArray) (k : Nat) (h : k ≤ s.size) : (turnB s k).size = s.size := by
  unfold turnB
  rw [ByteArray.size_append, extract_size s k s.size (Nat.le_refl _), extract_size s 0 k h]; omega
theorem turnL_word {l : List UInt8} (h : wordB l = true) (k : Nat) : wordB (turnL l k) = true := by
  obtain ⟨h1, h2⟩ := wordB_iff.1 h
  refine wordB_iff.2 ⟨by simp [turnL]; omega, fun b hb => ?_⟩
  simp only [turnL, List.mem_append] at hb
  rcases hb with hb | hb
  · exact h2 b (List.mem_of_mem_drop hb)
  · exact h2 b (List.mem_of_mem_take hb)
theorem bkB_size (s : ByteArray) (k : Nat) (h : k ≤ s.size) : (bkB s k).size = s.size := by
  have hl : s.data.toList.length = s.size := rfl
  have e : (bkB s k).size = (backL (turnL s.data.toList k)).length := by unfold bkB; simp only [ByteArray.size, List.size_toArray]
  rw [e, backL_len, turnL, List.length_append, List.length_drop, List.length_take, hl]; omega

set_option maxHeartbeats 2000000 in
set_option maxRecDepth 100000 in
theorem backs_any (t : ByteArray) (a b : Nat) (w : World) (ht : t.size ≤ 24) (ha : 1 ≤ a) (hb : 1 ≤ b) (hab : a + b ≤ t.size / 2) :
    Calls Tryd.prog 60 #[.string t, .int .i64 a, .int .i64 b] w fun e w' => e = .returned (.string (backsB t a b)) ∧ Below w.heap.size w w' := by
  have e1 : (t.size : Int) - a = ((t.size - a : Nat) : Int) := by omega
  have e2 : ((t.size - a : Nat) : Int) - b = ((t.size - a - b : Nat) : Int) := by omega
  have e3 : (t.size : Int) / 2 = ((t.size / 2 : Nat) : Int) := by omega
  have HBk : Hid (backsB t a b = t.extract (t.size - a) t.size ++ t.extract (t.size - a - b) (t.size - a) ++ t.extract (t.size / 2) (t.size - a - b)) := rfl
  have l1 : ((t.size - a : Nat) : Int) ≤ t.size := by omega
  have l2 : ((t.size - a - b : Nat) : Int) ≤ ((t.size - a : Nat) : Int) := by omega
  have l3 : ((t.size / 2 : Nat) : Int) ≤ ((t.size - a - b : Nat) : Int) := by omega
  have l4 : ((t.size - a - b : Nat) : Int) ≤ t.size := by omega
  have o1 : ¬ 9223372036854775807 < (t.extract (t.size - a) t.size).size + (t.extract (t.size - a - b) (t.size - a)).size := by
    rw [extract_size _ _ _ (Nat.le_refl _), extract_size _ _ _ (by omega)]; omega
  have o2 : ¬ 9223372036854775807 < (t.extract (t.size - a) t.size ++ t.extract (t.size - a - b) (t.size - a)).size + (t.extract (t.size / 2) (t.size - a - b)).size := by
    rw [ByteArray.size_append, extract_size _ _ _ (Nat.le_refl _), extract_size _ _ _ (by omega), extract_size _ _ _ (by omega)]; omega
  obtain ⟨p, hp⟩ : ∃ p, t.size - a = p := ⟨_, rfl⟩
  rw [hp] at e1 e2 HBk l1 l2 l3 l4 o1 o2
  obtain ⟨q, hq⟩ : ∃ q, p - b = q := ⟨_, rfl⟩
  rw [hq] at e2 HBk l2 l3 l4 o1 o2
  obtain ⟨h, hh⟩ : ∃ h, t.size / 2 = h := ⟨_, rfl⟩
  rw [hh] at e3 HBk l3 o2
  have p0 : (0 : Int) ≤ p := by omega
  have q0 : (0 : Int) ≤ q := by omega
  have h0 : (0 : Int) ≤ h := by omega
  have a0 : (1 : Int) ≤ a := by omega
  have b0 : (1 : Int) ≤ b := by omega
  clear ha hb hab hp hq hh
  go_enter Tryd.func60, Tryd.ntmps60
  go_wp2
  clear e1 e2 e3
  go_quiet (fail)
  go_wp2
  go_ret
  exact ⟨by rw [HBk.out]; rfl, below_drewN (Below.refl _ _) _⟩
end Go.Proofs.YtfommfgokpiieaaDoor
