/-
  Plain facts: the creases of a map, in either order.
-/
import Derived.Test.YtmbccdjoliegiaaM5
namespace Go.Proofs.Ytmbccdjoliegiaa

deriving instance DecidableEq for Tri

theorem noX_pairs {C : Tri → Tri → Bool} {l : List Tri} : noXB l.length (fun i j => C (triAt l i) (triAt l j)) = true ↔ l.Pairwise (fun x y => C x y = false) := by
  rw [noXB_iff, List.pairwise_iff_getElem]
  have e : ∀ i (h : i < l.length), triAt l i = l[i] := fun i h => by simp [triAt, h]
  constructor
  · intro h i j hi hj hij
    have this : C (triAt l i) (triAt l j) = false := h i j hij hj
    rw [e i hi, e j hj] at this
    exact this
  · intro h i j hij hj
    show C (triAt l i) (triAt l j) = false
    rw [e i (by omega), e j hj]
    exact h i j (by omega) hj hij

/-- Two creases without a common leaf cross either way. -/
theorem cross_symm (p q r s : Int) (h1 : p ≠ r) (h2 : p ≠ s) (h3 : q ≠ r) (h4 : q ≠ s) : (between p q r != between p q s) = (between r s p != between r s q) := by
  rw [Bool.eq_iff_iff, xor_between, xor_between]
  omega

theorem ix_inj {k : Nat} {z : Nat → Int} (hg : goodP k z k) {x y : Int} (hx0 : 0 ≤ x) (hx : x < k) (hy0 : 0 ≤ y) (hy : y < k) (h : ix k z x = ix k z y) : x = y := by
  have f : ∀ v : Int, 0 ≤ v → v < k → ∃ j : Nat, z j = v ∧ ix k z v = j := fun v h0 h1 => by
    obtain ⟨j, hj, hz⟩ := good_all hg v.toNat (by omega)
    rcases ix_cases k z v with ⟨i, _, h3, _, h4⟩ | ⟨h3, _⟩
    · exact ⟨i, h3, h4⟩
    · exact absurd (by rw [hz]; omega) (h3 j hj)
  obtain ⟨i, a1, a2⟩ := f x hx0 hx
  obtain ⟨j, b1, b2⟩ := f y hy0 hy
  rw [a2, b2] at h
  have : i = j := by omega
  rw [← a1, ← b1, this]

def turnT (t : Tri) : Tri := ⟨t.r, t.p, t.q⟩
theorem map_perm (n : Nat) (h1 : 1 ≤ n) (h4 : n ≤ 4) : ((rmapN n).map turnT).Perm (mapN n) := by
  have : n = 1 ∨ n = 2 ∨ n = 3 ∨ n = 4 := by omega
  rcases this with rfl | rfl | rfl | rfl <;> decide +kernel
def apart (x y : Tri) : Bool := decide (x = y) || decide (x.p ≠ y.p) || (decide (x.q ≠ y.q) && decide (x.q ≠ y.r) && decide (x.r ≠ y.q) && decide (x.r ≠ y.r))
theorem map_apart (n : Nat) (h1 : 1 ≤ n) (h4 : n ≤ 4) : (mapN n).all (fun x => (mapN n).all (fun y => apart x y)) = true := by
  have : n = 1 ∨ n = 2 ∨ n = 3 ∨ n = 4 := by omega
  rcases this with rfl | rfl | rfl | rfl <;> decide +kernel
theorem map_in (n : Nat) (h1 : 1 ≤ n) (h4 : n ≤ 4) : (mapN n).all (fun x => decide (0 ≤ x.q) && decide (x.q < 2 * (n : Int)) && decide (0 ≤ x.r) && decide (x.r < 2 * (n : Int))) = true := by
  have : n = 1 ∨ n = 2 ∨ n = 3 ∨ n = 4 := by omega
  rcases this with rfl | rfl | rfl | rfl <;> decide +kernel

theorem cross_same (n k : Nat) (z : Nat → Int) (h1 : 1 ≤ n) (h4 : n ≤ 4) (hk : k = 2 * n) (hg : goodP k z k) {x y : Tri} (hx : x ∈ mapN n) (hy : y ∈ mapN n) : crossB k z x y = crossB k z y x := by
  have ha := List.all_eq_true.1 (List.all_eq_true.1 (map_apart n h1 h4) x hx) y hy
  have hix := List.all_eq_true.1 (map_in n h1 h4) x hx
  have hiy := List.all_eq_true.1 (map_in n h1 h4) y hy
  simp only [Bool.and_eq_true, decide_eq_true_eq] at hix hiy
  unfold apart at ha
  simp only [Bool.or_eq_true, Bool.and_eq_true, decide_eq_true_eq] at ha
  rcases ha with (rfl | hp) | ⟨⟨⟨a, b⟩, c⟩, d⟩
  · rfl
  · have e1 : (x.p == y.p) = false := by simpa using hp
    have e2 : (y.p == x.p) = false := by simpa using fun h => hp h.symm
    unfold crossB
    rw [e1, e2]; rfl
  · have e : (x.p == y.p) = (y.p == x.p) := by
      rw [Bool.eq_iff_iff, beq_iff_eq, beq_iff_eq]; exact eq_comm
    have g : ∀ u v : Int, 0 ≤ u → u < 2 * (n : Int) → 0 ≤ v → v < 2 * (n : Int) → u ≠ v → ix k z u ≠ ix k z v := fun u v hu0 hu hv0 hv hne he => hne (ix_inj hg hu0 (by omega) hv0 (by omega) he)
    unfold crossB
    rw [e]
    congr 1
    exact cross_symm _ _ _ _ (g _ _ hix.1.1.1 hix.1.1.2 hiy.1.1.1 hiy.1.1.2 a) (g _ _ hix.1.1.1 hix.1.1.2 hiy.1.2 hiy.2 b) (g _ _ hix.1.2 hix.2 hiy.1.1.1 hiy.1.1.2 c) (g _ _ hix.1.2 hix.2 hiy.1.2 hiy.2 d)

/-- The reference's map is possible just if the program's is. -/
theorem map_same (n k : Nat) (z : Nat → Int) (h1 : 1 ≤ n) (h4 : n ≤ 4) (hk : k = 2 * n) (hg : goodP k z k) :
    noXB (3 * n - 2) (crossTAt (fun x => ix k z x) (rmapN n)) = posB k z (mapN n) := by
  have hin := rmap_in h1
  rw [Bool.eq_iff_iff, ← rmapN_len n h1]
  unfold posB
  have eA : noXB (rmapN n).length (crossTAt (fun x => ix k z x) (rmapN n)) = true ↔ (rmapN n).Pairwise (fun x y => crossT (fun x => ix k z x) x y = false) := noX_pairs
  have eB : noXB (mapN n).length (crossAt k z (mapN n)) = true ↔ (mapN n).Pairwise (fun x y => crossB k z x y = false) := noX_pairs
  rw [eA, eB]
  have h2 : (rmapN n).Pairwise (fun x y => crossT (fun x => ix k z x) x y = false) ↔ ((rmapN n).map turnT).Pairwise (fun x y => crossB k z x y = false) := by
    rw [List.pairwise_map]
    refine List.Pairwise.iff_of_mem (fun {x y} hx hy => ?_)
    have a := hin x hx
    have b := hin y hy
    obtain ⟨a1, _, a3, _⟩ := a
    obtain ⟨b1, _, b3, _⟩ := b
    unfold crossT crossR crossB turnT around
    simp only []
    rw [Int.toNat_of_nonneg a1, Int.toNat_of_nonneg a3, Int.toNat_of_nonneg b1, Int.toNat_of_nonneg b3]
  rw [h2]
  have hm := map_perm n h1 h4
  have s1 : ∀ l : List Tri, (∀ x ∈ l, x ∈ mapN n) → (l.Pairwise (fun x y => crossB k z x y = false) ↔ l.Pairwise (fun x y => crossB k z x y = false ∧ crossB k z y x = false)) := fun l hl =>
    List.Pairwise.iff_of_mem (fun {x y} hx hy => by rw [cross_same n k z h1 h4 hk hg (hl y hy) (hl x hx), and_self])
  rw [s1 _ (fun x hx => hm.mem_iff.1 hx), s1 _ (fun x hx => hx)]
  exact hm.pairwise_iff (fun {x y} h => ⟨h.2, h.1⟩)

end Go.Proofs.Ytmbccdjoliegiaa
