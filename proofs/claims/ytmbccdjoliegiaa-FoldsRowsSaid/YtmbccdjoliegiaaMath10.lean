/-
  Plain facts: a pile of a map, and what is left of it in a row or without the last column.
-/
import Derived.Test.YtmbccdjoliegiaaM6
namespace Go.Proofs.Ytmbccdjoliegiaa

/-- Where a leaf is in a list. -/
def ixl (L : List Nat) (x : Nat) : Int := ix L.length (zl L) x
theorem ixl_at {L : List Nat} (hd : L.Nodup) (i : Nat) (hi : i < L.length) : ixl L L[i] = i := by
  have e : ∀ j (hj : j < L.length), zl L j = (L[j] : Nat) := fun j hj => by simp [zl, hj]
  refine ix_at i hi (e i hi) (fun j hj => ?_)
  rw [e j (by omega)]
  intro h
  exact (List.pairwise_iff_getElem.1 hd) j i (by omega) hi hj (by omega)
theorem ixl_rises {L : List Nat} (hd : L.Nodup) : L.Pairwise (fun a b => ixl L a < ixl L b) := by
  rw [List.pairwise_iff_getElem]
  intro i j hi hj hij
  rw [ixl_at hd i hi, ixl_at hd j hj]
  omega

/-- What is left of a list, under other names, stands in the same order. -/
theorem left_order {L : List Nat} (hd : L.Nodup) (f : Nat → Bool) (g : Nat → Nat) (hg : ((L.filter f).map g).Nodup) :
    ∀ x ∈ L.filter f, ∀ y ∈ L.filter f, (ixl L x < ixl L y ↔ ixl ((L.filter f).map g) (g x) < ixl ((L.filter f).map g) (g y)) := by
  have h1 : (L.filter f).Pairwise (fun a b => ixl L a < ixl L b) := List.Pairwise.sublist List.filter_sublist (ixl_rises hd)
  have h2 := ixl_rises hg
  rw [List.pairwise_map] at h2
  rw [List.pairwise_iff_getElem] at h1 h2
  intro x hx y hy
  obtain ⟨i, hi, rfl⟩ := List.getElem_of_mem hx
  obtain ⟨j, hj, rfl⟩ := List.getElem_of_mem hy
  rcases Nat.lt_trichotomy i j with h | h | h
  · exact ⟨fun _ => h2 i j hi hj h, fun _ => h1 i j hi hj h⟩
  · subst h
    exact ⟨fun h => by omega, fun h => by omega⟩
  · have a := h1 j i hj hi h
    have b := h2 j i hj hi h
    exact ⟨fun h => by omega, fun h => by omega⟩

theorem between_order {p q r p' q' r' : Int} (h1 : p < r ↔ p' < r') (h2 : q < r ↔ q' < r') (h3 : r < p ↔ r' < p') (h4 : r < q ↔ r' < q') : between p q r = between p' q' r' := by
  unfold between
  have e1 : decide (min p q < r) = decide (min p' q' < r') := by
    rw [decide_eq_decide]
    have a : min p q < r ↔ p < r ∨ q < r := by omega
    have b : min p' q' < r' ↔ p' < r' ∨ q' < r' := by omega
    rw [a, b, h1, h2]
  have e2 : decide (r < max p q) = decide (r' < max p' q') := by
    rw [decide_eq_decide]
    have a : r < max p q ↔ r < p ∨ r < q := by omega
    have b : r' < max p' q' ↔ r' < p' ∨ r' < q' := by omega
    rw [a, b, h3, h4]
  rw [e1, e2]

/-- A crease under other names. -/
def upT (u : Nat → Nat) (t : Tri) : Tri := ⟨t.p, (u t.q.toNat : Nat), (u t.r.toNat : Nat)⟩

/-- Creases of what is left cross just where they did. -/
theorem left_cross {L : List Nat} (hd : L.Nodup) (f : Nat → Bool) (g u : Nat → Nat) (hg : ((L.filter f).map g).Nodup) {s t : Tri}
    (hin : ∀ v : Int, v = s.q ∨ v = s.r ∨ v = t.q ∨ v = t.r → 0 ≤ v ∧ u v.toNat ∈ L.filter f ∧ g (u v.toNat) = v.toNat) :
    crossB ((L.filter f).map g).length (zl ((L.filter f).map g)) s t = crossB L.length (zl L) (upT u s) (upT u t) := by
  have o : ∀ v w : Int, (v = s.q ∨ v = s.r ∨ v = t.q ∨ v = t.r) → (w = s.q ∨ w = s.r ∨ w = t.q ∨ w = t.r) →
      (ix ((L.filter f).map g).length (zl ((L.filter f).map g)) v < ix ((L.filter f).map g).length (zl ((L.filter f).map g)) w ↔ ix L.length (zl L) (u v.toNat : Nat) < ix L.length (zl L) (u w.toNat : Nat)) := fun v w hv hw => by
    obtain ⟨a1, a2, a3⟩ := hin v hv
    obtain ⟨b1, b2, b3⟩ := hin w hw
    have h := left_order hd f g hg _ a2 _ b2
    rw [a3, b3] at h
    unfold ixl at h
    rw [Int.toNat_of_nonneg a1, Int.toNat_of_nonneg b1] at h
    exact h.symm
  unfold crossB around
  show ((s.p == t.p) && _) = ((s.p == t.p) && _)
  congr 1
  show (between _ _ _ != between _ _ _) = (between _ _ _ != between _ _ _)
  rw [between_order (o s.q t.q (by simp) (by simp)) (o s.r t.q (by simp) (by simp)) (o t.q s.q (by simp) (by simp)) (o t.q s.r (by simp) (by simp)),
    between_order (o s.q t.r (by simp) (by simp)) (o s.r t.r (by simp) (by simp)) (o t.r s.q (by simp) (by simp)) (o t.r s.r (by simp) (by simp))]
  rfl

/-- What is left of a possible pile is possible, if its creases were among those of the pile. -/
theorem left_poss {L : List Nat} (hd : L.Nodup) (f : Nat → Bool) (g u : Nat → Nat) (hg : ((L.filter f).map g).Nodup) {A B : List Tri} (hs : (B.map (upT u)).Sublist A)
    (hin : ∀ t ∈ B, ∀ v : Int, v = t.q ∨ v = t.r → 0 ≤ v ∧ u v.toNat ∈ L.filter f ∧ g (u v.toNat) = v.toNat) (hp : posB L.length (zl L) A = true) :
    posB ((L.filter f).map g).length (zl ((L.filter f).map g)) B = true := by
  have eA : posB L.length (zl L) A = true ↔ A.Pairwise (fun x y => crossB L.length (zl L) x y = false) := noX_pairs
  have eB : posB ((L.filter f).map g).length (zl ((L.filter f).map g)) B = true ↔ B.Pairwise (fun x y => crossB ((L.filter f).map g).length (zl ((L.filter f).map g)) x y = false) := noX_pairs
  rw [eA] at hp
  rw [eB]
  have h1 := hp.sublist hs
  rw [List.pairwise_map] at h1
  refine h1.imp_of_mem (fun {x y} hx hy h => ?_)
  rw [left_cross hd f g u hg (fun v hv => by
    rcases hv with rfl | rfl | rfl | rfl
    · exact hin x hx _ (Or.inl rfl)
    · exact hin x hx _ (Or.inr rfl)
    · exact hin y hy _ (Or.inl rfl)
    · exact hin y hy _ (Or.inr rfl))]
  exact h

end Go.Proofs.Ytmbccdjoliegiaa
