/-
  Plain facts: the rows of a pile of a map are piles of a strip, and what is not in the last column is one of a lesser map.
-/
import Derived.Test.YtmbccdjoliegiaaX1
namespace Go.Proofs.Ytmbccdjoliegiaa

/-- What of a pile is in a row of the map. -/
def rowC (n c : Nat) (L : List Nat) : List Nat := (L.filter (fun x => x / n == c)).map (fun x => x % n)
/-- What is not in the last column. -/
def lessC (n : Nat) (L : List Nat) : List Nat := (L.filter (fun x => decide (x % n < n - 1))).map (fun x => x / n * (n - 1) + x % n)

/-- A list of leaves that is all of them, each once, has as many. -/
theorem all_len {M : List Nat} {m : Nat} (hd : M.Nodup) (h : ∀ x, x ∈ M ↔ x < m) : M.length = m := by
  have h1 := nodup_le M (List.range m) hd (fun x hx => List.mem_range.2 ((h x).1 hx))
  have h2 := nodup_le (List.range m) M List.nodup_range (fun x hx => (h x).2 (List.mem_range.1 hx))
  rw [List.length_range] at h1 h2
  omega
theorem nodup_map_on {L : List Nat} {g : Nat → Nat} (hd : L.Nodup) (h : ∀ x ∈ L, ∀ y ∈ L, g x = g y → x = y) : (L.map g).Nodup := by
  rw [List.Nodup, List.pairwise_map]
  exact List.Pairwise.imp_of_mem (fun {x y} hx hy hne he => hne (h x hx y hy he)) hd

theorem rowC_nodup {n : Nat} {L : List Nat} (hd : L.Nodup) (c : Nat) : (rowC n c L).Nodup := by
  refine nodup_map_on (hd.filter _) (fun x hx y hy he => ?_)
  have a := (List.mem_filter.1 hx).2
  have b := (List.mem_filter.1 hy).2
  simp at a b
  have e1 := Nat.div_add_mod x n
  have e2 := Nat.div_add_mod y n
  rw [a] at e1
  rw [b] at e2
  omega
theorem rowC_mem {n : Nat} {L : List Nat} (h1 : 1 ≤ n) (hm : ∀ x, x ∈ L ↔ x < 2 * n) (c : Nat) (hc : c < 2) : ∀ x, x ∈ rowC n c L ↔ x < n := by
  intro x
  unfold rowC
  rw [List.mem_map]
  constructor
  · rintro ⟨y, _, rfl⟩
    exact Nat.mod_lt _ (by omega)
  · intro hx
    refine ⟨c * n + x, List.mem_filter.2 ⟨(hm _).2 ?_, ?_⟩, ?_⟩
    · have : c = 0 ∨ c = 1 := by omega
      rcases this with rfl | rfl <;> omega
    · rw [Nat.mul_comm, Nat.mul_add_div (by omega), Nat.div_eq_of_lt hx]; simp
    · rw [Nat.mul_comm, Nat.mul_add_mod, Nat.mod_eq_of_lt hx]

theorem rowC_facts {n : Nat} {L : List Nat} (h1 : 1 ≤ n) (h4 : n ≤ 4) (hd : L.Nodup) (hm : ∀ x, x ∈ L ↔ x < 2 * n) (hp : posB L.length (zl L) (mapN n) = true) (c : Nat) (hc : c < 2) : (rowC n c L).length = n ∧ isP n (zl (rowC n c L)) = true ∧ poss n (zl (rowC n c L)) = true := by
  have hnd := rowC_nodup (n := n) hd c
  have hmem := rowC_mem h1 hm c hc
  have hl := all_len hnd hmem
  refine ⟨hl, isP_iff'.2 ⟨h1, by omega, good_of_list (by omega) hl (fun x hx => (hmem x).1 hx) hnd⟩, ?_⟩
  have hdm : ∀ x, x < n → (n * c + x) / n = c ∧ (n * c + x) % n = x := fun x hx => ⟨by rw [Nat.mul_add_div (by omega), Nat.div_eq_of_lt hx]; rfl, by rw [Nat.mul_add_mod, Nat.mod_eq_of_lt hx]⟩
  have h := left_poss hd (fun x => x / n == c) (fun x => x % n) (fun x => n * c + x) hnd (A := mapN n) (B := rowN 0 (n - 1)) (by
      have e : (rowN 0 (n - 1)).map (upT (fun x => n * c + x)) = rowN (n * c) (n - 1) := by
        unfold rowN
        rw [List.map_map]
        refine List.map_congr_left (fun i _ => ?_)
        simp [upT]
        omega
      rw [e]
      have : c = 0 ∨ c = 1 := by omega
      unfold mapN
      rcases this with rfl | rfl
      · rw [Nat.mul_zero, List.append_assoc]; exact List.sublist_append_left _ _
      · rw [Nat.mul_one]; exact (List.sublist_append_right _ _).trans (List.sublist_append_left _ _)) (fun t ht v hv => by
      obtain ⟨i, hi, rfl⟩ := List.mem_map.1 ht
      have hi := List.mem_range.1 hi
      have hv2 : ∃ x : Nat, x < n ∧ v = (x : Int) := by
        rcases hv with rfl | rfl
        · exact ⟨0 + i, by omega, rfl⟩
        · exact ⟨0 + i + 1, by omega, rfl⟩
      obtain ⟨x, hx, rfl⟩ := hv2
      rw [Int.toNat_natCast]
      refine ⟨by omega, List.mem_filter.2 ⟨(hm _).2 ?_, by simp [(hdm x hx).1]⟩, (hdm x hx).2⟩
      have : c = 0 ∨ c = 1 := by omega
      rcases this with rfl | rfl <;> omega) hp
  unfold poss
  have hl2 : ((L.filter (fun x => x / n == c)).map (fun x => x % n)).length = n := hl
  rw [hl2] at h
  exact h

theorem lessC_nodup {n : Nat} {L : List Nat} (hd : L.Nodup) (hm : ∀ x, x ∈ L ↔ x < 2 * n) : (lessC n L).Nodup := by
  refine nodup_map_on (hd.filter _) (fun x hx y hy he => ?_)
  have a := (List.mem_filter.1 hx).2
  have b := (List.mem_filter.1 hy).2
  simp at a b
  have e1 := Nat.div_add_mod x n
  have e2 := Nat.div_add_mod y n
  have q1 : x / n < 2 := Nat.div_lt_of_lt_mul (by have := (hm x).1 (List.mem_filter.1 hx).1; omega)
  have q2 : y / n < 2 := Nat.div_lt_of_lt_mul (by have := (hm y).1 (List.mem_filter.1 hy).1; omega)
  have c1 : x / n = 0 ∨ x / n = 1 := by generalize x / n = q at q1 ⊢; omega
  have c2 : y / n = 0 ∨ y / n = 1 := by generalize y / n = q at q2 ⊢; omega
  generalize x % n = s at *
  generalize y % n = t at *
  rcases c1 with c1 | c1 <;> rcases c2 with c2 | c2 <;> rw [c1] at e1 he <;> rw [c2] at e2 he <;> omega
theorem less_up {n x : Nat} (h2 : 2 ≤ n) (hx : x < 2 * (n - 1)) : (x / (n - 1) * n + x % (n - 1)) % n = x % (n - 1) ∧ (x / (n - 1) * n + x % (n - 1)) / n = x / (n - 1) ∧ x % (n - 1) < n - 1 ∧ x / (n - 1) < 2 ∧ x / (n - 1) * (n - 1) + x % (n - 1) = x := by
  have h := Nat.mod_lt x (show 0 < n - 1 by omega)
  have hq : x / (n - 1) < 2 := Nat.div_lt_of_lt_mul (by omega)
  have e := Nat.div_add_mod x (n - 1)
  rw [Nat.mul_comm] at e
  generalize x / (n - 1) = q at *
  generalize x % (n - 1) = r at *
  refine ⟨?_, ?_, h, hq, e⟩
  · rw [Nat.mul_comm, Nat.mul_add_mod, Nat.mod_eq_of_lt (by omega)]
  · rw [Nat.mul_comm, Nat.mul_add_div (by omega), Nat.div_eq_of_lt (by omega)]; rfl
theorem less_in {n : Nat} {L : List Nat} (h2 : 2 ≤ n) (hm : ∀ x, x ∈ L ↔ x < 2 * n) {x : Nat} (hx : x < 2 * (n - 1)) :
    x / (n - 1) * n + x % (n - 1) ∈ L.filter (fun x => decide (x % n < n - 1)) ∧ (x / (n - 1) * n + x % (n - 1)) / n * (n - 1) + (x / (n - 1) * n + x % (n - 1)) % n = x := by
  obtain ⟨a, b, c, d, e⟩ := less_up h2 hx
  refine ⟨List.mem_filter.2 ⟨(hm _).2 ?_, by simp only [a, decide_eq_true_eq]; exact c⟩, by rw [a, b]; exact e⟩
  have : x / (n - 1) = 0 ∨ x / (n - 1) = 1 := by generalize x / (n - 1) = q at d ⊢; omega
  rcases this with h | h <;> rw [h] <;> omega
theorem lessC_mem {n : Nat} {L : List Nat} (h2 : 2 ≤ n) (hm : ∀ x, x ∈ L ↔ x < 2 * n) : ∀ x, x ∈ lessC n L ↔ x < 2 * (n - 1) := by
  intro x
  unfold lessC
  rw [List.mem_map]
  constructor
  · rintro ⟨y, hy, rfl⟩
    have a := (List.mem_filter.1 hy).2
    simp at a
    have q1 : y / n < 2 := Nat.div_lt_of_lt_mul (by have := (hm y).1 (List.mem_filter.1 hy).1; omega)
    have : y / n = 0 ∨ y / n = 1 := by generalize y / n = q at q1 ⊢; omega
    rcases this with h | h <;> rw [h] <;> omega
  · intro hx
    exact ⟨_, (less_in h2 hm hx).1, (less_in h2 hm hx).2⟩

theorem map_sub (n : Nat) (h2 : 2 ≤ n) (h4 : n ≤ 4) : ((mapN (n - 1)).map (upT (fun x => x / (n - 1) * n + x % (n - 1)))).Sublist (mapN n) := by
  have : n = 2 ∨ n = 3 ∨ n = 4 := by omega
  rcases this with rfl | rfl | rfl <;> decide +kernel
theorem lessC_facts {n : Nat} {L : List Nat} (h2 : 2 ≤ n) (h4 : n ≤ 4) (hd : L.Nodup) (hm : ∀ x, x ∈ L ↔ x < 2 * n) (hp : posB L.length (zl L) (mapN n) = true) :
    (lessC n L).length = 2 * (n - 1) ∧ pileB (2 * (n - 1)) (zl (lessC n L)) (2 * ((n - 1 : Nat) : Int)) = true ∧ posB (2 * (n - 1)) (zl (lessC n L)) (mapN (n - 1)) = true := by
  have hnd := lessC_nodup hd hm
  have hmem := lessC_mem h2 hm
  have hl := all_len hnd hmem
  have hg := good_of_list (n := 2 * (n - 1)) (by omega) hl (fun x hx => (hmem x).1 hx) hnd
  refine ⟨hl, pileB_iff.2 ⟨by omega, fun x hx => has_iff.2 (good_all hg x hx)⟩, ?_⟩
  have h := left_poss hd (fun x => decide (x % n < n - 1)) (fun x => x / n * (n - 1) + x % n) (fun x => x / (n - 1) * n + x % (n - 1)) hnd (A := mapN n) (B := mapN (n - 1)) (map_sub n h2 h4) (fun t ht v hv => by
      have hi := List.all_eq_true.1 (map_in (n - 1) (by omega) (by omega)) t ht
      simp only [Bool.and_eq_true, decide_eq_true_eq] at hi
      have hv2 : 0 ≤ v ∧ v < 2 * ((n - 1 : Nat) : Int) := by
        rcases hv with rfl | rfl
        · exact ⟨hi.1.1.1, hi.1.1.2⟩
        · exact ⟨hi.1.2, hi.2⟩
      have := less_in (L := L) h2 hm (x := v.toNat) (by omega)
      exact ⟨hv2.1, this.1, this.2⟩) hp
  have hl2 : ((L.filter (fun x => decide (x % n < n - 1))).map (fun x => x / n * (n - 1) + x % n)).length = 2 * (n - 1) := hl
  rw [hl2] at h
  exact h
end Go.Proofs.Ytmbccdjoliegiaa
