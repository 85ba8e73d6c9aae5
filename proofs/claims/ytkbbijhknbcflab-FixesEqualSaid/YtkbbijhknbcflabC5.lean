import Derived.Test.YtkbbijhknbcflabC4
/-
  slices.Contains; classes, distinct, Classes.
-/
namespace Go.Proofs.Ytkbbijhknbcflab
open Go.RowKit

/-- The first place of a number among the first n; -1 if there is none. -/
def ixI (n : Nat) (z : Nat → Int) (x : Int) : Int := match (List.range n).find? (fun j => z j == x) with | some j => (j : Int) | none => -1

theorem ixI_at {n : Nat} {z : Nat → Int} {x : Int} (k : Nat) (hk : k < n) (hz : z k = x) (h : ∀ j, j < k → z j ≠ x) : ixI n z x = k := by
  have : (List.range n).find? (fun j => z j == x) = some k := by
    rw [List.find?_range_eq_some]
    exact ⟨by simp [hz], by simp [hk], fun j hj => by simp [h j hj]⟩
  simp [ixI, this]
theorem ixI_no {n : Nat} {z : Nat → Int} {x : Int} (h : ∀ j, j < n → z j ≠ x) : ixI n z x = -1 := by
  have : (List.range n).find? (fun j => z j == x) = none := by
    rw [List.find?_range_eq_none]
    exact fun j hj => by simp [h j hj]
  simp [ixI, this]
theorem ixI_cases (n : Nat) (z : Nat → Int) (x : Int) : (∃ k, k < n ∧ z k = x ∧ (∀ j, j < k → z j ≠ x) ∧ ixI n z x = (k : Int)) ∨ ((∀ j, j < n → z j ≠ x) ∧ ixI n z x = -1) := by
  by_cases h : ∃ k, k < n ∧ z k = x
  · left
    obtain ⟨k, hk, hz⟩ := h
    cases e : (List.range n).find? (fun j => z j == x) with
    | none => rw [List.find?_range_eq_none] at e; have := e k hk; simp [hz] at this
    | some i =>
      have e' := e
      rw [List.find?_range_eq_some] at e
      obtain ⟨e1, e2, e3⟩ := e
      simp at e1 e2
      exact ⟨i, e2, e1, fun j hj hh => by have := e3 j hj; simp [hh] at this, by simp [ixI, e']⟩
  · right
    have h' : ∀ j, j < n → z j ≠ x := fun j hj hh => h ⟨j, hj, hh⟩
    exact ⟨h', ixI_no h'⟩
theorem ixI_bd (n : Nat) (z : Nat → Int) (x : Int) : -1 ≤ ixI n z x ∧ ixI n z x < n := by
  rcases ixI_cases n z x with ⟨k, h1, _, _, h⟩ | ⟨_, h⟩ <;> omega

/-- Is a number among the first n? -/
def hasI (n : Nat) (z : Nat → Int) (x : Int) : Bool := decide (∃ j, j < n ∧ z j = x)
theorem hasI_iff {n : Nat} {z : Nat → Int} {x : Int} : hasI n z x = true ↔ ∃ j, j < n ∧ z j = x := by simp [hasI]
theorem hasI_ix (n : Nat) (z : Nat → Int) (x : Int) : decide (0 ≤ ixI n z x) = hasI n z x := by
  rcases ixI_cases n z x with ⟨k, h1, h2, _, h⟩ | ⟨h1, h⟩
  · rw [h]; have : hasI n z x = true := hasI_iff.2 ⟨k, h1, h2⟩; rw [this]; simp
  · rw [h]
    have : hasI n z x = false := by
      cases e : hasI n z x
      · rfl
      · obtain ⟨j, hj, hz⟩ := hasI_iff.1 e; exact absurd hz (h1 j hj)
    rw [this]; simp


set_option maxHeartbeats 400000 in
theorem indexI_any (a : Option Addr) (cap n : Nat) (z : Nat → Int) (x : Int) (w : World) (hs : n ≤ 140737488351232) (hc : Ints w a n z) :
    Calls Try.prog 49 #[.slice a n cap, .int .i64 x] w fun e w' => e = .returned (.int .i64 (ixI n z x)) ∧ w = w' := by
  go_enter Try.func49, Try.ntmps49
  go_wp2
  go_loop [8] (fun i => ∃ k : Nat, k ≤ n ∧ i = .int .i64 k ∧ Hid (∀ j, j < k → z j ≠ x)) (fun i => n - (intOf i).toNat)
  case atStart => exact ⟨0, Nat.zero_le _, rfl, fun j hj => absurd hj (Nat.not_lt_zero _)⟩
  case round =>
    obtain ⟨k, hk, rfl, hr⟩ := hrel
    by_cases hlt : k < n
    · obtain ⟨b, o, rfl, hck⟩ := hc k hlt
      clear hc
      by_cases h1 : z k = x
      · have hf := Lib.hid (ixI_at k hlt h1 hr.out)
        have G1 : (x == z k) = true := by simp [h1]
        clear h1
        go_wp2
        go_ret
        exact ⟨by rw [hf.out]; rfl, rfl⟩
      · have hn : Hid (∀ j, j < k + 1 → z j ≠ x) := by
          intro j hj
          by_cases e : j = k
          · subst e; exact h1
          · exact hr.out j (by omega)
        have G1 : (x == z k) = false := by simp; exact fun h => h1 h.symm
        clear h1
        go_wp2
        go_round
        case rel => exact ⟨k + 1, by omega, by go_num, hn⟩
        case measure => simp [intOf]; omega
    · have e : k = n := by omega
      subst e
      have hf := Lib.hid (ixI_no hr.out)
      go_wp2
      go_ret
      exact ⟨by rw [hf.out]; rfl, rfl⟩

theorem containsI_any (a : Option Addr) (cap n : Nat) (z : Nat → Int) (x : Int) (w : World) (hs : n ≤ 140737488351232) (hc : Ints w a n z) :
    Calls Try.prog 36 #[.slice a n cap, .int .i64 x] w fun e w' => e = .returned (.bool (hasI n z x)) ∧ w = w' := by
  have hb := ixI_bd n z x
  have H := Lib.hid (hasI_ix n z x)
  generalize ixI n z x = q at H hb
  have hq : ∀ q, q = ixI n z x → Hid (decide (0 ≤ q) = hasI n z x) := fun q h => by rw [h]; exact hasI_ix n z x
  go_enter Try.func36, Try.ntmps36
  go_wp2_with (go_at_call 49; refine (indexI_any _ _ _ _ _ _ hs hc).mono ?_; rintro e w' ⟨rfl, rfl⟩; have H := Lib.hid (hasI_ix n z x))
  go_ret
  exact ⟨by rw [← hasI_ix]; rfl, rfl⟩

theorem containsI_r (r : Bool) (a : Option Addr) (cap n : Nat) (z : Nat → Int) (x : Int) (w : World) (hr : hasI n z x = r) (hs : n ≤ 140737488351232) (hc : Ints w a n z) :
    Calls Try.prog 36 #[.slice a n cap, .int .i64 x] w fun e w' => e = .returned (.bool r) ∧ w = w' := by
  subst hr; exact containsI_any a cap n z x w hs hc

/-- Each class once, of the first k states. -/
def dst (c : Nat → Nat) : Nat → List Nat
  | 0 => []
  | k + 1 => if c k ∈ dst c k then dst c k else dst c k ++ [c k]
theorem dst_len (c : Nat → Nat) : ∀ k, (dst c k).length ≤ k
  | 0 => Nat.le_refl _
  | k + 1 => by
    have := dst_len c k
    simp only [dst]; split
    · omega
    · simp; omega
theorem dst_mem (c : Nat → Nat) : ∀ k x, x ∈ dst c k ↔ ∃ s, s < k ∧ c s = x
  | 0, x => by simp [dst]
  | k + 1, x => by
    have ih := dst_mem c k x
    simp only [dst]; split
    · rename_i h
      rw [ih]
      constructor
      · rintro ⟨s, h1, h2⟩; exact ⟨s, by omega, h2⟩
      · rintro ⟨s, h1, h2⟩
        by_cases e : s = k
        · subst e; subst h2; exact (dst_mem c s (c s)).1 h
        · exact ⟨s, by omega, h2⟩
    · rw [List.mem_append, ih, List.mem_singleton]
      constructor
      · rintro (⟨s, h1, h2⟩ | rfl)
        · exact ⟨s, by omega, h2⟩
        · exact ⟨k, by omega, rfl⟩
      · rintro ⟨s, h1, h2⟩
        by_cases e : s = k
        · subst e; exact Or.inr h2.symm
        · exact Or.inl ⟨s, by omega, h2⟩
theorem dst_nodup (c : Nat → Nat) : ∀ k, (dst c k).Nodup
  | 0 => List.nodup_nil
  | k + 1 => by
    have ih := dst_nodup c k
    simp only [dst]; split
    · exact ih
    · rename_i h
      rw [List.nodup_append]
      refine ⟨ih, by simp, ?_⟩
      intro x hx y hy
      rw [List.mem_singleton] at hy
      subst hy
      rintro rfl; exact h hx
/-- A row of numbers. -/
def nv (l : List Nat) : Nat → Int := fun j => (l.getD j 0 : Nat)
theorem hasI_mem (l : List Nat) (x : Nat) : hasI l.length (nv l) (x : Int) = true ↔ x ∈ l := by
  rw [hasI_iff, List.mem_iff_getElem]
  constructor
  · rintro ⟨j, hj, h⟩
    refine ⟨j, hj, ?_⟩
    unfold nv at h
    rw [List.getD_eq_getElem?_getD, List.getElem?_eq_getElem hj] at h
    simp at h; omega
  · rintro ⟨j, hj, h⟩
    refine ⟨j, hj, ?_⟩
    unfold nv
    rw [List.getD_eq_getElem?_getD, List.getElem?_eq_getElem hj]
    simp [h]
theorem nv_snoc {w : World} {base : Nat} {v : Value} {l : List Nat} {x : Nat} (h : w.ownsRow base 3 1 v (l.length + 1) (((List.range l.length).map fun j => Value.int .i64 (nv l j)) ++ [.int .i64 (x : Nat)])) :
    w.ownsRow base 3 1 v (l ++ [x]).length ((List.range (l ++ [x]).length).map fun j => Value.int .i64 (nv (l ++ [x]) j)) := by
  have e : ((List.range (l ++ [x]).length).map fun j => Value.int .i64 (nv (l ++ [x]) j)) = ((List.range l.length).map fun j => Value.int .i64 (nv l j)) ++ [.int .i64 (x : Nat)] := by
    rw [List.length_append, List.length_singleton, List.range_succ, List.map_append]
    congr 1
    · refine List.map_congr_left fun j hj => ?_
      have hj := List.mem_range.1 hj
      unfold nv
      rw [List.getD_eq_getElem?_getD, List.getD_eq_getElem?_getD, List.getElem?_append_left hj]
    · simp [nv]
  rw [e, List.length_append]; exact h

set_option maxHeartbeats 1000000 in
set_option maxRecDepth 100000 in
theorem classes_any (aN : Option Addr) (cN : Nat) (aM : Option Addr) (cM : Nat) (n : Nat) (nx mk : Nat → Nat) (r : Nat) (w : World) (h1 : 1 ≤ n) (hWk : Wk w aN n aM nx mk) (hr1 : 1 ≤ r) (hr400 : r ≤ 400) (hst : Stays n nx mk r) (hno : ∀ j, j < r → ¬ Stays n nx mk j) :
    Calls Try.prog 35 #[.agg #[.slice aN n cN, .slice aM n cM]] w fun e w' => ∃ a cap, e = .returned (.slice a n cap) ∧ Ints w' a n (fun s => (rnd n nx mk r s : Nat)) ∧ n ≤ cap ∧ (∀ ad, a = some ad → w.heap.size ≤ ad.block) ∧ Below w.heap.size w w' := by
  have hb1 := below_one w (.cells #[.slice aN n cN, .slice aM n cM] 33)
  have q0 : (w.alloc (.cells #[.slice aN n cN, .slice aM n cM] 33)).cell? ⟨w.heap.size, 0, none⟩ = some (.slice aN n cN) := block_cell (heap_alloc_new w _) 0
  have q1 : (w.alloc (.cells #[.slice aN n cN, .slice aM n cM] 33)).cell? ⟨w.heap.size, 1, none⟩ = some (.slice aM n cM) := block_cell (heap_alloc_new w _) 1
  have HR := Lib.hid (rounds_any aN cN aM cM n nx mk r (w.alloc (.cells #[.slice aN n cN, .slice aM n cM] 33)) h1 (hWk.keep (Nat.le_refl _) hb1) hr400 hst hno)
  have HB := Lib.hid hb1
  have hn6 := hWk.n6
  clear hWk hst hno hb1
  go_enter Try.func35, Try.ntmps35
  go_wp2_with fail
  refine (HR.out).mono ?_
  rintro e w1 ⟨v, A, C, rfl, hO, hb⟩
  have HB1 := Lib.hid (band HB.out hb)
  obtain ⟨a, cap, rfl, hM, hcap, hmax⟩ := hO.mat (fun j _ => by omega)
  obtain ⟨b, o, rfl, hck⟩ := hM.row (r - 1) (by omega)
  have HI := Lib.hid (hM.ints (r - 1) (by omega))
  have HCp := Lib.hid (hM.cap (r - 1) (by omega)).1
  have hr' : r - 1 + 1 = r := by omega
  rw [hr'] at HI
  have hri : (1 : Int) ≤ (r : Int) := by omega
  have hsub : (r : Int) - 1 = ((r - 1 : Nat) : Int) := by omega
  have hmx : (r : Int) ≤ 400 := by omega
  have hlt : (((r - 1 : Nat) : Int)) < (r : Int) := by omega
  have HLo : Hid (∀ ad, A (r - 1) = some ad → w.heap.size ≤ ad.block) := by
    intro ad he
    rcases (hO.row (r - 1) (by omega)).2 with ⟨e1, _⟩ | ⟨g, cp, cur, e1, hg, _⟩
    · injection e1 with e1; rw [he] at e1; cases e1
    · injection e1 with e1; rw [he] at e1; cases e1
      simp only [World.alloc, Array.size_push] at hg
      show w.heap.size ≤ g
      omega
  clear hO hb hM hr' hr400 hcap hmax q0 q1
  generalize r - 1 = p at *
  go_wp2
  go_ret
  exact ⟨_, _, rfl, HI.out, HCp.out, HLo.out, HB1.out⟩
end Go.Proofs.Ytkbbijhknbcflab
