import Derived.Test.YtchahkpenilcbaaN2
import Derived.Test.YtchahkpenilcbaaL3
import Derived.Deep.DeepCutAuto
namespace Go.Proofs.Ytchahkpenilcbaa
open Go.RowKit Go.Shelf

/-- Is it a chance in lowest terms whose denominator is not too large? -/
def chB (p q : Int) : Bool := decide (1 ≤ q ∧ q ≤ 100 ∧ 0 ≤ p ∧ p ≤ q ∧ frA p q.toNat = p ∧ (frB p q.toNat : Int) = q)
theorem chB_iff {p q : Int} : chB p q = true ↔ 1 ≤ q ∧ q ≤ 100 ∧ 0 ≤ p ∧ p ≤ q ∧ frA p q.toNat = p ∧ (frB p q.toNat : Int) = q := by simp [chB]
theorem chB_no {p q : Int} (h : ¬ (1 ≤ q ∧ q ≤ 100 ∧ 0 ≤ p ∧ p ≤ q ∧ frA p q.toNat = p ∧ (frB p q.toNat : Int) = q)) : chB p q = false := by simp only [chB, decide_eq_false_iff_not]; exact h

set_option maxHeartbeats 4000000 in
set_option maxRecDepth 100000 in
theorem isChance_any (p q : Int) (w : World) :
    Calls Try.prog 64 #[.agg #[.int .i64 p, .int .i64 q]] w fun e w' => e = .returned (.bool (chB p q)) ∧ Below w.heap.size w w' := by
  obtain ⟨W, hW⟩ : ∃ W, W = w.alloc (.cells #[.int .i64 p, .int .i64 q] 24) := ⟨_, rfl⟩
  have hb : Below w.heap.size w W := by rw [hW]; exact below_one w _
  have hq : W.heap[w.heap.size]? = some (.cells #[.int .i64 p, .int .i64 q] 24) := by rw [hW]; exact heap_alloc_new w _
  have HB := Lib.hid hb
  have HQ := Lib.hid hq
  have HW := Lib.hid hW
  have hlt : w.heap.size < W.heap.size := by rw [hW]; simp
  obtain ⟨q1, q2, _, _⟩ := fr_cells hq
  clear hb hq hW
  by_cases h1 : q < 1
  · have HF := Lib.hid (chB_no (p := p) (q := q) (fun h => by omega))
    have G : decide ((1 : Int) ≤ q) = false := by simp; omega
    go_enter Try.func64, Try.ntmps64
    go_wp2
    rw [← HW.out]
    go_quiet (fail)
    go_wp2
    go_ret
    exact ⟨by rw [HF.out]; rfl, below_drewN HB.out _⟩
  have h1' : 1 ≤ q := by omega
  by_cases h2 : 100 < q
  · have HF := Lib.hid (chB_no (p := p) (q := q) (fun h => by omega))
    have G : decide (q ≤ (100 : Int)) = false := by simp; omega
    have G0 : decide ((1 : Int) ≤ q) = true := by simpa using h1'
    clear h1
    go_enter Try.func64, Try.ntmps64
    go_wp2
    rw [← HW.out]
    go_quiet (fail)
    go_wp2
    go_ret
    exact ⟨by rw [HF.out]; rfl, below_drewN HB.out _⟩
  have h2' : q ≤ 100 := by omega
  by_cases h3 : p < 0
  · have HF := Lib.hid (chB_no (p := p) (q := q) (fun h => by omega))
    have G : decide ((0 : Int) ≤ p) = false := by simp; omega
    have G0 : decide ((1 : Int) ≤ q) = true := by simpa using h1'
    have G1 : decide (q ≤ (100 : Int)) = true := by simpa using h2'
    clear h1 h2
    go_enter Try.func64, Try.ntmps64
    go_wp2
    rw [← HW.out]
    go_quiet (fail)
    go_wp2
    go_ret
    exact ⟨by rw [HF.out]; rfl, below_drewN HB.out _⟩
  have h3' : 0 ≤ p := by omega
  by_cases h4 : q < p
  · have HF := Lib.hid (chB_no (p := p) (q := q) (fun h => by omega))
    have G : decide (p ≤ q) = false := by simp; omega
    have G0 : decide ((1 : Int) ≤ q) = true := by simpa using h1'
    have G1 : decide (q ≤ (100 : Int)) = true := by simpa using h2'
    have G2 : decide ((0 : Int) ≤ p) = true := by simpa using h3'
    clear h1 h2 h3
    go_enter Try.func64, Try.ntmps64
    go_wp2
    rw [← HW.out]
    go_quiet (fail)
    go_wp2
    go_ret
    exact ⟨by rw [HF.out]; rfl, below_drewN HB.out _⟩
  have h4' : p ≤ q := by omega
  have hfr := fun W => fraction_any p q.toNat W (by omega) (by omega) (by omega) (by omega)
  rw [show ((q.toNat : Nat) : Int) = q by omega] at hfr
  have HFr : Hid (∀ W, Calls Try.prog 82 #[.int .i64 p, .int .i64 q] W fun e w' => e = .returned (.agg #[.int .i64 (frA p q.toNat), .int .i64 (frB p q.toNat : Nat)]) ∧ Below W.heap.size W w') := hfr
  clear hfr h1 h2 h3 h4
  have G0 : decide ((1 : Int) ≤ q) = true := by simpa using h1'
  have G1 : decide (q ≤ (100 : Int)) = true := by simpa using h2'
  have G2 : decide ((0 : Int) ≤ p) = true := by simpa using h3'
  have G3 : decide (p ≤ q) = true := by simpa using h4'
  by_cases e1 : frA p q.toNat = p
  · by_cases e2 : (frB p q.toNat : Int) = q
    · have HC : Hid (chB p q = true) := chB_iff.2 ⟨h1', h2', h3', h4', e1, e2⟩
      rw [e1, e2] at HFr
      clear e1 e2
      go_enter Try.func64, Try.ntmps64
      go_wp2
      rw [← HW.out]
      go_region_held3 (fun w' => w'.cell? ⟨w.heap.size, 0, none⟩ = some (.int .i64 p) ∧ w'.cell? ⟨w.heap.size, 1, none⟩ = some (.int .i64 q))
        (first
          | (go_split_ands; exact HC5.out)
          | go_keep)
        ((first
          | ((with_reducible refine (HFr.out _).mono ?_); rintro e w5 ⟨rfl, hb5⟩; have hq5 := fr_cells (frAt HQ.out (below_drew1 hb5)); have HC5 := Lib.hid (And.intro hq5.1 hq5.2.1); have HB5 := Lib.hid (band HB.out (below_drew1 hb5)); clear hb5 hq5)))
      all_goals
        go_wp2
        go_ret
        exact ⟨by rw [HC.out]; rfl, HB5.out⟩
    · have HC : Hid (chB p q = false) := chB_no (fun h => e2 h.2.2.2.2.2)
      rw [e1] at HFr
      obtain ⟨B, hB⟩ : ∃ B : Int, B = (frB p q.toNat : Nat) := ⟨_, rfl⟩
      rw [← hB] at HFr e2
      have K1 : (q == B) = false := by simp; exact fun h => e2 h.symm
      have K2 : (B == q) = false := by simp; exact e2
      clear e1 hB e2
      go_enter Try.func64, Try.ntmps64
      go_wp2
      rw [← HW.out]
      go_region_held3 (fun w' => w'.cell? ⟨w.heap.size, 0, none⟩ = some (.int .i64 p) ∧ w'.cell? ⟨w.heap.size, 1, none⟩ = some (.int .i64 q))
        (first
          | (go_split_ands; exact HC5.out)
          | go_keep)
        ((first
          | ((with_reducible refine (HFr.out _).mono ?_); rintro e w5 ⟨rfl, hb5⟩; have hq5 := fr_cells (frAt HQ.out (below_drew1 hb5)); have HC5 := Lib.hid (And.intro hq5.1 hq5.2.1); have HB5 := Lib.hid (band HB.out (below_drew1 hb5)); clear hb5 hq5)))
      all_goals
        go_wp2
        go_ret
        exact ⟨by rw [HC.out]; rfl, HB5.out⟩
  · have HC : Hid (chB p q = false) := chB_no (fun h => e1 h.2.2.2.2.1)
    obtain ⟨A, hA⟩ : ∃ A : Int, A = frA p q.toNat := ⟨_, rfl⟩
    obtain ⟨B, hB⟩ : ∃ B : Int, B = (frB p q.toNat : Nat) := ⟨_, rfl⟩
    rw [← hA, ← hB] at HFr
    rw [← hA] at e1
    have K1 : (p == A) = false := by simp; exact fun h => e1 h.symm
    have K2 : (A == p) = false := by simp; exact e1
    clear hB hA e1
    go_enter Try.func64, Try.ntmps64
    go_wp2
    rw [← HW.out]
    go_region_held3 (fun w' => w'.cell? ⟨w.heap.size, 0, none⟩ = some (.int .i64 p) ∧ w'.cell? ⟨w.heap.size, 1, none⟩ = some (.int .i64 q))
      (first
        | (go_split_ands; exact HC5.out)
        | go_keep)
      ((first
        | ((with_reducible refine (HFr.out _).mono ?_); rintro e w5 ⟨rfl, hb5⟩; have hq5 := fr_cells (frAt HQ.out (below_drew1 hb5)); have HC5 := Lib.hid (And.intro hq5.1 hq5.2.1); have HB5 := Lib.hid (band HB.out (below_drew1 hb5)); clear hb5 hq5)))
    all_goals
      go_wp2
      go_ret
      exact ⟨by rw [HC.out]; rfl, HB5.out⟩

set_option maxHeartbeats 4000000 in
set_option maxRecDepth 100000 in
theorem rchance_any (p q : Int) (w : World) :
    Calls Try.prog 36 #[.agg #[.int .i64 p, .int .i64 q]] w fun e w' => e = .returned (.bool (chB p q)) ∧ Below w.heap.size w w' := by
  obtain ⟨W, hW⟩ : ∃ W, W = w.alloc (.cells #[.int .i64 p, .int .i64 q] 24) := ⟨_, rfl⟩
  have hb : Below w.heap.size w W := by rw [hW]; exact below_one w _
  have hq : W.heap[w.heap.size]? = some (.cells #[.int .i64 p, .int .i64 q] 24) := by rw [hW]; exact heap_alloc_new w _
  have HB := Lib.hid hb
  have HQ := Lib.hid hq
  have HW := Lib.hid hW
  have hlt : w.heap.size < W.heap.size := by rw [hW]; simp
  obtain ⟨q1, q2, _, _⟩ := fr_cells hq
  clear hb hq hW
  by_cases h1 : q < 1
  · have HF := Lib.hid (chB_no (p := p) (q := q) (fun h => by omega))
    have G : decide ((1 : Int) ≤ q) = false := by simp; omega
    go_enter Try.func36, Try.ntmps36
    go_wp2
    rw [← HW.out]
    go_quiet (fail)
    go_wp2
    go_ret
    exact ⟨by rw [HF.out]; rfl, below_drewN HB.out _⟩
  have h1' : 1 ≤ q := by omega
  by_cases h2 : 100 < q
  · have HF := Lib.hid (chB_no (p := p) (q := q) (fun h => by omega))
    have G : decide (q ≤ (100 : Int)) = false := by simp; omega
    have G0 : decide ((1 : Int) ≤ q) = true := by simpa using h1'
    clear h1
    go_enter Try.func36, Try.ntmps36
    go_wp2
    rw [← HW.out]
    go_quiet (fail)
    go_wp2
    go_ret
    exact ⟨by rw [HF.out]; rfl, below_drewN HB.out _⟩
  have h2' : q ≤ 100 := by omega
  by_cases h3 : p < 0
  · have HF := Lib.hid (chB_no (p := p) (q := q) (fun h => by omega))
    have G : decide ((0 : Int) ≤ p) = false := by simp; omega
    have G0 : decide ((1 : Int) ≤ q) = true := by simpa using h1'
    have G1 : decide (q ≤ (100 : Int)) = true := by simpa using h2'
    clear h1 h2
    go_enter Try.func36, Try.ntmps36
    go_wp2
    rw [← HW.out]
    go_quiet (fail)
    go_wp2
    go_ret
    exact ⟨by rw [HF.out]; rfl, below_drewN HB.out _⟩
  have h3' : 0 ≤ p := by omega
  by_cases h4 : q < p
  · have HF := Lib.hid (chB_no (p := p) (q := q) (fun h => by omega))
    have G : decide (p ≤ q) = false := by simp; omega
    have G0 : decide ((1 : Int) ≤ q) = true := by simpa using h1'
    have G1 : decide (q ≤ (100 : Int)) = true := by simpa using h2'
    have G2 : decide ((0 : Int) ≤ p) = true := by simpa using h3'
    clear h1 h2 h3
    go_enter Try.func36, Try.ntmps36
    go_wp2
    rw [← HW.out]
    go_quiet (fail)
    go_wp2
    go_ret
    exact ⟨by rw [HF.out]; rfl, below_drewN HB.out _⟩
  have h4' : p ≤ q := by omega
  have hfr := fun W => rfrac_any p q.toNat W (by omega) (by omega) (by omega) (by omega)
  rw [show ((q.toNat : Nat) : Int) = q by omega] at hfr
  have HFr : Hid (∀ W, Calls Try.prog 54 #[.int .i64 p, .int .i64 q] W fun e w' => e = .returned (.agg #[.int .i64 (frA p q.toNat), .int .i64 (frB p q.toNat : Nat)]) ∧ Below W.heap.size W w') := hfr
  clear hfr h1 h2 h3 h4
  have G0 : decide ((1 : Int) ≤ q) = true := by simpa using h1'
  have G1 : decide (q ≤ (100 : Int)) = true := by simpa using h2'
  have G2 : decide ((0 : Int) ≤ p) = true := by simpa using h3'
  have G3 : decide (p ≤ q) = true := by simpa using h4'
  by_cases e1 : frA p q.toNat = p
  · by_cases e2 : (frB p q.toNat : Int) = q
    · have HC : Hid (chB p q = true) := chB_iff.2 ⟨h1', h2', h3', h4', e1, e2⟩
      rw [e1, e2] at HFr
      clear e1 e2
      go_enter Try.func36, Try.ntmps36
      go_wp2
      rw [← HW.out]
      go_region_held3 (fun w' => w'.cell? ⟨w.heap.size, 0, none⟩ = some (.int .i64 p) ∧ w'.cell? ⟨w.heap.size, 1, none⟩ = some (.int .i64 q))
        (first
          | (go_split_ands; exact HC5.out)
          | go_keep)
        ((first
          | ((with_reducible refine (HFr.out _).mono ?_); rintro e w5 ⟨rfl, hb5⟩; have hq5 := fr_cells (frAt HQ.out (below_drew1 hb5)); have HC5 := Lib.hid (And.intro hq5.1 hq5.2.1); have HB5 := Lib.hid (band HB.out (below_drew1 hb5)); clear hb5 hq5)))
      all_goals
        go_wp2
        go_ret
        exact ⟨by rw [HC.out]; rfl, HB5.out⟩
    · have HC : Hid (chB p q = false) := chB_no (fun h => e2 h.2.2.2.2.2)
      rw [e1] at HFr
      obtain ⟨B, hB⟩ : ∃ B : Int, B = (frB p q.toNat : Nat) := ⟨_, rfl⟩
      rw [← hB] at HFr e2
      have K1 : (q == B) = false := by simp; exact fun h => e2 h.symm
      have K2 : (B == q) = false := by simp; exact e2
      clear e1 hB e2
      go_enter Try.func36, Try.ntmps36
      go_wp2
      rw [← HW.out]
      go_region_held3 (fun w' => w'.cell? ⟨w.heap.size, 0, none⟩ = some (.int .i64 p) ∧ w'.cell? ⟨w.heap.size, 1, none⟩ = some (.int .i64 q))
        (first
          | (go_split_ands; exact HC5.out)
          | go_keep)
        ((first
          | ((with_reducible refine (HFr.out _).mono ?_); rintro e w5 ⟨rfl, hb5⟩; have hq5 := fr_cells (frAt HQ.out (below_drew1 hb5)); have HC5 := Lib.hid (And.intro hq5.1 hq5.2.1); have HB5 := Lib.hid (band HB.out (below_drew1 hb5)); clear hb5 hq5)))
      all_goals
        go_wp2
        go_ret
        exact ⟨by rw [HC.out]; rfl, HB5.out⟩
  · have HC : Hid (chB p q = false) := chB_no (fun h => e1 h.2.2.2.2.1)
    obtain ⟨A, hA⟩ : ∃ A : Int, A = frA p q.toNat := ⟨_, rfl⟩
    obtain ⟨B, hB⟩ : ∃ B : Int, B = (frB p q.toNat : Nat) := ⟨_, rfl⟩
    rw [← hA, ← hB] at HFr
    rw [← hA] at e1
    have K1 : (p == A) = false := by simp; exact fun h => e1 h.symm
    have K2 : (A == p) = false := by simp; exact e1
    clear hB hA e1
    go_enter Try.func36, Try.ntmps36
    go_wp2
    rw [← HW.out]
    go_region_held3 (fun w' => w'.cell? ⟨w.heap.size, 0, none⟩ = some (.int .i64 p) ∧ w'.cell? ⟨w.heap.size, 1, none⟩ = some (.int .i64 q))
      (first
        | (go_split_ands; exact HC5.out)
        | go_keep)
      ((first
        | ((with_reducible refine (HFr.out _).mono ?_); rintro e w5 ⟨rfl, hb5⟩; have hq5 := fr_cells (frAt HQ.out (below_drew1 hb5)); have HC5 := Lib.hid (And.intro hq5.1 hq5.2.1); have HB5 := Lib.hid (band HB.out (below_drew1 hb5)); clear hb5 hq5)))
    all_goals
      go_wp2
      go_ret
      exact ⟨by rw [HC.out]; rfl, HB5.out⟩
end Go.Proofs.Ytchahkpenilcbaa
