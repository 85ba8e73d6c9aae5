import Derived.Test.YtkbbijhknbcflabA2
import Derived.Deep.DeepCutAuto
import Derived.Deep.RegionWith
import Derived.Deep.RegionHeld3
/-
  Which works are valid: in the program and in the document.
-/
namespace Go.Proofs.Ytkbbijhknbcflab
open Go.RowKit

/-- Is it a works? -/
def isWk (n m : Nat) (T L : Nat → Int) : Bool := decide (1 ≤ n ∧ n ≤ 6 ∧ m = n ∧ ∀ s, s < n → (0 ≤ T s ∧ T s ≤ ((2 ^ n - 1 : Nat) : Int)) ∧ 0 ≤ L s ∧ L s < 16)
theorem isWk_iff {n m : Nat} {T L : Nat → Int} : isWk n m T L = true ↔ 1 ≤ n ∧ n ≤ 6 ∧ m = n ∧ ∀ s, s < n → (0 ≤ T s ∧ T s ≤ ((2 ^ n - 1 : Nat) : Int)) ∧ 0 ≤ L s ∧ L s < 16 := by simp [isWk]
theorem isWk_no {n m : Nat} {T L : Nat → Int} (h : ¬ (1 ≤ n ∧ n ≤ 6 ∧ m = n ∧ ∀ s, s < n → (0 ≤ T s ∧ T s ≤ ((2 ^ n - 1 : Nat) : Int)) ∧ 0 ≤ L s ∧ L s < 16)) : isWk n m T L = false := by
  cases e : isWk n m T L
  · rfl
  · exact absurd (isWk_iff.1 e) h
/-- It does not hang on more than is read. -/
theorem isWk_cut (n m : Nat) (T L : Nat → Int) : isWk (min n 9) (min m 9) T L = isWk n m T L := by
  by_cases h : n ≤ 9 ∧ m ≤ 9
  · rw [Nat.min_eq_left h.1, Nat.min_eq_left h.2]
  · rw [isWk_no (n := n) (m := m) (by rintro ⟨_, h2, h3, _⟩; omega), isWk_no (by rintro ⟨_, h2, h3, _⟩; omega)]

/-- A bool, and nothing that was there has turned. -/
def SomeB (r : Bool) (w : World) (e : Ending) (w' : World) : Prop := e = .returned (.bool r) ∧ Below w.heap.size w w'

theorem below_drew1 {w w' : World} (h : Below w.drew.heap.size w.drew w') : Below w.heap.size w w' := ⟨h.os, h.tape, h.output, h.size, h.block⟩
/-- The box of a works, and nothing that was there has turned. -/
structure VInv (aN : Option Addr) (n cN : Nat) (aM : Option Addr) (m cM : Nat) (w wr : World) : Prop where
  box : wr.heap[w.heap.size]? = some (.cells #[.slice aN n cN, .slice aM m cM] 33)
  bel : Below w.heap.size w wr
theorem VInv.start (aN : Option Addr) (n cN : Nat) (aM : Option Addr) (m cM : Nat) (w : World) : VInv aN n cN aM m cM w (w.alloc (.cells #[.slice aN n cN, .slice aM m cM] 33)) := ⟨heap_alloc_new w _, below_one _ _⟩
theorem VInv.keep {aN : Option Addr} {n cN : Nat} {aM : Option Addr} {m cM : Nat} {w wr wr' : World} (h : VInv aN n cN aM m cM w wr) (hb : Below wr.heap.size wr wr') : VInv aN n cN aM m cM w wr' :=
  ⟨by rw [hb.block _ (Array.getElem?_eq_some_iff.1 h.box).1]; exact h.box, band h.bel hb⟩
theorem VInv.cells {aN : Option Addr} {n cN : Nat} {aM : Option Addr} {m cM : Nat} {w wr : World} (h : VInv aN n cN aM m cM w wr) : wr.cell? ⟨w.heap.size, 0, none⟩ = some (.slice aN n cN) ∧ wr.cell? ⟨w.heap.size, 1, none⟩ = some (.slice aM m cM) := ⟨block_cell h.box 0, block_cell h.box 1⟩
/-- That, and two numbers. -/
structure VAt (aN : Option Addr) (n cN : Nat) (aM : Option Addr) (m cM : Nat) (p q : Addr) (X Y : Int) (w wr : World) : Prop where
  inv : VInv aN n cN aM m cM w wr
  cx : wr.cell? p = some (.int .i64 X)
  cy : wr.cell? q = some (.int .i64 Y)
theorem VAt.keep {aN : Option Addr} {n cN : Nat} {aM : Option Addr} {m cM : Nat} {p q : Addr} {X Y : Int} {w wr wr' : World} (h : VAt aN n cN aM m cM p q X Y w wr) (hb : Below wr.heap.size wr wr') : VAt aN n cN aM m cM p q X Y w wr' :=
  ⟨h.inv.keep hb, (hb.cell (World.block_lt_of_cell? _ _ h.cx)).trans h.cx, (hb.cell (World.block_lt_of_cell? _ _ h.cy)).trans h.cy⟩
theorem VAt.all {aN : Option Addr} {n cN : Nat} {aM : Option Addr} {m cM : Nat} {p q : Addr} {X Y : Int} {w wr : World} (h : VAt aN n cN aM m cM p q X Y w wr) :
    wr.cell? ⟨w.heap.size, 0, none⟩ = some (.slice aN n cN) ∧ wr.cell? ⟨w.heap.size, 1, none⟩ = some (.slice aM m cM) ∧ wr.cell? p = some (.int .i64 X) ∧ wr.cell? q = some (.int .i64 Y) := ⟨h.inv.cells.1, h.inv.cells.2, h.cx, h.cy⟩

set_option maxHeartbeats 4000000 in
set_option maxRecDepth 100000 in
theorem valid_any (aN : Option Addr) (n cN : Nat) (aM : Option Addr) (m cM : Nat) (T L : Nat → Int) (w : World) (hn : n ≤ 9) (hm : m ≤ 9) (hT : Ints w aN n T) (hL : Ints w aM m L) :
    Calls Try.prog 18 #[wkV aN n cN aM m cM] w fun e w' => SomeB (isWk n m T L) w e w' := by
  have HT := Lib.hid (fun W (h : Below w.heap.size w W) => (hT.keep (Nat.le_refl _) h : Ints _ _ _ _))
  have HL := Lib.hid (fun W (h : Below w.heap.size w W) => (hL.keep (Nat.le_refl _) h : Ints _ _ _ _))
  clear hT hL
  have HI := Lib.hid (VInv.start aN n cN aM m cM w)
  have HB1 := Lib.hid (below_one w (.cells #[.slice aN n cN, .slice aM m cM] 33))
  by_cases h0 : 1 ≤ n ∧ n ≤ 6
  · obtain ⟨h1, h6⟩ := h0
    by_cases hmn : m = n
    · subst hmn
      go_enter Try.func18, Try.ntmps18
      go_wp2
      go_loopw [22] (fun i wr => ∃ k : Nat, k ≤ m ∧ i = .int .i64 k ∧ Hid (∀ s, s < k → (0 ≤ T s ∧ T s ≤ ((2 ^ m - 1 : Nat) : Int)) ∧ 0 ≤ L s ∧ L s < 16) ∧ VInv aN m cN aM m cM w wr) (fun i _ => m - (intOf i).toNat)
      case atStart => exact ⟨0, Nat.zero_le _, rfl, fun j hj => absurd hj (Nat.not_lt_zero _), HI.out⟩
      case round =>
        obtain ⟨k, hk, rfl, hr, hI⟩ := hrel
        by_cases hlt : k < m
        · obtain ⟨bT, oT, rfl, hcT⟩ := HT.out _ hI.bel k hlt
          obtain ⟨bL, oL, rfl, hcL⟩ := HL.out _ hI.bel k hlt
          obtain ⟨X, hX⟩ : ∃ X, T k = X := ⟨_, rfl⟩
          obtain ⟨Y, hY⟩ : ∃ Y, L k = Y := ⟨_, rfl⟩
          rw [hX] at hcT
          rw [hY] at hcL
          have HX := Lib.hid hX
          have HY := Lib.hid hY
          have HC : Hid (VAt (some ⟨bT, oT, none⟩) m cN (some ⟨bL, oL, none⟩) m cM ⟨bT, oT + k, none⟩ ⟨bL, oL + k, none⟩ X Y w wr) := ⟨hI, hcT, hcL⟩
          obtain ⟨q0, q1⟩ := hI.cells
          have hsz : w.heap.size < wr.heap.size := (Array.getElem?_eq_some_iff.1 hI.box).1
          have HW : Hid (Below w.heap.size w wr) := hI.bel
          clear hX hY hI HI
          by_cases hin : 0 ≤ X ∧ X ≤ ((2 ^ m - 1 : Nat) : Int)
          · have HS := Lib.hid (fun W => isSet_any true (some ⟨bT, oT, none⟩) m cN (some ⟨bL, oL, none⟩) m cM X W hn (decide_eq_true hin))
            have HIN := Lib.hid hin
            clear hin
            by_cases hy0 : 0 ≤ Y
            · by_cases hy1 : Y < 16
              · have HN : Hid (∀ s, s < k + 1 → (0 ≤ T s ∧ T s ≤ ((2 ^ m - 1 : Nat) : Int)) ∧ 0 ≤ L s ∧ L s < 16) := by
                  intro s hs
                  by_cases e : s = k
                  · subst e; rw [HX.out, HY.out]; exact ⟨HIN.out, hy0, hy1⟩
                  · exact hr.out s (by omega)
                have hd0 : decide (Y < 0) = false := decide_eq_false (by omega)
                have hd1 : decide ((16 : Int) ≤ Y) = false := decide_eq_false (by omega)
                go_wp2
                go_region_held3 (fun w' => w'.cell? ⟨w.heap.size, 0, none⟩ = some (.slice (some ⟨bT, oT, none⟩) m cN) ∧ w'.cell? ⟨w.heap.size, 1, none⟩ = some (.slice (some ⟨bL, oL, none⟩) m cM) ∧ w'.cell? ⟨bT, oT + k, none⟩ = some (.int .i64 X) ∧ w'.cell? ⟨bL, oL + k, none⟩ = some (.int .i64 Y))
                  (first
                    | go_keep
                    | (go_split_ands; exact HC1.out.all))
                  ((first
                    | ((with_reducible refine (HS.out _).mono ?_); rintro e w1 ⟨rfl, hb1⟩; have HC1 := Lib.hid (HC.out.keep (below_drew1 hb1)); have HW1 := Lib.hid (HW.out.trans ((below_drew1 hb1).mono HW.out.size)); clear hb1)))
                all_goals
                  have HI1 := Lib.hid HC1.out.inv
                  clear HC1
                  go_wp2
                  go_roundw
                  case rel => exact ⟨k + 1, by omega, by go_num, HN.out, HI1.out⟩
                  case measure => simp [intOf]; omega
              · have HF := Lib.hid (isWk_no (T := T) (L := L) (n := m) (m := m) (by rintro ⟨_, _, _, h⟩; have := (h k hlt).2.2; rw [HY.out] at this; omega))
                have hd0 : decide (Y < 0) = false := decide_eq_false (by omega)
                have hd1 : decide ((16 : Int) ≤ Y) = true := decide_eq_true (by omega)
                go_wp2
                go_region_held3 (fun w' => w'.cell? ⟨w.heap.size, 0, none⟩ = some (.slice (some ⟨bT, oT, none⟩) m cN) ∧ w'.cell? ⟨w.heap.size, 1, none⟩ = some (.slice (some ⟨bL, oL, none⟩) m cM) ∧ w'.cell? ⟨bT, oT + k, none⟩ = some (.int .i64 X) ∧ w'.cell? ⟨bL, oL + k, none⟩ = some (.int .i64 Y))
                  (first
                    | go_keep
                    | (go_split_ands; exact HC1.out.all))
                  ((first
                    | ((with_reducible refine (HS.out _).mono ?_); rintro e w1 ⟨rfl, hb1⟩; have HC1 := Lib.hid (HC.out.keep (below_drew1 hb1)); have HW1 := Lib.hid (HW.out.trans ((below_drew1 hb1).mono HW.out.size)); clear hb1)))
                all_goals
                  go_wp2
                  go_ret
                  exact ⟨by rw [HF.out]; rfl, HW1.out⟩
            · have HF := Lib.hid (isWk_no (T := T) (L := L) (n := m) (m := m) (by rintro ⟨_, _, _, h⟩; have := (h k hlt).2.1; rw [HY.out] at this; omega))
              have hd0 : decide (Y < 0) = true := decide_eq_true (by omega)
              go_wp2
              refine wp_region_held_drew (S := (fun w' => w'.cell? ⟨w.heap.size, 0, none⟩ = some (.slice (some ⟨bT, oT, none⟩) m cN) ∧ w'.cell? ⟨w.heap.size, 1, none⟩ = some (.slice (some ⟨bL, oL, none⟩) m cM) ∧ w'.cell? ⟨bT, oT + k, none⟩ = some (.int .i64 X) ∧ w'.cell? ⟨bL, oL + k, none⟩ = some (.int .i64 Y))) (by kernel_rfl) ?_ (fun hHeld => ?_)
              · go_split_ands; exact HC.out.all
              refine wpAnyH_take (i := 0) (oi := ⟨some 25, _, _, _, _, _⟩) (v := wkV (some ⟨bT, oT, none⟩) m cN (some ⟨bL, oL, none⟩) m cM) rfl (by kernel_rfl) (by kernel_rfl) (by kernel_rfl) (fun _ _ _ h => h) (Or.inl ⟨by rfl, fun w2 hSw => ?_⟩) (by assumption) ?_
              · obtain ⟨s0, s1, s2, s3⟩ := hSw; go_simp
              try simp only [Act.put, List.setIfInBounds_toArray, List.set_cons_zero, List.set_cons_succ]
              refine wpAnyH_take (i := 1) (oi := ⟨some 26, _, _, _, _, _⟩) (v := .pointer (some ⟨w.heap.size, 0, none⟩)) rfl (by kernel_rfl) (by kernel_rfl) (by kernel_rfl) (fun _ _ _ h => h) (Or.inl ⟨by rfl, fun w2 hSw => ?_⟩) (by assumption) ?_
              · obtain ⟨s0, s1, s2, s3⟩ := hSw; go_simp
              try simp only [Act.put, List.setIfInBounds_toArray, List.set_cons_zero, List.set_cons_succ]
              refine wpAnyH_take (i := 2) (oi := ⟨some 27, _, _, _, _, _⟩) (v := .slice (some ⟨bT, oT, none⟩) m cN) rfl (by kernel_rfl) (by kernel_rfl) (by kernel_rfl) (fun _ _ _ h => h) (Or.inl ⟨by rfl, fun w2 hSw => ?_⟩) (by assumption) ?_
              · obtain ⟨s0, s1, s2, s3⟩ := hSw; go_simp
              try simp only [Act.put, List.setIfInBounds_toArray, List.set_cons_zero, List.set_cons_succ]
              refine wpAnyH_take (i := 3) (oi := ⟨some 28, _, _, _, _, _⟩) (v := .int .i64 (k : Nat)) rfl (by kernel_rfl) (by kernel_rfl) (by kernel_rfl) (fun _ _ _ h => h) (Or.inl ⟨by rfl, fun w2 hSw => ?_⟩) (by assumption) ?_
              · obtain ⟨s0, s1, s2, s3⟩ := hSw; go_simp
              try simp only [Act.put, List.setIfInBounds_toArray, List.set_cons_zero, List.set_cons_succ]
              refine wpAnyH_take (i := 4) (oi := ⟨some 29, _, _, _, _, _⟩) (v := .pointer (some ⟨bT, oT + k, none⟩)) rfl (by kernel_rfl) (by kernel_rfl) (by kernel_rfl) (fun _ _ _ h => h) (Or.inl ⟨by rfl, fun w2 hSw => ?_⟩) (by assumption) ?_
              · obtain ⟨s0, s1, s2, s3⟩ := hSw; go_simp
              try simp only [Act.put, List.setIfInBounds_toArray, List.set_cons_zero, List.set_cons_succ]
              refine wpAnyH_take (i := 5) (oi := ⟨some 30, _, _, _, _, _⟩) (v := .int .i64 X) rfl (by kernel_rfl) (by kernel_rfl) (by kernel_rfl) (fun _ _ _ h => h) (Or.inl ⟨by rfl, fun w2 hSw => ?_⟩) (by assumption) ?_
              · obtain ⟨s0, s1, s2, s3⟩ := hSw; go_simp
              try simp only [Act.put, List.setIfInBounds_toArray, List.set_cons_zero, List.set_cons_succ]
              refine wpAnyH_ready (rs := [6]) (by kernel_rfl) (by simp) ?_
              refine AllReadyH.cons (o := ⟨some 31, _, _, _, _, _⟩) rfl (fun K hK => ?_) AllReadyH.nil
              go_simp
              refine (HS.out _).mono ?_
              rintro e w1 ⟨rfl, hb1⟩
              have HC1 := Lib.hid (HC.out.keep (below_drew1 hb1))
              have HW1 := Lib.hid (HW.out.trans ((below_drew1 hb1).mono HW.out.size))
              clear hb1
              clear hHeld
              go_wp2_with fail
              refine hK.out _ _ ?_ (fun hHeld => ?_)
              · go_split_ands; exact HC1.out.all
              clear hK K
              try simp only [Act.put, List.setIfInBounds_toArray, List.set_cons_zero, List.set_cons_succ]
              refine wpAnyH_take (i := 7) (oi := ⟨some 32, _, _, _, _, _⟩) (v := .bool false) rfl (by kernel_rfl) (by kernel_rfl) (by kernel_rfl) (fun _ _ _ h => h) (Or.inl ⟨by rfl, fun w2 hSw => ?_⟩) (by assumption) ?_
              · obtain ⟨s0, s1, s2, s3⟩ := hSw; go_simp
              try simp only [Act.put, List.setIfInBounds_toArray, List.set_cons_zero, List.set_cons_succ]
              refine wpAnyH_take (i := 8) (oi := ⟨some 33, _, _, _, _, _⟩) (v := .bool false) rfl (by kernel_rfl) (by kernel_rfl) (by kernel_rfl) (fun _ _ _ h => h) (Or.inl ⟨by rfl, fun w2 hSw => ?_⟩) (by assumption) ?_
              · obtain ⟨s0, s1, s2, s3⟩ := hSw; go_simp
              try simp only [Act.put, List.setIfInBounds_toArray, List.set_cons_zero, List.set_cons_succ]
              refine wpAnyH_take (i := 9) (oi := ⟨some 34, _, _, _, _, _⟩) (v := .pointer (some ⟨w.heap.size, 1, none⟩)) rfl (by kernel_rfl) (by kernel_rfl) (by kernel_rfl) (fun _ _ _ h => h) (Or.inl ⟨by rfl, fun w2 hSw => ?_⟩) (by assumption) ?_
              · obtain ⟨s0, s1, s2, s3⟩ := hSw; go_simp
              try simp only [Act.put, List.setIfInBounds_toArray, List.set_cons_zero, List.set_cons_succ]
              refine wpAnyH_take (i := 10) (oi := ⟨some 35, _, _, _, _, _⟩) (v := .slice (some ⟨bL, oL, none⟩) m cM) rfl (by kernel_rfl) (by kernel_rfl) (by kernel_rfl) (fun _ _ _ h => h) (Or.inl ⟨by rfl, fun w2 hSw => ?_⟩) (by assumption) ?_
              · obtain ⟨s0, s1, s2, s3⟩ := hSw; go_simp
              try simp only [Act.put, List.setIfInBounds_toArray, List.set_cons_zero, List.set_cons_succ]
              refine wpAnyH_take (i := 11) (oi := ⟨some 36, _, _, _, _, _⟩) (v := .int .i64 (k : Nat)) rfl (by kernel_rfl) (by kernel_rfl) (by kernel_rfl) (fun _ _ _ h => h) (Or.inl ⟨by rfl, fun w2 hSw => ?_⟩) (by assumption) ?_
              · obtain ⟨s0, s1, s2, s3⟩ := hSw; go_simp
              try simp only [Act.put, List.setIfInBounds_toArray, List.set_cons_zero, List.set_cons_succ]
              refine wpAnyH_take (i := 12) (oi := ⟨some 37, _, _, _, _, _⟩) (v := .pointer (some ⟨bL, oL + k, none⟩)) rfl (by kernel_rfl) (by kernel_rfl) (by kernel_rfl) (fun _ _ _ h => h) (Or.inl ⟨by rfl, fun w2 hSw => ?_⟩) (by assumption) ?_
              · obtain ⟨s0, s1, s2, s3⟩ := hSw; go_simp
              try simp only [Act.put, List.setIfInBounds_toArray, List.set_cons_zero, List.set_cons_succ]
              refine wpAnyH_take (i := 13) (oi := ⟨some 38, _, _, _, _, _⟩) (v := .int .i64 Y) rfl (by kernel_rfl) (by kernel_rfl) (by kernel_rfl) (fun _ _ _ h => h) (Or.inl ⟨by rfl, fun w2 hSw => ?_⟩) (by assumption) ?_
              · obtain ⟨s0, s1, s2, s3⟩ := hSw; go_simp
              try simp only [Act.put, List.setIfInBounds_toArray, List.set_cons_zero, List.set_cons_succ]
              refine wpAnyH_take (i := 14) (oi := ⟨some 39, _, _, _, _, _⟩) (v := .bool true) rfl (by kernel_rfl) (by kernel_rfl) (by kernel_rfl) (fun _ _ _ h => h) (Or.inl ⟨by rfl, fun w2 hSw => ?_⟩) (by assumption) ?_
              · obtain ⟨s0, s1, s2, s3⟩ := hSw; go_simp
              try simp only [Act.put, List.setIfInBounds_toArray, List.set_cons_zero, List.set_cons_succ]
              refine wpAnyH_take (i := 15) (oi := ⟨some 40, _, _, _, _, _⟩) (v := .bool true) rfl (by kernel_rfl) (by kernel_rfl) (by kernel_rfl) (fun _ _ _ h => h) (Or.inl ⟨by rfl, fun w2 hSw => ?_⟩) (by assumption) ?_
              · obtain ⟨s0, s1, s2, s3⟩ := hSw; go_simp
              try simp only [Act.put, List.setIfInBounds_toArray, List.set_cons_zero, List.set_cons_succ]
              refine wpAnyH_take (i := 16) (oi := ⟨some 41, _, _, _, _, _⟩) (v := .bool true) rfl (by kernel_rfl) (by kernel_rfl) (by kernel_rfl) (fun _ _ _ h => h) (Or.inl ⟨by rfl, fun w2 hSw => ?_⟩) (by assumption) ?_
              · obtain ⟨s0, s1, s2, s3⟩ := hSw; go_simp
              try simp only [Act.put, List.setIfInBounds_toArray, List.set_cons_zero, List.set_cons_succ]
              refine wpAnyH_take (i := 17) (oi := ⟨some 42, _, _, _, _, _⟩) (v := undef) rfl (by kernel_rfl) (by kernel_rfl) (by kernel_rfl) (fun _ _ _ h => h) (Or.inr ⟨by rfl, rfl⟩) (by assumption) ?_
              try simp only [Act.put, List.setIfInBounds_toArray, List.set_cons_zero, List.set_cons_succ]
              refine wpAnyH_take (i := 18) (oi := ⟨some 43, _, _, _, _, _⟩) (v := undef) rfl (by kernel_rfl) (by kernel_rfl) (by kernel_rfl) (fun _ _ _ h => h) (Or.inr ⟨by rfl, rfl⟩) (by assumption) ?_
              try simp only [Act.put, List.setIfInBounds_toArray, List.set_cons_zero, List.set_cons_succ]
              refine wpAnyH_take (i := 19) (oi := ⟨some 44, _, _, _, _, _⟩) (v := undef) rfl (by kernel_rfl) (by kernel_rfl) (by kernel_rfl) (fun _ _ _ h => h) (Or.inr ⟨by rfl, rfl⟩) (by assumption) ?_
              try simp only [Act.put, List.setIfInBounds_toArray, List.set_cons_zero, List.set_cons_succ]
              refine wpAnyH_take (i := 20) (oi := ⟨some 45, _, _, _, _, _⟩) (v := undef) rfl (by kernel_rfl) (by kernel_rfl) (by kernel_rfl) (fun _ _ _ h => h) (Or.inr ⟨by rfl, rfl⟩) (by assumption) ?_
              try simp only [Act.put, List.setIfInBounds_toArray, List.set_cons_zero, List.set_cons_succ]
              refine wpAnyH_take (i := 21) (oi := ⟨some 46, _, _, _, _, _⟩) (v := undef) rfl (by kernel_rfl) (by kernel_rfl) (by kernel_rfl) (fun _ _ _ h => h) (Or.inr ⟨by rfl, rfl⟩) (by assumption) ?_
              try simp only [Act.put, List.setIfInBounds_toArray, List.set_cons_zero, List.set_cons_succ]
              refine wpAnyH_take (i := 22) (oi := ⟨some 47, _, _, _, _, _⟩) (v := undef) rfl (by kernel_rfl) (by kernel_rfl) (by kernel_rfl) (fun _ _ _ h => h) (Or.inr ⟨by rfl, rfl⟩) (by assumption) ?_
              try simp only [Act.put, List.setIfInBounds_toArray, List.set_cons_zero, List.set_cons_succ]
              refine wpAnyH_take (i := 23) (oi := ⟨some 48, _, _, _, _, _⟩) (v := .bool true) rfl (by kernel_rfl) (by kernel_rfl) (by kernel_rfl) (fun _ _ _ h => h) (Or.inl ⟨by rfl, fun w2 hSw => ?_⟩) (by assumption) ?_
              · obtain ⟨s0, s1, s2, s3⟩ := hSw; go_simp
              try simp only [Act.put, List.setIfInBounds_toArray, List.set_cons_zero, List.set_cons_succ]
              refine wpAnyH_done (by kernel_rfl) ?_ _
              go_wp2
              go_ret
              exact ⟨by rw [HF.out]; rfl, HW1.out⟩
          · have HS := Lib.hid (fun W => isSet_any false (some ⟨bT, oT, none⟩) m cN (some ⟨bL, oL, none⟩) m cM X W hn (decide_eq_false hin))
            have HF := Lib.hid (isWk_no (T := T) (L := L) (n := m) (m := m) (by rintro ⟨_, _, _, h⟩; have := (h k hlt).1; rw [HX.out] at this; exact hin this))
            clear hin
            go_wp2
            refine wp_region_held_drew (S := (fun w' => w'.cell? ⟨w.heap.size, 0, none⟩ = some (.slice (some ⟨bT, oT, none⟩) m cN) ∧ w'.cell? ⟨w.heap.size, 1, none⟩ = some (.slice (some ⟨bL, oL, none⟩) m cM) ∧ w'.cell? ⟨bT, oT + k, none⟩ = some (.int .i64 X) ∧ w'.cell? ⟨bL, oL + k, none⟩ = some (.int .i64 Y))) (by kernel_rfl) ?_ (fun hHeld => ?_)
            · go_split_ands; exact HC.out.all
            refine wpAnyH_take (i := 0) (oi := ⟨some 25, _, _, _, _, _⟩) (v := wkV (some ⟨bT, oT, none⟩) m cN (some ⟨bL, oL, none⟩) m cM) rfl (by kernel_rfl) (by kernel_rfl) (by kernel_rfl) (fun _ _ _ h => h) (Or.inl ⟨by rfl, fun w2 hSw => ?_⟩) (by assumption) ?_
            · obtain ⟨s0, s1, s2, s3⟩ := hSw; go_simp
            try simp only [Act.put, List.setIfInBounds_toArray, List.set_cons_zero, List.set_cons_succ]
            refine wpAnyH_take (i := 1) (oi := ⟨some 26, _, _, _, _, _⟩) (v := .pointer (some ⟨w.heap.size, 0, none⟩)) rfl (by kernel_rfl) (by kernel_rfl) (by kernel_rfl) (fun _ _ _ h => h) (Or.inl ⟨by rfl, fun w2 hSw => ?_⟩) (by assumption) ?_
            · obtain ⟨s0, s1, s2, s3⟩ := hSw; go_simp
            try simp only [Act.put, List.setIfInBounds_toArray, List.set_cons_zero, List.set_cons_succ]
            refine wpAnyH_take (i := 2) (oi := ⟨some 27, _, _, _, _, _⟩) (v := .slice (some ⟨bT, oT, none⟩) m cN) rfl (by kernel_rfl) (by kernel_rfl) (by kernel_rfl) (fun _ _ _ h => h) (Or.inl ⟨by rfl, fun w2 hSw => ?_⟩) (by assumption) ?_
            · obtain ⟨s0, s1, s2, s3⟩ := hSw; go_simp
            try simp only [Act.put, List.setIfInBounds_toArray, List.set_cons_zero, List.set_cons_succ]
            refine wpAnyH_take (i := 3) (oi := ⟨some 28, _, _, _, _, _⟩) (v := .int .i64 (k : Nat)) rfl (by kernel_rfl) (by kernel_rfl) (by kernel_rfl) (fun _ _ _ h => h) (Or.inl ⟨by rfl, fun w2 hSw => ?_⟩) (by assumption) ?_
            · obtain ⟨s0, s1, s2, s3⟩ := hSw; go_simp
            try simp only [Act.put, List.setIfInBounds_toArray, List.set_cons_zero, List.set_cons_succ]
            refine wpAnyH_take (i := 4) (oi := ⟨some 29, _, _, _, _, _⟩) (v := .pointer (some ⟨bT, oT + k, none⟩)) rfl (by kernel_rfl) (by kernel_rfl) (by kernel_rfl) (fun _ _ _ h => h) (Or.inl ⟨by rfl, fun w2 hSw => ?_⟩) (by assumption) ?_
            · obtain ⟨s0, s1, s2, s3⟩ := hSw; go_simp
            try simp only [Act.put, List.setIfInBounds_toArray, List.set_cons_zero, List.set_cons_succ]
            refine wpAnyH_take (i := 5) (oi := ⟨some 30, _, _, _, _, _⟩) (v := .int .i64 X) rfl (by kernel_rfl) (by kernel_rfl) (by kernel_rfl) (fun _ _ _ h => h) (Or.inl ⟨by rfl, fun w2 hSw => ?_⟩) (by assumption) ?_
            · obtain ⟨s0, s1, s2, s3⟩ := hSw; go_simp
            try simp only [Act.put, List.setIfInBounds_toArray, List.set_cons_zero, List.set_cons_succ]
            refine wpAnyH_ready (rs := [6]) (by kernel_rfl) (by simp) ?_
            refine AllReadyH.cons (o := ⟨some 31, _, _, _, _, _⟩) rfl (fun K hK => ?_) AllReadyH.nil
            go_simp
            refine (HS.out _).mono ?_
            rintro e w1 ⟨rfl, hb1⟩
            have HC1 := Lib.hid (HC.out.keep (below_drew1 hb1))
            have HW1 := Lib.hid (HW.out.trans ((below_drew1 hb1).mono HW.out.size))
            clear hb1
            clear hHeld
            go_wp2_with fail
            refine hK.out _ _ ?_ (fun hHeld => ?_)
            · go_split_ands; exact HC1.out.all
            clear hK K
            try simp only [Act.put, List.setIfInBounds_toArray, List.set_cons_zero, List.set_cons_succ]
            refine wpAnyH_take (i := 7) (oi := ⟨some 32, _, _, _, _, _⟩) (v := .bool true) rfl (by kernel_rfl) (by kernel_rfl) (by kernel_rfl) (fun _ _ _ h => h) (Or.inl ⟨by rfl, fun w2 hSw => ?_⟩) (by assumption) ?_
            · obtain ⟨s0, s1, s2, s3⟩ := hSw; go_simp
            try simp only [Act.put, List.setIfInBounds_toArray, List.set_cons_zero, List.set_cons_succ]
            refine wpAnyH_take (i := 8) (oi := ⟨some 33, _, _, _, _, _⟩) (v := .bool true) rfl (by kernel_rfl) (by kernel_rfl) (by kernel_rfl) (fun _ _ _ h => h) (Or.inl ⟨by rfl, fun w2 hSw => ?_⟩) (by assumption) ?_
            · obtain ⟨s0, s1, s2, s3⟩ := hSw; go_simp
            try simp only [Act.put, List.setIfInBounds_toArray, List.set_cons_zero, List.set_cons_succ]
            refine wpAnyH_take (i := 9) (oi := ⟨some 34, _, _, _, _, _⟩) (v := undef) rfl (by kernel_rfl) (by kernel_rfl) (by kernel_rfl) (fun _ _ _ h => h) (Or.inr ⟨by rfl, rfl⟩) (by assumption) ?_
            try simp only [Act.put, List.setIfInBounds_toArray, List.set_cons_zero, List.set_cons_succ]
            refine wpAnyH_take (i := 10) (oi := ⟨some 35, _, _, _, _, _⟩) (v := undef) rfl (by kernel_rfl) (by kernel_rfl) (by kernel_rfl) (fun _ _ _ h => h) (Or.inr ⟨by rfl, rfl⟩) (by assumption) ?_
            try simp only [Act.put, List.setIfInBounds_toArray, List.set_cons_zero, List.set_cons_succ]
            refine wpAnyH_take (i := 11) (oi := ⟨some 36, _, _, _, _, _⟩) (v := undef) rfl (by kernel_rfl) (by kernel_rfl) (by kernel_rfl) (fun _ _ _ h => h) (Or.inr ⟨by rfl, rfl⟩) (by assumption) ?_
            try simp only [Act.put, List.setIfInBounds_toArray, List.set_cons_zero, List.set_cons_succ]
            refine wpAnyH_take (i := 12) (oi := ⟨some 37, _, _, _, _, _⟩) (v := undef) rfl (by kernel_rfl) (by kernel_rfl) (by kernel_rfl) (fun _ _ _ h => h) (Or.inr ⟨by rfl, rfl⟩) (by assumption) ?_
            try simp only [Act.put, List.setIfInBounds_toArray, List.set_cons_zero, List.set_cons_succ]
            refine wpAnyH_take (i := 13) (oi := ⟨some 38, _, _, _, _, _⟩) (v := undef) rfl (by kernel_rfl) (by kernel_rfl) (by kernel_rfl) (fun _ _ _ h => h) (Or.inr ⟨by rfl, rfl⟩) (by assumption) ?_
            try simp only [Act.put, List.setIfInBounds_toArray, List.set_cons_zero, List.set_cons_succ]
            refine wpAnyH_take (i := 14) (oi := ⟨some 39, _, _, _, _, _⟩) (v := undef) rfl (by kernel_rfl) (by kernel_rfl) (by kernel_rfl) (fun _ _ _ h => h) (Or.inr ⟨by rfl, rfl⟩) (by assumption) ?_
            try simp only [Act.put, List.setIfInBounds_toArray, List.set_cons_zero, List.set_cons_succ]
            refine wpAnyH_take (i := 15) (oi := ⟨some 40, _, _, _, _, _⟩) (v := .bool true) rfl (by kernel_rfl) (by kernel_rfl) (by kernel_rfl) (fun _ _ _ h => h) (Or.inl ⟨by rfl, fun w2 hSw => ?_⟩) (by assumption) ?_
            · obtain ⟨s0, s1, s2, s3⟩ := hSw; go_simp
            try simp only [Act.put, List.setIfInBounds_toArray, List.set_cons_zero, List.set_cons_succ]
            refine wpAnyH_take (i := 16) (oi := ⟨some 41, _, _, _, _, _⟩) (v := .bool true) rfl (by kernel_rfl) (by kernel_rfl) (by kernel_rfl) (fun _ _ _ h => h) (Or.inl ⟨by rfl, fun w2 hSw => ?_⟩) (by assumption) ?_
            · obtain ⟨s0, s1, s2, s3⟩ := hSw; go_simp
            try simp only [Act.put, List.setIfInBounds_toArray, List.set_cons_zero, List.set_cons_succ]
            refine wpAnyH_take (i := 17) (oi := ⟨some 42, _, _, _, _, _⟩) (v := undef) rfl (by kernel_rfl) (by kernel_rfl) (by kernel_rfl) (fun _ _ _ h => h) (Or.inr ⟨by rfl, rfl⟩) (by assumption) ?_
            try simp only [Act.put, List.setIfInBounds_toArray, List.set_cons_zero, List.set_cons_succ]
            refine wpAnyH_take (i := 18) (oi := ⟨some 43, _, _, _, _, _⟩) (v := undef) rfl (by kernel_rfl) (by kernel_rfl) (by kernel_rfl) (fun _ _ _ h => h) (Or.inr ⟨by rfl, rfl⟩) (by assumption) ?_
            try simp only [Act.put, List.setIfInBounds_toArray, List.set_cons_zero, List.set_cons_succ]
            refine wpAnyH_take (i := 19) (oi := ⟨some 44, _, _, _, _, _⟩) (v := undef) rfl (by kernel_rfl) (by kernel_rfl) (by kernel_rfl) (fun _ _ _ h => h) (Or.inr ⟨by rfl, rfl⟩) (by assumption) ?_
            try simp only [Act.put, List.setIfInBounds_toArray, List.set_cons_zero, List.set_cons_succ]
            refine wpAnyH_take (i := 20) (oi := ⟨some 45, _, _, _, _, _⟩) (v := undef) rfl (by kernel_rfl) (by kernel_rfl) (by kernel_rfl) (fun _ _ _ h => h) (Or.inr ⟨by rfl, rfl⟩) (by assumption) ?_
            try simp only [Act.put, List.setIfInBounds_toArray, List.set_cons_zero, List.set_cons_succ]
            refine wpAnyH_take (i := 21) (oi := ⟨some 46, _, _, _, _, _⟩) (v := undef) rfl (by kernel_rfl) (by kernel_rfl) (by kernel_rfl) (fun _ _ _ h => h) (Or.inr ⟨by rfl, rfl⟩) (by assumption) ?_
            try simp only [Act.put, List.setIfInBounds_toArray, List.set_cons_zero, List.set_cons_succ]
            refine wpAnyH_take (i := 22) (oi := ⟨some 47, _, _, _, _, _⟩) (v := undef) rfl (by kernel_rfl) (by kernel_rfl) (by kernel_rfl) (fun _ _ _ h => h) (Or.inr ⟨by rfl, rfl⟩) (by assumption) ?_
            try simp only [Act.put, List.setIfInBounds_toArray, List.set_cons_zero, List.set_cons_succ]
            refine wpAnyH_take (i := 23) (oi := ⟨some 48, _, _, _, _, _⟩) (v := .bool true) rfl (by kernel_rfl) (by kernel_rfl) (by kernel_rfl) (fun _ _ _ h => h) (Or.inl ⟨by rfl, fun w2 hSw => ?_⟩) (by assumption) ?_
            · obtain ⟨s0, s1, s2, s3⟩ := hSw; go_simp
            try simp only [Act.put, List.setIfInBounds_toArray, List.set_cons_zero, List.set_cons_succ]
            refine wpAnyH_done (by kernel_rfl) ?_ _
            go_wp2
            go_ret
            exact ⟨by rw [HF.out]; rfl, HW1.out⟩
        · obtain rfl : k = m := by omega
          have HG : Hid (isWk k k T L = true) := isWk_iff.2 ⟨h1, h6, rfl, hr.out⟩
          have HW : Hid (Below w.heap.size w wr) := hI.bel
          clear hI
          go_wp2
          go_ret
          exact ⟨by rw [HG.out]; rfl, HW.out⟩
    · have HF := Lib.hid (isWk_no (T := T) (L := L) (n := n) (m := m) (by rintro ⟨_, _, h, _⟩; exact hmn h))
      have hmn' : ((m : Int) != (n : Int)) = true := by simp; omega
      go_enter Try.func18, Try.ntmps18
      go_wp2
      go_ret
      exact ⟨by rw [HF.out]; rfl, HB1.out⟩
  · have HF := Lib.hid (isWk_no (T := T) (L := L) (n := n) (m := m) (by rintro ⟨h1, h2, _, _⟩; exact h0 ⟨h1, h2⟩))
    by_cases h1 : 1 ≤ n
    · have h6 : (6 : Int) < n := by omega
      go_enter Try.func18, Try.ntmps18
      go_wp2
      go_ret
      exact ⟨by rw [HF.out]; rfl, HB1.out⟩
    · have h6 : (n : Int) < 1 := by omega
      go_enter Try.func18, Try.ntmps18
      go_wp2
      go_ret
      exact ⟨by rw [HF.out]; rfl, HB1.out⟩
end Go.Proofs.Ytkbbijhknbcflab
