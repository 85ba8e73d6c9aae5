import Derived.Test.YtmbccdjoliegiaaR1
import Derived.Test.YtmbccdjoliegiaaC4
import Derived.BigRegion
namespace Go.Proofs.Ytmbccdjoliegiaa
open Go.RowKit

/-- A row of numbers that was made. -/
def SumAt (w : World) (B n : Nat) (s : Nat → Int) : Prop := ∃ cs, w.heap[B]? = some (.cells cs 3) ∧ cs.size = n ∧ ∀ j, j < n → cs[j]? = some (.int .i64 (s j))
theorem SumAt.keep {w w' : World} {B n : Nat} {s : Nat → Int} (h : SumAt w B n s) {b : Nat} (hB : B < b) (hb : Below b w w') : SumAt w' B n s := by
  obtain ⟨cs, h1, h2⟩ := h
  exact ⟨cs, (hb.block _ hB).trans h1, h2⟩
theorem SumAt.lt {w : World} {B n : Nat} {s : Nat → Int} (h : SumAt w B n s) : B < w.heap.size := by
  obtain ⟨cs, h1, _⟩ := h
  exact (Array.getElem?_eq_some_iff.1 h1).1
theorem SumAt.congr {w : World} {B n : Nat} {s t : Nat → Int} (h : SumAt w B n s) (e : ∀ j, j < n → s j = t j) : SumAt w B n t := by
  obtain ⟨cs, h1, h2, h3⟩ := h
  exact ⟨cs, h1, h2, fun j hj => by rw [h3 j hj, e j hj]⟩
theorem SumAt.cell {w : World} {B n j : Nat} {s : Nat → Int} (h : SumAt w B n s) (hj : j < n) : w.cell? ⟨B, j, none⟩ = some (.int .i64 (s j)) ∧ w.frozen? ⟨B, j, none⟩ = false := by
  obtain ⟨cs, h1, h2, h3⟩ := h
  exact ⟨by rw [block_cell h1]; exact h3 j hj, block_free h1 _⟩
theorem SumAt.set {w : World} {B n j : Nat} {s : Nat → Int} {v : Int} (h : SumAt w B n s) (hj : j < n) : SumAt (w.setCell ⟨B, j, none⟩ (.int .i64 v)) B n (fun i => if i = j then v else s i) := by
  obtain ⟨cs, h1, h2, h3⟩ := h
  refine ⟨cs.setIfInBounds j (.int .i64 v), heap_setCell_same _ _ j _ _ _ h1, by simpa using h2, fun i hi => ?_⟩
  by_cases e : i = j
  · subst e; simp [h2, hj]
  · simp only [e, if_false]
    rw [Array.getElem?_setIfInBounds, if_neg (fun h => e h.symm)]
    exact h3 i hi
theorem SumAt.setOther {w : World} {B n : Nat} {s : Nat → Int} (h : SumAt w B n s) {a : Addr} (ha : B ≠ a.block) (v : Value) : SumAt (w.setCell a v) B n s := by
  obtain ⟨cs, h1, h2⟩ := h
  exact ⟨cs, by rw [Below.heap_setCell _ _ _ _ ha]; exact h1, h2⟩
theorem SumAt.drew {w : World} {B n : Nat} {s : Nat → Int} (h : SumAt w B n s) : SumAt w.drew B n s := h
theorem SumAt.drewN {w : World} {B n : Nat} {s : Nat → Int} (h : SumAt w B n s) (q : Nat) : SumAt (w.drewN q) B n s := h
theorem made_sum (w : World) (n : Nat) : SumAt (w.alloc (.cells (madeCells #[.int .i64 0] n) 3)) w.heap.size n (fun _ => 0) := by
  refine ⟨_, heap_alloc_new w _, size_madeCells _ _, fun j hj => ?_⟩
  rw [Array.getElem?_eq_getElem (by rw [size_madeCells]; exact hj)]
  simp [madeCells, hj, Nat.mod_one]

theorem make_int (n : Nat) (hn : n ≤ 20) (W : World) : (Instr.makeSlice 22 (.int .i64 (n : Int)) (.int .i64 (n : Int))).run Try.prog W = .ok (.slice (some ⟨W.heap.size, 0, none⟩) n n) (W.alloc (.cells (madeCells #[.int .i64 0] n) 3)) := by
  obtain ⟨i0, hi, hz0, hz1, hz2⟩ := info_parts Try.info3
  have := run_make (P := Try.prog) W 22 3 i0 (.int .i64 0) Try.underlying22 hi hz0 .i64 .i64 (n : Int) (n : Int) (by omega) (Int.le_refl _) (by rw [hz2]; omega) (by omega)
  rw [hz1] at this
  simp only [Int.toNat_natCast, Nat.mul_one] at this
  exact this

/-- Where the leaves are. -/
def placesOf (n : Nat) (z : Nat → Int) (k : Nat) (x : Nat) : Int := if 0 ≤ ix k z x then ix k z x else 0

theorem ix_snoc_new {k : Nat} {z : Nat → Int} (h : ∀ i, i < k → z i ≠ z k) (x : Int) : ix (k + 1) z x = if x = z k then (k : Int) else ix k z x := by
  by_cases e : x = z k
  · rw [if_pos e]; exact ix_at k (by omega) e.symm (fun j hj => by rw [e]; exact h j hj)
  · rw [if_neg e]
    rcases ix_cases k z x with ⟨j, h1, h2, h3, h4⟩ | ⟨h1, h4⟩
    · rw [h4]; exact ix_at j (by omega) h2 h3
    · rw [h4]; exact ix_no (fun j hj => by
        by_cases ej : j = k
        · subst ej; exact fun h => e h.symm
        · exact h1 j (by omega))

set_option maxHeartbeats 2000000 in
set_option maxRecDepth 100000 in
theorem places_any (a : Option Addr) (cap n : Nat) (z : Nat → Int) (w : World) (hn : n ≤ 20) (hg : goodP n z n) (hc : Ints w a n z) :
    Calls Try.prog 62 #[.slice a n cap] w fun e w' => ∃ b, e = .returned (.slice (some ⟨b, 0, none⟩) n n) ∧ w.heap.size ≤ b ∧ SumAt w' b n (fun x => ix n z x) ∧ Below w.heap.size w w' := by
  have hmk : ∀ W : World, (Instr.makeSlice 22 (.int .i64 (n : Int)) (.int .i64 (n : Int))).run Try.prog W = .ok (.slice (some ⟨W.heap.size, 0, none⟩) n n) (W.alloc (.cells (madeCells #[.int .i64 0] n) 3)) := fun W => make_int n hn W
  have HM := Lib.hid (made_sum w n)
  generalize madeCells #[.int .i64 0] n = cs0 at hmk HM
  have HG := Lib.hid hg
  have HC := Lib.hid hc
  clear hg hc
  go_enter Try.func62, Try.ntmps62
  go_wp2
  go_loopw [11] (fun i wr => ∃ k : Nat, k ≤ n ∧ i = .int .i64 k ∧ SumAt wr w.heap.size n (placesOf n z k) ∧ Below w.heap.size w wr) (fun i _ => n - (intOf i).toNat)
  case atStart => exact ⟨0, Nat.zero_le _, rfl, HM.out.congr (fun j hj => by simp [placesOf, ix]), (Below.refl _ _).alloc (Nat.le_refl _) _⟩
  case round =>
    obtain ⟨k, hk, rfl, hS, hb⟩ := hrel
    by_cases hlt : k < n
    · have hI := HC.out.keep (Nat.le_refl _) hb
      obtain ⟨b, o, rfl, hck⟩ := hI k hlt
      have hgk := HG.out k hlt
      obtain ⟨y, hy⟩ : ∃ y : Nat, z k = y := ⟨(z k).toNat, by omega⟩
      have hyn : y < n := by omega
      have hyn' : (y : Int) < n := by omega
      rw [hy] at hck
      obtain ⟨c1, c2⟩ := hS.cell hyn
      have hS2 : Hid (SumAt (wr.setCell ⟨w.heap.size, y, none⟩ (.int .i64 k)) w.heap.size n (placesOf n z (k + 1))) := by
        refine (hS.set hyn).congr fun j hj => ?_
        unfold placesOf
        rw [ix_snoc_new (fun i hi => hgk.2.2.2 i hi), hy]
        by_cases e : j = y
        · subst e; simp
        · rw [if_neg e, if_neg (show ¬ ((j : Int) = (y : Int)) by omega)]
      have hB2 : Hid (Below w.heap.size w (wr.setCell ⟨w.heap.size, y, none⟩ (.int .i64 k))) := hb.setCell (Nat.le_refl _) _
      clear hy hgk hI hS hb
      go_wp2
      go_roundw
      case rel => exact ⟨k + 1, by omega, by go_num, hS2.out, hB2.out⟩
      case measure => simp [intOf]; omega
    · have e : k = n := by omega
      subst e
      have HS : Hid (SumAt wr w.heap.size k (fun x => ix k z x)) := hS.congr fun j hj => by
        obtain ⟨i, hi, he⟩ := good_all HG.out j hj
        have : has k z j = true := has_iff.2 ⟨i, hi, he⟩
        rw [← has_ix, decide_eq_true_eq] at this
        unfold placesOf
        rw [if_pos this]
      have HB := Lib.hid hb
      clear hS hb
      go_wp2
      go_ret
      exact ⟨_, rfl, Nat.le_refl _, HS.out, HB.out⟩

end Go.Proofs.Ytmbccdjoliegiaa
