import Derived.Test.YtcedhcpjnoppmaaB2
namespace Go.Proofs.Ytcedhcpjnoppmaa
open Go.RowKit

/-- A slice of Chances that the call has laid down. -/
def ChsAt (w : World) (b n : Nat) (Y O : Nat → Int) : Prop := ∀ j, j < n → w.cell? ⟨b, j * 2, none⟩ = some (.int .i64 (Y j)) ∧ w.cell? ⟨b, j * 2 + 1, none⟩ = some (.int .i64 (O j))
theorem ChsAt.keep {w w' : World} {b n : Nat} {Y O : Nat → Int} (h : ChsAt w b n Y O) (hb : b < w.heap.size) (hB : Below w.heap.size w w') : ChsAt w' b n Y O := by
  intro j hj
  obtain ⟨h1, h2⟩ := h j hj
  exact ⟨by rw [hB.cell (p := ⟨b, j * 2, none⟩) hb]; exact h1, by rw [hB.cell (p := ⟨b, j * 2 + 1, none⟩) hb]; exact h2⟩

def allCh (n : Nat) (Y O : Nat → Int) : Bool := decide (∀ j, j < n → isCh (Y j) (O j) = true)
theorem allCh_iff {n : Nat} {Y O : Nat → Int} : allCh n Y O = true ↔ ∀ j, j < n → isCh (Y j) (O j) = true := by simp [allCh]
theorem allCh_no {n : Nat} {Y O : Nat → Int} (j : Nat) (hj : j < n) (h : isCh (Y j) (O j) = false) : allCh n Y O = false := by
  simp only [allCh, decide_eq_false_iff_not]; intro hh; rw [hh j hj] at h; cases h

theorem heap_three3 (w : World) (o1 o2 o3 : Obj) : (((w.alloc o1).alloc o2).alloc o3).heap[w.heap.size + 1 + 1]? = some o3 := by
  have := heap_two2 (w.alloc o1) o2 o3
  simpa using this
theorem below_one (w : World) (o1 : Obj) : Below w.heap.size w (w.alloc o1) := (Below.refl _ _).alloc (Nat.le_refl _) _
theorem below_three (w : World) (o1 o2 o3 : Obj) : Below w.heap.size w (((w.alloc o1).alloc o2).alloc o3) := (below_two w o1 o2).alloc (by simp <;> omega) _
theorem band {a b c : World} (h : Below a.heap.size a b) (k : Below b.heap.size b c) : Below a.heap.size a c := h.trans (k.mono h.size)

def SomeB (r : Bool) (w : World) (e : Ending) (w' : World) : Prop := e = .returned (.bool r) ∧ Below w.heap.size w w'

set_option maxHeartbeats 4000000 in
set_option maxRecDepth 100000 in
theorem cvalid_any (b n : Nat) (Y O : Nat → Int) (w : World) (hn : n ≤ 10) (hb : b < w.heap.size) (hC : ChsAt w b n Y O) :
    Calls Try.prog 54 #[.slice (some ⟨b, 0, none⟩) n n] w fun e w' => SomeB (allCh n Y O) w e w' := by
  have HC := Lib.hid hC
  clear hC
  go_enter Try.func54, Try.ntmps54
  go_wp2
  go_loopw [7] (fun i wr => ∃ k : Nat, k ≤ n ∧ i = .int .i64 k ∧ Below w.heap.size w wr ∧ Hid (∀ j, j < k → isCh (Y j) (O j) = true)) (fun i _ => n - (intOf i).toNat)
  case atStart => exact ⟨0, Nat.zero_le _, rfl, Below.refl _ _, fun j hj => absurd hj (Nat.not_lt_zero _)⟩
  case round =>
    obtain ⟨k, hk, rfl, hB, hr⟩ := hrel
    have HB := Lib.hid hB
    have hsz := hB.size
    clear hB
    by_cases hlt : k < n
    · obtain ⟨c1, c2⟩ := (HC.out.keep hb HB.out) k hlt
      by_cases h1 : 1 ≤ O k ∧ O k ≤ 12
      · by_cases h2 : 0 ≤ Y k ∧ Y k ≤ O k
        · have hn : Hid (∀ j, j < k + 1 → isCh (Y j) (O j) = true) := by
            intro j hj
            by_cases e : j = k
            · subst e; exact isCh_iff.2 ⟨h1.1, h1.2, h2.1, h2.2⟩
            · exact hr.out j (by omega)
          go_wp2_with fail
          refine (between_one true _ _ _ (O k) 1 12 _ (heap_two2 _ _ _) rfl (by simp; omega)).mono ?_
          rintro e w' ⟨rfl, rfl⟩
          go_wp2_with fail
          refine (between_one true _ _ _ (Y k) 0 (O k) _ (heap_three3 _ _ _ _) rfl (by simp; omega)).mono ?_
          rintro e w' ⟨rfl, rfl⟩
          go_wp2
          go_roundw
          case rel => exact ⟨k + 1, by omega, by go_num, band HB.out (below_three _ _ _ _), hn⟩
          case measure => simp [intOf]; omega
        · have hf : Hid (allCh n Y O = false) := allCh_no k hlt (isCh_no fun h => h2 ⟨h.2.2.1, h.2.2.2⟩)
          go_wp2_with fail
          refine (between_one true _ _ _ (O k) 1 12 _ (heap_two2 _ _ _) rfl (by simp; omega)).mono ?_
          rintro e w' ⟨rfl, rfl⟩
          go_wp2_with fail
          refine (between_one false _ _ _ (Y k) 0 (O k) _ (heap_three3 _ _ _ _) rfl (by simp; omega)).mono ?_
          rintro e w' ⟨rfl, rfl⟩
          go_wp2
          go_ret
          exact ⟨by rw [hf.out]; rfl, band HB.out (below_three _ _ _ _)⟩
      · have hf : Hid (allCh n Y O = false) := allCh_no k hlt (isCh_no fun h => h1 ⟨h.1, h.2.1⟩)
        go_wp2_with fail
        refine (between_one false _ _ _ (O k) 1 12 _ (heap_two2 _ _ _) rfl (by simp; omega)).mono ?_
        rintro e w' ⟨rfl, rfl⟩
        go_wp2
        go_ret
        exact ⟨by rw [hf.out]; rfl, band HB.out (below_two _ _ _)⟩
    · obtain rfl : n = k := by omega
      have hf : Hid (allCh n Y O = true) := allCh_iff.2 hr.out
      go_wp2
      go_ret
      exact ⟨by rw [hf.out]; rfl, HB.out⟩

/-- Of one, of three, of four Chances. -/
theorem cvalid_one (r : Bool) (w : World) (b : Nat) (T : TypeId) (Y O : Int) (h : w.heap[b]? = some (.cells #[.int .i64 Y, .int .i64 O] T)) (hr : isCh Y O = r) :
    Calls Try.prog 54 #[.slice (some ⟨b, 0, none⟩) 1 1] w fun e w' => SomeB r w e w' := by
  have e : allCh 1 (fun _ => Y) (fun _ => O) = r := by
    rw [← hr]; unfold allCh
    cases e : isCh Y O
    · exact decide_eq_false fun hh => by rw [hh 0 (by omega)] at e; cases e
    · exact decide_eq_true fun _ _ => e
  have hb : b < w.heap.size := (Array.getElem?_eq_some_iff.1 h).1
  refine (cvalid_any b 1 (fun _ => Y) (fun _ => O) w (by omega) hb fun j hj => ?_).mono fun _ _ hh => by rw [← e]; exact hh
  have : j = 0 := by omega
  subst this
  exact ⟨block_cell h 0, block_cell h 1⟩

end Go.Proofs.Ytcedhcpjnoppmaa
