import Derived.Test.YtcedhcpjnoppmaaFi2
import Derived.Test.YtcedhcpjnoppmaaV1
import Derived.Test.YtcedhcpjnoppmaaT1
namespace Go.Proofs.Ytcedhcpjnoppmaa
open Go.RowKit

theorem heap_four4 (w : World) (o1 o2 o3 o4 : Obj) : ((((w.alloc o1).alloc o2).alloc o3).alloc o4).heap[w.heap.size + 1 + 1 + 1]? = some o4 := by
  have := heap_three3 (w.alloc o1) o2 o3 o4
  simpa using this
theorem below_four (w : World) (o1 o2 o3 o4 : Obj) : Below w.heap.size w ((((w.alloc o1).alloc o2).alloc o3).alloc o4) := (below_three w o1 o2 o3).alloc (by simp <;> omega) _

/-- Of two numbers that the call has laid down itself. -/
theorem between_two (r : Bool) (b : Nat) (T : TypeId) (x y lo hi : Int) (w : World) (hb : w.heap[b]? = some (.cells #[.int .i64 x, .int .i64 y] T)) (hr : decide ((lo ≤ x ∧ x ≤ hi) ∧ lo ≤ y ∧ y ≤ hi) = r) :
    Calls Try.prog 68 #[.int .i64 lo, .int .i64 hi, .slice (some ⟨b, 0, none⟩) 2 2] w fun e w' => e = .returned (.bool r) ∧ w = w' := by
  refine between_r r _ _ 2 (fun j => if j = 0 then x else y) lo hi w ?_ (by omega) ?_
  · rw [← hr]; unfold allIn
    apply decide_eq_decide.2
    exact ⟨fun h => ⟨h 0 (by omega), h 1 (by omega)⟩, fun h j hj => by
      by_cases e : j = 0
      · simp [e]; exact h.1
      · simp [e]; exact h.2⟩
  · intro j hj
    refine ⟨b, 0, rfl, ?_⟩
    by_cases e : j = 0
    · subst e; exact block_cell hb 0
    · have : j = 1 := by omega
      subst this; exact block_cell hb 1

/-- The result's cells. -/
structure ResAt (w wr : World) : Prop where
  res : wr.heap[w.heap.size]? = some (.cells #[.int .i64 0, .int .i64 0] 28)
  bel : Below w.heap.size w wr
theorem ResAt.keep {w wr wr' : World} (h : ResAt w wr) (hb : Below wr.heap.size wr wr') : ResAt w wr' := ⟨by rw [hb.block _ (Array.getElem?_eq_some_iff.1 h.res).1]; exact h.res, band h.bel hb⟩
theorem ResAt.start (w : World) : ResAt w (w.alloc (.cells #[.int .i64 0, .int .i64 0] 28)) := ⟨heap_alloc_new _ _, below_one _ _⟩
theorem ResAt.cells {w wr : World} (h : ResAt w wr) : wr.cell? ⟨w.heap.size, 0, none⟩ = some (.int .i64 0) ∧ wr.cell? ⟨w.heap.size, 1, none⟩ = some (.int .i64 0) ∧ wr.frozen? ⟨w.heap.size, 0, none⟩ = false ∧ wr.frozen? ⟨w.heap.size, 1, none⟩ = false ∧ w.heap.size < wr.heap.size :=
  ⟨block_cell h.res 0, block_cell h.res 1, block_free h.res 0, block_free h.res 1, (Array.getElem?_eq_some_iff.1 h.res).1⟩

set_option maxHeartbeats 4000000 in
set_option maxRecDepth 100000 in
theorem finite_yes (n b m c : Nat) (w : World) (h1 : 1 ≤ n) (h40 : n ≤ 40) (hb : b ≤ n) (hm : m ≤ n) (hc : c ≤ m) :
    Calls Try.prog 41 #[.int .i64 n, .int .i64 b, .int .i64 m, .int .i64 c] w fun e w' => e = .returned (.tuple #[frV (draws n b m (c + 1)) (ch n m), .int .i64 0]) ∧ Below w.heap.size w w' := by
  have hn40 : (n : Int) ≤ 40 := by omega
  have hb40 : (b : Int) ≤ n := by omega
  have hm40 : (m : Int) ≤ n := by omega
  have hc40 : (c : Int) ≤ m := by omega
  go_enter Try.func41, Try.ntmps41
  go_wp2_with fail
  refine (between_one true _ _ _ (n : Int) 1 40 _ (heap_two2 _ _ _) rfl (by simp; omega)).mono ?_
  rintro e w' ⟨rfl, rfl⟩
  go_wp2_with fail
  refine (between_two true _ _ (b : Int) (m : Int) 0 (n : Int) _ (heap_three3 _ _ _ _) (by simp; omega)).mono ?_
  rintro e w' ⟨rfl, rfl⟩
  go_wp2_with fail
  refine (between_one true _ _ _ (c : Int) 0 (m : Int) _ (heap_four4 _ _ _ _ _) rfl (by simp; omega)).mono ?_
  rintro e w' ⟨rfl, rfl⟩
  have HB0 := Lib.hid ((ResAt.start w).keep (below_three _ (.cells #[.int .i64 (n : Int)] 3) (.cells #[.int .i64 (b : Int), .int .i64 (m : Int)] 3) (.cells #[.int .i64 (c : Int)] 3)))
  go_wp2
  go_loop [10, 34] (fun s i => ∃ j : Nat, j ≤ c + 1 ∧ i = .int .i64 j ∧ s = .int .i64 (draws n b m j : Nat)) (fun _ i => c + 1 - (intOf i).toNat)
  case atStart => exact ⟨0, Nat.zero_le _, rfl, rfl⟩
  case round =>
    obtain ⟨j, hj, rfl, rfl⟩ := hrel
    by_cases hlt : j ≤ c
    · have t1 := term_le (m := m) (c := j) hb h40
      have t2 := draws_le (m := m) hb h40 j
      have t3 : ((ch b j : Nat) : Int) * ((ch (n - b) (m - j) : Nat) : Int) = ((ch b j * ch (n - b) (m - j) : Nat) : Int) := by simp
      have t4 : 0 ≤ ((ch b j : Nat) : Int) * ((ch (n - b) (m - j) : Nat) : Int) := by rw [t3]; omega
      have t5 : ((ch b j : Nat) : Int) * ((ch (n - b) (m - j) : Nat) : Int) ≤ 1099511627776 := by rw [t3]; omega
      have t6 : ((draws n b m j : Nat) : Int) ≤ 45079976738816 := by omega
      have e1 : (n : Int) - (b : Int) = ((n - b : Nat) : Int) := by omega
      have e2 : (m : Int) - (j : Int) = ((m - j : Nat) : Int) := by omega
      have T3 := Lib.hid t3
      have E1 := Lib.hid e1
      have E2 := Lib.hid e2
      have hd : Hid (draws n b m (j + 1) = draws n b m j + ch b j * ch (n - b) (m - j)) := rfl
      have hlt' : (j : Int) < (c : Int) + 1 := by omega
      clear t1 t2 t3 e1 e2
      go_wp2_with fail
      refine (choose_any b j _ (by omega) (by omega)).mono ?_
      rintro e w' ⟨rfl, rfl⟩
      go_wp2_with fail
      rw [E1.out, E2.out]
      refine (choose_any (n - b) (m - j) _ (by omega) (by omega)).mono ?_
      rintro e w' ⟨rfl, rfl⟩
      go_wp2
      go_round
      case rel => exact ⟨j + 1, by omega, by go_num, by rw [hd.out]; first | rfl | go_num⟩
      case measure => simp [intOf]; omega
    · obtain rfl : j = c + 1 := by omega
      have t2 := draws_le (m := m) hb h40 (c + 1)
      have t7 : draws n b m (c + 1) ≤ 45079976738816 := by omega
      have t8 := Nat.le_trans (ch_le n m) (pow40 h40)
      have t9 := ch_pos hm
      clear t2
      go_wp2_with fail
      refine (choose_any n m _ (by omega) (by omega)).mono ?_
      rintro e w' ⟨rfl, rfl⟩
      go_wp2_with fail
      refine (fraction_any (draws n b m (c + 1)) (ch n m) _ (by omega) (by omega) t9).mono ?_
      rintro e w4 ⟨rfl, hb4⟩
      have HB4 := Lib.hid (HB0.out.keep hb4)
      obtain ⟨q1, q2, q3, q4, q5⟩ := HB4.out.cells
      have HBel := Lib.hid HB4.out.bel
      clear hb4 HB0
      go_wp2
      exact bodyPost_ret (v := .tuple #[frV (draws n b m (c + 1)) (ch n m), .int .i64 0]) (by simp [results, Try.results41, go_sem, q1, q2]) rfl ⟨rfl, (HBel.out.setCell (by simp) _).setCell (by simp) _⟩

end Go.Proofs.Ytcedhcpjnoppmaa
