import Derived.Test.YtiegingpmcloeaaProg
import Derived.Test.YtiegingpmcloeaaMath1
import Derived.WalkSpells
import Derived.WalkLawsBesides
import Derived.BigQuiet
import Derived.Deep.QuietTactic
import Derived.Deep.RegionHeld3
namespace Go.Proofs.Ytiegingpmcloeaa
open Go.RowKit

set_option maxHeartbeats 400000 in
theorem between_any (a : Option Addr) (cap n : Nat) (z : Nat → Int) (lo hi : Int) (w : World) (hs : n ≤ 140737488351232) (hc : Ints w a n z) :
    Calls Try.prog 31 #[.int .i64 lo, .int .i64 hi, .slice a n cap] w fun e w' => e = .returned (.bool (allIn z n lo hi)) ∧ w = w' := by
  go_enter Try.func31, Try.ntmps31
  go_wp2
  go_loop [11] (fun i => ∃ k : Nat, k ≤ n ∧ i = .int .i64 k ∧ Hid (∀ j, j < k → lo ≤ z j ∧ z j ≤ hi)) (fun i => n - (intOf i).toNat)
  case atStart => exact ⟨0, Nat.zero_le _, rfl, fun j hj => absurd hj (Nat.not_lt_zero _)⟩
  case round =>
    obtain ⟨k, hk, rfl, hr⟩ := hrel
    by_cases hlt : k < n
    · obtain ⟨b, o, rfl, hck⟩ := hc k hlt
      clear hc
      by_cases h1 : z k < lo
      · have hf := Lib.hid (allIn_no (lo := lo) (hi := hi) k hlt (Or.inl h1))
        go_wp2
        go_ret
        exact ⟨by rw [hf.out]; rfl, rfl⟩
      · by_cases h2 : hi < z k
        · have hf := Lib.hid (allIn_no (lo := lo) (hi := hi) k hlt (Or.inr h2))
          go_wp2
          go_ret
          exact ⟨by rw [hf.out]; rfl, rfl⟩
        · have hn : Hid (∀ j, j < k + 1 → lo ≤ z j ∧ z j ≤ hi) := by
            intro j hj
            by_cases e : j = k
            · subst e; omega
            · exact hr.out j (by omega)
          go_wp2
          go_round
          case rel => exact ⟨k + 1, by omega, by go_num, hn⟩
          case measure => simp [intOf]; omega
    · have e : k = n := by omega
      subst e
      have hf := Lib.hid (allIn_yes hr.out)
      go_wp2
      go_ret
      exact ⟨by rw [hf.out]; rfl, rfl⟩

theorem between_r (r : Bool) (a : Option Addr) (cap n : Nat) (z : Nat → Int) (lo hi : Int) (w : World) (hr : allIn z n lo hi = r) (hs : n ≤ 140737488351232) (hc : Ints w a n z) :
    Calls Try.prog 31 #[.int .i64 lo, .int .i64 hi, .slice a n cap] w fun e w' => e = .returned (.bool r) ∧ w = w' := by
  subst hr; exact between_any a cap n z lo hi w hs hc

/-- Of one number that the call has laid down itself. -/
theorem between_one (r : Bool) (b : Nat) (cs : Array Value) (T : TypeId) (x lo hi : Int) (w : World) (hb : w.heap[b]? = some (.cells cs T)) (h0 : cs[0]? = some (.int .i64 x)) (hr : decide (lo ≤ x ∧ x ≤ hi) = r) :
    Calls Try.prog 31 #[.int .i64 lo, .int .i64 hi, .slice (some ⟨b, 0, none⟩) 1 1] w fun e w' => e = .returned (.bool r) ∧ w = w' := by
  refine between_r r _ _ 1 (fun _ => x) lo hi w ?_ (by omega) ?_
  · rw [← hr]; unfold allIn
    apply decide_eq_decide.2
    exact ⟨fun h => h 0 (by omega), fun h _ _ => h⟩
  · intro j hj
    have : j = 0 := by omega
    subst this
    exact ⟨b, 0, rfl, by simp [World.cell?, hb, h0]⟩
theorem between_two (r : Bool) (b : Nat) (cs : Array Value) (T : TypeId) (x y lo hi : Int) (w : World) (hb : w.heap[b]? = some (.cells cs T)) (h0 : cs[0]? = some (.int .i64 x)) (h1 : cs[1]? = some (.int .i64 y)) (hr : decide ((lo ≤ x ∧ x ≤ hi) ∧ lo ≤ y ∧ y ≤ hi) = r) :
    Calls Try.prog 31 #[.int .i64 lo, .int .i64 hi, .slice (some ⟨b, 0, none⟩) 2 2] w fun e w' => e = .returned (.bool r) ∧ w = w' := by
  refine between_r r _ _ 2 (fun k => if k = 0 then x else y) lo hi w ?_ (by omega) ?_
  · rw [← hr]; unfold allIn
    apply decide_eq_decide.2
    refine ⟨fun h => ⟨by simpa using h 0 (by omega), by simpa using h 1 (by omega)⟩, fun h j _ => ?_⟩
    by_cases e : j = 0
    · simp only [e, if_true]; exact h.1
    · simp only [e, if_false]; exact h.2
  · intro j hj
    have : j = 0 ∨ j = 1 := by omega
    rcases this with rfl | rfl
    · exact ⟨b, 0, rfl, by simp [World.cell?, hb, h0]⟩
    · exact ⟨b, 0, rfl, by simp [World.cell?, hb, h1]⟩

def usedQ (q : Q) : Q := if q.d = 1 then ⟨1, q.j, q.t, 0⟩ else if q.d = 2 then q else ⟨0, 0, 0, 0⟩
abbrev qV (q : Q) : Value := .agg #[.int .i64 q.d, .int .i64 q.j, .int .i64 q.t, .int .i64 q.e]

set_option maxRecDepth 100000 in
theorem used_any (d j t e : Int) (w : World) :
    Calls Try.prog 46 #[.agg #[.int .i64 d, .int .i64 j, .int .i64 t, .int .i64 e]] w fun r w' => r = .returned (.agg #[.int .i64 (usedQ ⟨d, j, t, e⟩).d, .int .i64 (usedQ ⟨d, j, t, e⟩).j, .int .i64 (usedQ ⟨d, j, t, e⟩).t, .int .i64 (usedQ ⟨d, j, t, e⟩).e]) ∧ Below w.heap.size w w' := by
  have HB : Hid (∀ o1 o2, Below w.heap.size w ((w.alloc o1).alloc o2)) := two_le w
  by_cases h1 : d = 1
  · subst h1
    have H : Hid (usedQ ⟨1, j, t, e⟩ = ⟨1, j, t, 0⟩) := by simp [Hid, usedQ]
    go_enter Try.func46, Try.ntmps46
    go_wp2
    exact bodyPost_ret (v := .agg #[.int .i64 1, .int .i64 j, .int .i64 t, .int .i64 0]) (by simp [results, Try.results46, go_sem]) rfl ⟨by rw [H.out], HB.out _ _⟩
  · by_cases h2 : d = 2
    · subst h2
      have H : Hid (usedQ ⟨2, j, t, e⟩ = ⟨2, j, t, e⟩) := by simp [Hid, usedQ]
      clear h1
      go_enter Try.func46, Try.ntmps46
      go_wp2
      exact bodyPost_ret (v := .agg #[.int .i64 2, .int .i64 j, .int .i64 t, .int .i64 e]) (by simp [results, Try.results46, go_sem]) rfl ⟨by rw [H.out], HB.out _ _⟩
    · have H : Hid (usedQ ⟨d, j, t, e⟩ = ⟨0, 0, 0, 0⟩) := by simp [Hid, usedQ, h1, h2]
      have G1 : (d == 1) = false := by simp [h1]
      have G2 : (d == 2) = false := by simp [h2]
      go_enter Try.func46, Try.ntmps46
      go_wp2
      exact bodyPost_ret (v := .agg #[.int .i64 0, .int .i64 0, .int .i64 0, .int .i64 0]) (by simp [results, Try.results46, go_sem]) rfl ⟨by rw [H.out], HB.out _ _⟩

theorem used_eq (q : Q) : ((q.d == (usedQ q).d) && ((q.j == (usedQ q).j) && ((q.t == (usedQ q).t) && (q.e == (usedQ q).e)))) = decide (okU q) := by
  obtain ⟨d, j, t, e⟩ := q
  unfold usedQ okU
  simp only
  by_cases h1 : d = 1
  · subst h1; simp; by_cases h : e = 0 <;> simp [h]
  · by_cases h2 : d = 2
    · subst h2; simp
    · simp only [h1, h2, if_false]
      by_cases h3 : d = 0 <;> by_cases h4 : j = 0 <;> by_cases h5 : t = 0 <;> by_cases h6 : e = 0 <;> simp [h3, h4, h5, h6]

/-- The cells of an order in a block. -/
def C4 (w : World) (b : Nat) (d j t e : Int) : Prop := w.cell? ⟨b, 0, none⟩ = some (.int .i64 d) ∧ w.cell? ⟨b, 1, none⟩ = some (.int .i64 j) ∧ w.cell? ⟨b, 2, none⟩ = some (.int .i64 t) ∧ w.cell? ⟨b, 3, none⟩ = some (.int .i64 e)
theorem C4.keep {w w' : World} {b : Nat} {d j t e : Int} (h : C4 w b d j t e) (hb : Below w.heap.size w w') : C4 w' b d j t e := by
  obtain ⟨h0, h1, h2, h3⟩ := h
  have hlt := World.block_lt_of_cell? _ _ h0
  exact ⟨by rw [hb.cell (p := ⟨b, 0, none⟩) hlt]; exact h0, by rw [hb.cell (p := ⟨b, 1, none⟩) hlt]; exact h1, by rw [hb.cell (p := ⟨b, 2, none⟩) hlt]; exact h2, by rw [hb.cell (p := ⟨b, 3, none⟩) hlt]; exact h3⟩
theorem below_drew1 {w w' : World} (h : Below w.drew.heap.size w.drew w') : Below w.heap.size w w' := ⟨h.os, h.tape, h.output, h.size, h.block⟩

end Go.Proofs.Ytiegingpmcloeaa
