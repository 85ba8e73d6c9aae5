import Derived.Test.YtcedhcpjnoppmaaProg
import Derived.Test.YtcedhcpjnoppmaaMem
import Derived.Test.YtcedhcpjnoppmaaMath3
import Derived.WalkSpells
import Derived.WalkLawsBesides
import Derived.BigQuiet
import Derived.Deep.QuietTactic
namespace Go.Proofs.Ytcedhcpjnoppmaa
open Go.RowKit

/-- The cells of a Chance, of a plan. -/
abbrev chV (Y O : Int) : Value := .agg #[.int .i64 Y, .int .i64 O]
abbrev plV (aT : Option Addr) (nT cT : Nat) (aL : Option Addr) (nL cL : Nat) : Value := .agg #[.slice aT nT cT, .slice aL nL cL]

set_option maxHeartbeats 400000 in
theorem between_any (a : Option Addr) (cap n : Nat) (z : Nat → Int) (lo hi : Int) (w : World) (hs : n ≤ 140737488351232) (hc : Ints w a n z) :
    Calls Try.prog 68 #[.int .i64 lo, .int .i64 hi, .slice a n cap] w fun e w' => e = .returned (.bool (allIn z n lo hi)) ∧ w = w' := by
  go_enter Try.func68, Try.ntmps68
  go_wp2
  go_loop [11] (fun i => ∃ k : Nat, k ≤ n ∧ i = .int .i64 k ∧ Hid (∀ j, j < k → lo ≤ z j ∧ z j ≤ hi)) (fun i => n - (intOf i).toNat)
  case atStart => exact ⟨0, Nat.zero_le _, rfl, fun j hj => absurd hj (Nat.not_lt_zero _)⟩
  case round =>
    obtain ⟨k, hk, rfl, hr⟩ := hrel
    by_cases hlt : k < n
    · obtain ⟨b, o, rfl, hck⟩ := hc k hlt
      clear hc
      by_cases h1 : z k < lo
      · have hf := Lib.hid (allIn_no (lo := lo) (hi := hi) k hlt (Or.inl h1))
        go_wp2
        go_ret
        exact ⟨by rw [hf.out]; rfl, rfl⟩
      · by_cases h2 : hi < z k
        · have hf := Lib.hid (allIn_no (lo := lo) (hi := hi) k hlt (Or.inr h2))
          go_wp2
          go_ret
          exact ⟨by rw [hf.out]; rfl, rfl⟩
        · have hn : Hid (∀ j, j < k + 1 → lo ≤ z j ∧ z j ≤ hi) := by
            intro j hj
            by_cases e : j = k
            · subst e; omega
            · exact hr.out j (by omega)
          go_wp2
          go_round
          case rel => exact ⟨k + 1, by omega, by go_num, hn⟩
          case measure => simp [intOf]; omega
    · have e : k = n := by omega
      subst e
      have hf := Lib.hid (allIn_yes hr.out)
      go_wp2
      go_ret
      exact ⟨by rw [hf.out]; rfl, rfl⟩

theorem between_r (r : Bool) (a : Option Addr) (cap n : Nat) (z : Nat → Int) (lo hi : Int) (w : World) (hr : allIn z n lo hi = r) (hs : n ≤ 140737488351232) (hc : Ints w a n z) :
    Calls Try.prog 68 #[.int .i64 lo, .int .i64 hi, .slice a n cap] w fun e w' => e = .returned (.bool r) ∧ w = w' := by
  subst hr; exact between_any a cap n z lo hi w hs hc

/-- Of one number that the call has laid down itself. -/
theorem between_one (r : Bool) (b : Nat) (cs : Array Value) (T : TypeId) (x lo hi : Int) (w : World) (hb : w.heap[b]? = some (.cells cs T)) (h0 : cs[0]? = some (.int .i64 x)) (hr : decide (lo ≤ x ∧ x ≤ hi) = r) :
    Calls Try.prog 68 #[.int .i64 lo, .int .i64 hi, .slice (some ⟨b, 0, none⟩) 1 1] w fun e w' => e = .returned (.bool r) ∧ w = w' := by
  refine between_r r _ _ 1 (fun _ => x) lo hi w ?_ (by omega) ?_
  · rw [← hr]; unfold allIn
    apply decide_eq_decide.2
    exact ⟨fun h => h 0 (by omega), fun h _ _ => h⟩
  · intro j hj
    have : j = 0 := by omega
    subst this
    exact ⟨b, 0, rfl, by simp [World.cell?, hb, h0]⟩

set_option maxHeartbeats 400000 in
theorem ris_any (Y O : Int) (w : World) :
    Calls Try.prog 24 #[chV Y O] w fun e w' => e = .returned (.bool (isCh Y O)) ∧ Below w.heap.size w w' := by
  by_cases h1 : O < 1
  · have hf := Lib.hid (isCh_no (Y := Y) (O := O) (fun h => by omega))
    go_enter Try.func24, Try.ntmps24
    go_wp2
    go_ret
    exact ⟨by rw [hf.out]; rfl, (Below.refl _ _).alloc (Nat.le_refl _) _⟩
  by_cases h2 : 12 < O
  · have hf := Lib.hid (isCh_no (Y := Y) (O := O) (fun h => by omega))
    go_enter Try.func24, Try.ntmps24
    go_wp2
    go_ret
    exact ⟨by rw [hf.out]; rfl, (Below.refl _ _).alloc (Nat.le_refl _) _⟩
  by_cases h3 : Y < 0
  · have hf := Lib.hid (isCh_no (Y := Y) (O := O) (fun h => by omega))
    go_enter Try.func24, Try.ntmps24
    go_wp2
    go_ret
    exact ⟨by rw [hf.out]; rfl, (Below.refl _ _).alloc (Nat.le_refl _) _⟩
  by_cases h4 : O < Y
  · have G : decide (Y ≤ O) = false := by simp; omega
    have hf := Lib.hid (isCh_no (Y := Y) (O := O) (fun h => by omega))
    go_enter Try.func24, Try.ntmps24
    go_wp2
    go_ret
    exact ⟨by rw [hf.out]; rfl, (Below.refl _ _).alloc (Nat.le_refl _) _⟩
  have hf := Lib.hid (isCh_iff (Y := Y) (O := O).2 ⟨by omega, by omega, by omega, by omega⟩)
  go_enter Try.func24, Try.ntmps24
  go_wp2
  go_ret
  exact ⟨by rw [hf.out]; rfl, (Below.refl _ _).alloc (Nat.le_refl _) _⟩

set_option maxHeartbeats 400000 in
theorem after_any (aT : Option Addr) (nT cT : Nat) (aL : Option Addr) (nL cL : Nat) (T L : Nat → Int) (i : Nat) (b : Int) (w : World)
    (hT : Ints w aT nT T) (hL : Ints w aL nL L) (hi : i < nT) (hi2 : i < nL) (hi3 : nT ≤ 12) :
    Calls Try.prog 78 #[plV aT nT cT aL nL cL, .int .i64 ((i : Int) + 1), .int .i64 b] w fun e w' => e = .returned (.int .i64 (av T L i b)) ∧ Below w.heap.size w w' := by
  have hT' := hT.keep (Nat.le_refl _) ((Below.refl w.heap.size w).alloc (Nat.le_refl _) (.cells #[.slice aT nT cT, .slice aL nL cL] 32))
  have hL' := hL.keep (Nat.le_refl _) ((Below.refl w.heap.size w).alloc (Nat.le_refl _) (.cells #[.slice aT nT cT, .slice aL nL cL] 32))
  obtain ⟨bT, oT, rfl, hcT⟩ := hT' i hi
  obtain ⟨bL, oL, rfl, hcL⟩ := hL' i hi2
  clear hT hL hT' hL'
  have e1 : ((i : Int) + 1 - 1) = i := by omega
  by_cases c1 : b ≤ T i
  · have hf : Hid (av T L i b = 1) := by unfold Hid av; rw [if_pos c1]
    go_enter Try.func78, Try.ntmps78
    go_wp2
    go_ret
    exact ⟨by rw [hf.out]; rfl, (Below.refl _ _).alloc (Nat.le_refl _) _⟩
  · by_cases c2 : L i ≤ b
    · have hf : Hid (av T L i b = 2) := by unfold Hid av; rw [if_neg c1, if_pos c2]
      go_enter Try.func78, Try.ntmps78
      go_wp2
      go_ret
      exact ⟨by rw [hf.out]; rfl, (Below.refl _ _).alloc (Nat.le_refl _) _⟩
    · have hf : Hid (av T L i b = 0) := by unfold Hid av; rw [if_neg c1, if_neg c2]
      go_enter Try.func78, Try.ntmps78
      go_wp2
      go_ret
      exact ⟨by rw [hf.out]; rfl, (Below.refl _ _).alloc (Nat.le_refl _) _⟩

end Go.Proofs.Ytcedhcpjnoppmaa
