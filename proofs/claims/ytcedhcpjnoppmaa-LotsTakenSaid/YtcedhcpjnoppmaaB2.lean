import Derived.Test.YtcedhcpjnoppmaaB1
import Derived.Test.YtcedhcpjnoppmaaMath2
import Derived.Maps.RangeWalk
import Derived.Maps.OwnSet
import Derived.Maps.OwnOps
import Derived.IntWalk
namespace Go.Proofs.Ytcedhcpjnoppmaa
open Go.RowKit Go.Maps

/-- The quotient in lowest terms, as Go's Frac. -/
abbrev frV (a b : Nat) : Value := .agg #[.int .i64 ((a / Nat.gcd a b : Nat) : Int), .int .i64 ((b / Nat.gcd a b : Nat) : Int)]

theorem gcd_step (x y : Nat) : Nat.gcd y (x % y) = Nat.gcd x y := by
  rw [Nat.gcd_comm x y, Nat.gcd_rec y x, Nat.gcd_comm]

theorem below_two (w : World) (o1 o2 : Obj) : Below w.heap.size w ((w.alloc o1).alloc o2) := ((Below.refl _ _).alloc (Nat.le_refl _) _).alloc (by simp) _

theorem below_drewN {B : Nat} {w w' : World} (h : Below B w w') : ∀ q, Below B w (w'.drewN q)
  | 0 => h
  | q + 1 => by
    have : w'.drewN (q + 1) = (w'.drewN q).drew := rfl
    rw [this]; exact (below_drewN h q).drew

set_option maxHeartbeats 400000 in
theorem divisor_any (a b : Nat) (w : World) (ha : a ≤ 4611686018427387904) (hb : b ≤ 4611686018427387904) :
    Calls Try.prog 79 #[.int .i64 a, .int .i64 b] w fun e w' => e = .returned (.int .i64 (Nat.gcd a b : Nat)) ∧ ∃ q, w' = w.drewN q := by
  go_enter Try.func79, Try.ntmps79
  go_wp2
  go_loopw [0, 1] (fun x y wr => ∃ p q : Nat, p ≤ 4611686018427387904 ∧ q ≤ 4611686018427387904 ∧ x = .int .i64 p ∧ y = .int .i64 q ∧ Hid (Nat.gcd p q = Nat.gcd a b) ∧ ∃ n, wr = w.drewN n) (fun _ y _ => (intOf y).toNat)
  case atStart => exact ⟨a, b, ha, hb, rfl, rfl, rfl, 0, rfl⟩
  case round =>
    obtain ⟨p, q, hp, hq, rfl, rfl, hg, n, rfl⟩ := hrel
    by_cases h0 : q = 0
    · subst h0
      have hg0 : Hid (p = Nat.gcd a b) := by have := hg.out; rw [Nat.gcd_zero_right] at this; exact this
      have G : (((0 : Nat) : Int) != 0) = false := rfl
      go_wp2
      go_ret
      exact ⟨by rw [← hg0.out]; rfl, _, rfl⟩
    · have G : ((q : Int) != 0) = true := by simp; omega
      have G2 : ((q : Int) == 0) = false := by simp; omega
      have hlt := Nat.mod_lt p (Nat.pos_of_ne_zero h0)
      have ht : ((p : Int).tmod (q : Int)) = ((p % q : Nat) : Int) := by rw [Int.tmod_eq_emod_of_nonneg (by omega)]; omega
      have hs : Hid (Nat.gcd q (p % q) = Nat.gcd a b) := (gcd_step p q).trans hg.out
      have HT := Lib.hid ht
      have HL := Lib.hid hlt
      clear ht hlt
      go_wp2
      go_quiet (fail)
      go_wp2
      go_roundw
      case rel => exact ⟨q, p % q, hq, by have := HL.out; omega, rfl, by first | rfl | (rw [HT.out]) | go_num, hs, _, World.drewN_drewN _ _ _⟩
      case measure => simp [intOf]; have := HL.out; omega

theorem wrap_nat (k : Nat) (h : k ≤ 4611686018427387904) : wrap64 (k : Int) = (k : Int) := IntWalk.wrap64_in _ ⟨by omega, by omega⟩
theorem wrap_div (a g : Nat) (h : a ≤ 4611686018427387904) : wrap64 ((a : Int) / (g : Int)) = ((a / g : Nat) : Int) := by
  rw [← Int.natCast_ediv]
  exact wrap_nat _ (Nat.le_trans (Nat.div_le_self a g) h)

set_option maxHeartbeats 1000000 in
theorem fraction_any (a b : Nat) (w : World) (ha : a ≤ 4611686018427387904) (hb : b ≤ 4611686018427387904) (h1 : 1 ≤ b) :
    Calls Try.prog 56 #[.int .i64 a, .int .i64 b] w fun e w' => e = .returned (frV a b) ∧ Below w.heap.size w w' := by
  have hg := Nat.gcd_pos_of_pos_right a (show 0 < b by omega)
  have hle : Nat.gcd a b ≤ b := Nat.gcd_le_right a (by omega)
  obtain ⟨g, hgd⟩ : ∃ g, g = Nat.gcd a b := ⟨_, rfl⟩
  have HG := Lib.hid hgd
  rw [← hgd] at hg hle
  clear hgd
  have G : ¬ g = 0 := by omega
  have e1 : (a : Int).tdiv (g : Int) = ((a / g : Nat) : Int) := by rw [Int.tdiv_eq_ediv_of_nonneg (by omega)]; omega
  have e2 : (b : Int).tdiv (g : Int) = ((b / g : Nat) : Int) := by rw [Int.tdiv_eq_ediv_of_nonneg (by omega)]; omega
  have r1 := wrap_div a g ha
  have r2 := wrap_div b g hb
  have R1 := Lib.hid r1
  have R2 := Lib.hid r2
  clear r1 r2
  go_enter Try.func56, Try.ntmps56
  go_wp2_with (go_at_call 79; refine (divisor_any a b _ ha hb).mono ?_; rintro e w' ⟨rfl, q, rfl⟩; rw [← HG.out])
  go_region
  all_goals
    go_wp2
    have r1 := R1.out
    have r2 := R2.out
    exact bodyPost_ret (v := .agg #[.int .i64 ((a / g : Nat) : Int), .int .i64 ((b / g : Nat) : Int)]) (by simp [results, Try.results56, go_sem, r1, r2]) rfl ⟨by rw [HG.out], ((below_drewN ((Below.refl _ _).alloc (Nat.le_refl _) _) _).setCell (Nat.le_refl _) _).setCell (Nat.le_refl _) _⟩

end Go.Proofs.Ytcedhcpjnoppmaa
