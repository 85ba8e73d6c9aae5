import Derived.Test.YtkbbijhknbcflabA5
import Derived.Shelf.Abstract
/-
  The program's settle: a change that a function value works out, again and again.
-/
namespace Go.Proofs.Ytkbbijhknbcflab
open Go.RowKit Go.Shelf

set_option maxHeartbeats 4000000 in
set_option maxRecDepth 100000 in
theorem settle_any (F : Nat → Nat) (n s k : Nat) (gf : Nat) (lb : Array Value) (J : Nat → World → Prop) (w : World) (hn : n ≤ 6) (hF : ∀ X, X < 2 ^ n → F X < 2 ^ n) (hs : s < 2 ^ n) (hk : First F s k) (hkn : k ≤ n)
    (eg : ∀ args w, (callFunc gf args).run Try.prog w = .ok (.enter gf args) w)
    (hcall : ∀ X, X < 2 ^ n → ∀ i W, J i W → Calls Try.prog gf (#[.int .i64 (X : Int)] ++ lb) W fun e W' => e = .returned (.int .i64 (F X : Nat)) ∧ J (i + 1) W')
    (h0 : J 0 w) :
    Calls Try.prog 33 #[.int .i64 (s : Int), .func (.func gf) #[] lb] w fun e w' => e = .returned (.tuple #[.int .i64 (iter F s k : Nat), .int .i64 ((k : Int) + 1)]) ∧ J (k + 1) w' := by
  have HC := Lib.hid hcall
  have HFst := Lib.hid hk
  have hk6 : k ≤ 6 := by omega
  have HIt : Hid (∀ i, iter F s i < 2 ^ n) := iter_lt hF hs
  clear hcall hk hF hs hkn
  go_enter Try.func33, Try.ntmps33
  go_wp2
  go_loopw [0, 5] (fun st tm wr => ∃ i : Nat, i ≤ k ∧ st = .int .i64 ((iter F s i : Nat) : Int) ∧ tm = .int .i64 ((i : Int) + 1) ∧ J i wr) (fun _ tm _ => 7 - (intOf tm).toNat)
  case atStart => exact ⟨0, Nat.zero_le _, rfl, rfl, h0⟩
  case round =>
    obtain ⟨i, hi, rfl, rfl, hj⟩ := hrel
    have H := Lib.hid (HC.out _ (HIt.out i) i wr hj)
    have h2 := HIt.out i
    have h3 := HIt.out (i + 1)
    have h4 := two_le6 hn
    have HE : Hid (F (iter F s i) = iter F s (i + 1)) := rfl
    by_cases hlt : i < k
    · have hne : ¬ ((iter F s (i + 1) : Nat) : Int) = ((iter F s i : Nat) : Int) := by
        have := HFst.out.2 i hlt
        rw [HE.out] at this
        omega
      obtain ⟨Y, hY⟩ : ∃ Y, iter F s i = Y := ⟨_, rfl⟩
      obtain ⟨Z, hZ⟩ : ∃ Z, iter F s (i + 1) = Z := ⟨_, rfl⟩
      rw [HE.out] at H
      rw [hY] at H h2 hne
      rw [hZ] at H h3 hne
      rw [hY]
      have HZ := Lib.hid hZ
      clear hY hZ HE hj
      go_wp2_with (go_at_fn gf; refine H.out.mono ?_; rintro e w1 ⟨rfl, hj1⟩)
      have HJ := Lib.hid hj1
      clear hj1
      go_wp2
      go_roundw
      case rel => exact ⟨i + 1, by omega, by rw [HZ.out], by go_num, HJ.out⟩
      case measure => simp [intOf]; omega
    · obtain rfl : i = k := by omega
      have he := HFst.out.1
      obtain ⟨Y, hY⟩ : ∃ Y, iter F s i = Y := ⟨_, rfl⟩
      rw [he] at H
      rw [hY] at H h2
      rw [hY]
      have HY := Lib.hid hY
      clear hY HE hj he
      go_wp2_with (go_at_fn gf; refine H.out.mono ?_; rintro e w1 ⟨rfl, hj1⟩)
      have HJ := Lib.hid hj1
      clear hj1
      go_wp2
      exact bodyPost_ret (v := .tuple #[.int .i64 (Y : Int), .int .i64 ((i : Int) + 1)]) (by simp [results, Try.results33, go_sem]) rfl ⟨by rw [HY.out], HJ.out⟩
end Go.Proofs.Ytkbbijhknbcflab
