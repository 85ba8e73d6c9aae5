import Derived.Test.YtmbccdjoliegiaaR8
import Derived.Test.YtmbccdjoliegiaaL7
namespace Go.Proofs.Ytmbccdjoliegiaa
open Go.RowKit

theorem setB_not {n m : Int} (h : setB n m = false) : n < 1 ∨ 7 < n ∨ ∃ N : Nat, n = N ∧ 1 ≤ N ∧ N ≤ 7 ∧ (m < 0 ∨ (0 ≤ m ∧ ((2 ^ (N - 1) : Nat) : Int) ≤ m)) := by
  by_cases h1 : n < 1
  · exact Or.inl h1
  by_cases h7 : 7 < n
  · exact Or.inr (Or.inl h7)
  refine Or.inr (Or.inr ⟨n.toNat, by omega, by omega, by omega, ?_⟩)
  by_cases h0 : m < 0
  · exact Or.inl h0
  refine Or.inr ⟨by omega, ?_⟩
  obtain ⟨Q, hQ⟩ : ∃ Q : Nat, Q = 2 ^ (n.toNat - 1) := ⟨_, rfl⟩
  rw [← hQ]
  by_cases hm : (Q : Int) ≤ m
  · exact hm
  · exfalso
    have := setB_iff.2 ⟨n.toNat, m.toNat, (by omega : n = (n.toNat : Int)), (by omega : m = (m.toNat : Int)), by omega, by omega, by rw [← hQ]; omega⟩
    rw [this] at h; cases h

set_option maxHeartbeats 8000000 in
set_option maxRecDepth 100000 in
theorem foldsMade_core (W : World) (n : Int) (hn' : -9223372036854775808 ≤ n ∧ n ≤ 9223372036854775807) (m : Int) (hm' : -9223372036854775808 ≤ m ∧ m ≤ 9223372036854775807) :
    Calls Try.prog 6 #[.int .i64 n, .int .i64 m] W fun e W' => e = .returned (.bool true) ∧ Below W.heap.size W W' := by
  cases hs : setB n m
  · have HS := Lib.hid hs
    have hc := setB_not hs
    clear hs
    rcases hc with hc | hc | ⟨N, rfl, h1, h7, hc | ⟨hc0, hc⟩⟩
    · clear hm' hn'
      go_enter Try.func6, Try.ntmps6
      go_wp2_with fail
      refine (fold_bad _ _ _ HS.out).mono ?_
      rintro e w1 ⟨rfl, hb1⟩
      have HB1 := Lib.hid hb1
      clear hb1
      go_wp2_with fail
      refine (folds_bad _ _ _ HS.out).mono ?_
      rintro e w2 ⟨rfl, rfl⟩
      go_wp2_with fail
      refine (awake_any _).mono ?_
      rintro e w6 ⟨rfl, hb6⟩
      have HB6 : Hid (Below W.heap.size W w6) := HB1.out.trans (hb6.mono HB1.out.size)
      clear hb6
      go_wp2
      go_ret
      exact ⟨rfl, HB6.out⟩
    · clear hm' hn'
      have hge : ¬ n < 1 := by omega
      go_enter Try.func6, Try.ntmps6
      go_wp2_with fail
      refine (fold_bad _ _ _ HS.out).mono ?_
      rintro e w1 ⟨rfl, hb1⟩
      have HB1 := Lib.hid hb1
      clear hb1
      go_wp2_with fail
      refine (folds_bad _ _ _ HS.out).mono ?_
      rintro e w2 ⟨rfl, rfl⟩
      go_wp2_with fail
      refine (awake_any _).mono ?_
      rintro e w6 ⟨rfl, hb6⟩
      have HB6 : Hid (Below W.heap.size W w6) := HB1.out.trans (hb6.mono HB1.out.size)
      clear hb6
      go_wp2
      go_ret
      exact ⟨rfl, HB6.out⟩
    · clear hm' hn'
      go_enter Try.func6, Try.ntmps6
      go_wp2_with fail
      refine (fold_bad _ _ _ HS.out).mono ?_
      rintro e w1 ⟨rfl, hb1⟩
      have HB1 := Lib.hid hb1
      clear hb1
      go_wp2_with fail
      refine (folds_bad _ _ _ HS.out).mono ?_
      rintro e w2 ⟨rfl, rfl⟩
      go_wp2_with fail
      refine (awake_any _).mono ?_
      rintro e w6 ⟨rfl, hb6⟩
      have HB6 : Hid (Below W.heap.size W w6) := HB1.out.trans (hb6.mono HB1.out.size)
      clear hb6
      go_wp2
      go_ret
      exact ⟨rfl, HB6.out⟩
    · obtain ⟨Q, hQ⟩ : ∃ Q : Nat, Q = 2 ^ (N - 1) := ⟨_, rfl⟩
      have hw : wrap64 ((2 : Int) ^ (N - 1)) = (Q : Int) := by rw [hQ]; exact wrap_pow (N - 1) (by omega)
      have hMQ : (Q : Int) ≤ m := by omega
      have hge : ¬ m < 0 := by omega
      clear hm' hn' hc hQ
      go_enter Try.func6, Try.ntmps6
      go_wp2_with fail
      refine (fold_bad _ _ _ HS.out).mono ?_
      rintro e w1 ⟨rfl, hb1⟩
      have HB1 := Lib.hid hb1
      clear hb1
      go_wp2_with fail
      refine (folds_bad _ _ _ HS.out).mono ?_
      rintro e w2 ⟨rfl, rfl⟩
      go_wp2_with fail
      refine (awake_any _).mono ?_
      rintro e w6 ⟨rfl, hb6⟩
      have HB6 : Hid (Below W.heap.size W w6) := HB1.out.trans (hb6.mono HB1.out.size)
      clear hb6
      go_wp2
      go_ret
      exact ⟨rfl, HB6.out⟩
  · clear hn' hm'
    obtain ⟨N, M, rfl, rfl, h1, h7, hM⟩ := setB_iff.1 hs
    obtain ⟨x, rest, hx⟩ := fpiles_some h1 h7 hM
    obtain ⟨hxl, _⟩ := head_facts h1 h7 hx
    have HFd := Lib.hid (fold_good N M W h1 h7 hM x rest hx)
    have HFs : Hid (∀ w, Calls Try.prog 34 #[.int .i64 N, .int .i64 M] w fun e w' => e = .returned (.tuple #[.int .i64 (fpiles N M).length, .int .i64 0]) ∧ Below w.heap.size w w') := fun w => folds_good N M w h1 h7 hM
    have HRd : Hid (∀ w, Calls Try.prog 35 #[.int .i64 N, .int .i64 M] w fun e w' => ∃ a cap, e = .returned (.slice a N cap) ∧ N ≤ cap ∧ cap ≤ maxLen ∧ Ints w' a N (zl x) ∧ Below w.heap.size w w') := fun w => rfold_any N M w h1 h7 x rest hx
    have HRs : Hid (∀ w, Calls Try.prog 36 #[.int .i64 N, .int .i64 M] w fun e w' => e = .returned (.int .i64 (fpiles N M).length) ∧ Below w.heap.size w w') := fun w => rfolds_any N M w h1 h7
    obtain ⟨c, hc⟩ : ∃ c, c = (fpiles N M).length := ⟨_, rfl⟩
    rw [← hc] at HFs HRs
    have HXl := Lib.hid hxl
    obtain ⟨Q, hQ⟩ : ∃ Q : Nat, Q = 2 ^ (N - 1) := ⟨_, rfl⟩
    have hw : wrap64 ((2 : Int) ^ (N - 1)) = (Q : Int) := by rw [hQ]; exact wrap_pow (N - 1) (by omega)
    have hMQ : (M : Int) < (Q : Int) := by omega
    clear hs hx hxl hQ hM hc
    go_enter Try.func6, Try.ntmps6
    go_wp2_with fail
    refine HFd.out.mono ?_
    rintro e w1 ⟨v, rfl, ⟨ax, cx, rfl, hcx1, hcx2, hIx⟩, hb1⟩
    have HB1 := Lib.hid hb1
    have HIx : Hid (Ints w1 ax N (zl x)) := by have := hIx; rw [HXl.out] at this; exact this
    rw [HXl.out]
    clear hb1 hIx hcx1 hcx2 HFd
    go_wp2_with fail
    refine (HFs.out _).mono ?_
    rintro e w2 ⟨rfl, hb2⟩
    have HB2 : Hid (Below W.heap.size W w2) := HB1.out.trans (hb2.mono HB1.out.size)
    have HIx2 := Lib.hid (HIx.out.keep (Nat.le_refl _) hb2)
    clear hb2 HIx HB1
    go_wp2_with fail
    refine (HRd.out _).mono ?_
    rintro e w3 ⟨a3, c3, rfl, hc3, hd3, hI3, hb3⟩
    have HB3 : Hid (Below W.heap.size W w3) := HB2.out.trans (hb3.mono HB2.out.size)
    have HE := Lib.hid (equal_yes ax a3 cx c3 N (zl x) w3 (by omega) (HIx2.out.keep (Nat.le_refl _) hb3) hI3)
    clear hb3 HIx2 HB2 hI3 hd3 hc3
    go_wp2_with fail
    refine HE.out.mono ?_
    rintro e w4 ⟨rfl, hb4⟩
    have HB4 : Hid (Below W.heap.size W w4) := HB3.out.trans (hb4.mono HB3.out.size)
    clear hb4 HB3 HE
    go_wp2_with fail
    refine (HRs.out _).mono ?_
    rintro e w5 ⟨rfl, hb5⟩
    have HB5 : Hid (Below W.heap.size W w5) := HB4.out.trans (hb5.mono HB4.out.size)
    have G : ((c : Int) == (c : Int)) = true := by simp
    clear hb5 HB4
    go_wp2_with fail
    refine (awake_any _).mono ?_
    rintro e w6 ⟨rfl, hb6⟩
    have HB6 : Hid (Below W.heap.size W w6) := HB5.out.trans (hb6.mono HB5.out.size)
    clear hb6
    go_wp2
    go_ret
    exact ⟨rfl, HB6.out⟩

end Go.Proofs.Ytmbccdjoliegiaa
