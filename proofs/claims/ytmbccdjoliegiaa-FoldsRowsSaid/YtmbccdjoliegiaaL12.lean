import Derived.Test.YtmbccdjoliegiaaL11
namespace Go.Proofs.Ytmbccdjoliegiaa
open Go.RowKit

set_option maxHeartbeats 16000000 in
set_option maxRecDepth 100000 in
theorem rows_bad (W : World) (n : Int) (k : Nat) (a : Option Addr) (cap : Nat) (z : Nat → Int) (hk : k ≤ cap) (h8 : k * 8 ≤ 140737488355328) (hI : Ints W a k z) (hb : mapB n k z = false) :
    Calls Try.prog 14 #[.int .i64 n, .slice a k cap] W fun e W' => e = .returned (.bool true) ∧ Below W.heap.size W W' := by
  have HL := Lib.hid (list_any a cap k z W hk h8 hI)
  have HMB := Lib.hid hb
  clear hb hI
  go_enter Try.func14, Try.ntmps14
  go_wp2_with fail
  refine HL.out.mono ?_
  rintro e w1 ⟨a1, c1, rfl, hO1, hb1⟩
  have HB1 := Lib.hid hb1
  have HO1 := Lib.hid hO1.ints
  have HQ := Lib.hid (map_bad n a1 c1 _ z w1 (by omega) (by rw [mapB_min]; exact HMB.out) HO1.out)
  clear hb1 hO1 HL
  go_wp2_with fail
  refine HQ.out.mono ?_
  rintro e w2 ⟨rfl, rfl⟩
  clear HQ HO1
  go_wp2_with fail
  refine (awake_any _).mono ?_
  rintro e w9 ⟨rfl, hb9⟩
  have HB9 : Hid (Below W.heap.size W w9) := HB1.out.trans (hb9.mono HB1.out.size)
  clear hb9
  go_wp2
  go_ret
  exact ⟨rfl, HB9.out⟩

set_option maxHeartbeats 16000000 in
set_option maxRecDepth 100000 in
theorem rows_not (W : World) (n k : Nat) (a : Option Addr) (cap : Nat) (z : Nat → Int) (hk : k ≤ cap) (h8 : k * 8 ≤ 140737488355328) (hI : Ints W a k z) (h1 : 1 ≤ n) (h4 : n ≤ 4) (hp : pileB k z (2 * (n : Int)) = true) (hkn : k = 2 * n) (hpr : pileR k z 8 = true) (hpo : posB k z (mapN n) = false) :
    Calls Try.prog 14 #[.int .i64 n, .slice a k cap] W fun e W' => e = .returned (.bool true) ∧ Below W.heap.size W W' := by
  have HI := Lib.hid hI
  have HL := Lib.hid (list_any a cap k z W hk h8 hI)
  have HPB := Lib.hid hp
  have HPR := Lib.hid hpr
  have G2 : ((k : Int) != 2 * (n : Int)) = false := by simp; omega
  have hk8 : k ≤ 8 := by omega
  clear hI hp hpr hkn
  go_enter Try.func14, Try.ntmps14
  go_wp2_with fail
  refine HL.out.mono ?_
  rintro e w1 ⟨a1, c1, rfl, hO1, hb1⟩
  have hq := map_good n a1 c1 k z w1 h1 h4 HPB.out (by have := hO1.ints; rw [show min k 11 = k by omega] at this; exact this)
  rw [hpo] at hq
  have HQ := Lib.hid hq
  have HB1 := Lib.hid hb1
  rw [show min k 11 = k by omega]
  clear hb1 hO1 HL hq hpo
  go_wp2_with fail
  refine HQ.out.mono ?_
  rintro e w2 ⟨rfl, hb2⟩
  have HB2 : Hid (Below W.heap.size W w2) := HB1.out.trans (hb2.mono HB1.out.size)
  clear HQ HB1 hb2
  go_wp2_with fail
  refine (rpile_r true a cap k z 8 _ HPR.out (by omega) (HI.out.keep (Nat.le_refl _) HB2.out)).mono ?_
  rintro e w5 ⟨rfl, rfl⟩
  go_wp2_with fail
  refine (awake_any _).mono ?_
  rintro e w9 ⟨rfl, hb9⟩
  have HB9 : Hid (Below W.heap.size W w9) := HB2.out.trans (hb9.mono HB2.out.size)
  clear hb9
  go_wp2
  go_ret
  exact ⟨rfl, HB9.out⟩

theorem foldsRows_core (W : World) (n : Int) (_ : -9223372036854775808 ≤ n ∧ n ≤ 9223372036854775807) (a : Option Addr) (k cap : Nat) (z : Nat → Int) (hk : k ≤ cap) (h8 : k * 8 ≤ 140737488355328) (hI : Ints W a k z) :
    Calls Try.prog 14 #[.int .i64 n, .slice a k cap] W fun e W' => e = .returned (.bool true) ∧ Below W.heap.size W W' := by
  by_cases hlo : n < 1
  · exact rows_bad W n k a cap z hk h8 hI (mapB_out _ _ _ (Or.inl hlo))
  by_cases hhi : 4 < n
  · exact rows_bad W n k a cap z hk h8 hI (mapB_out _ _ _ (Or.inr hhi))
  obtain ⟨m, rfl⟩ : ∃ m : Nat, n = m := ⟨n.toNat, by omega⟩
  have h1 : 1 ≤ m := by omega
  have h4 : m ≤ 4 := by omega
  rcases pile_map h1 h4 k z with ⟨hp, _⟩ | ⟨hp, hkn, hpr, _⟩
  · exact rows_bad W m k a cap z hk h8 hI (by rw [mapB_in h1 h4]; exact hp)
  · cases hpo : posB k z (mapN m)
    · exact rows_not W m k a cap z hk h8 hI h1 h4 hp hkn hpr hpo
    · exact rows_tail W m k a cap z hk h8 hI h1 h4 hp hkn hpr hpo

end Go.Proofs.Ytmbccdjoliegiaa
