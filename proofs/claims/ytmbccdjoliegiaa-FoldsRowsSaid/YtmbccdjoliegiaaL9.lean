import Derived.Test.YtmbccdjoliegiaaM6
import Derived.Test.YtmbccdjoliegiaaL7
namespace Go.Proofs.Ytmbccdjoliegiaa
open Go.RowKit

theorem pileB_min (n : Int) (h : n ≤ 4) (k : Nat) (z : Nat → Int) : pileB (min k 11) z (2 * n) = pileB k z (2 * n) := by
  by_cases hk : k ≤ 11
  · rw [Nat.min_eq_left hk]
  · rw [pileB_no (fun h' => by have := h'.1; omega), pileB_no (fun h' => by have := h'.1; omega)]
theorem mapB_min (n : Int) (k : Nat) (z : Nat → Int) : mapB n (min k 11) z = mapB n k z := by
  unfold mapB
  by_cases h : n ≤ 4
  · rw [pileB_min n h]
  · rw [show decide (n ≤ 4) = false by simpa using h]; simp
theorem mapB_out (n : Int) (k : Nat) (z : Nat → Int) (h : n < 1 ∨ 4 < n) : mapB n k z = false := by
  unfold mapB
  rcases h with h | h
  · rw [show decide (1 ≤ n) = false by simp; omega]; rfl
  · rw [show decide (n ≤ 4) = false by simp; omega]; simp
theorem mapB_in {n : Nat} (h1 : 1 ≤ n) (h4 : n ≤ 4) (k : Nat) (z : Nat → Int) : mapB (n : Int) k z = pileB k z (2 * (n : Int)) := by
  unfold mapB
  rw [show decide ((1 : Int) ≤ n) = true by simp; omega, show decide ((n : Int) ≤ 4) = true by simp; omega]; rfl
/-- Which piles of a map there are, told as the law tells it. -/
theorem pile_map {n : Nat} (h1 : 1 ≤ n) (h4 : n ≤ 4) (k : Nat) (z : Nat → Int) :
    (pileB k z (2 * (n : Int)) = false ∧ (k ≠ 2 * n ∨ (k = 2 * n ∧ pileR k z 8 = false))) ∨ (pileB k z (2 * (n : Int)) = true ∧ k = 2 * n ∧ pileR k z 8 = true ∧ goodP k z k) := by
  by_cases hk : k = 2 * n
  · by_cases hg : goodP k z k
    · exact Or.inr ⟨pileB_iff.2 ⟨by omega, fun x hx => has_iff.2 (good_all hg x hx)⟩, hk, pileR_iff.2 ⟨hg, by omega, by omega⟩, hg⟩
    · refine Or.inl ⟨pileB_no (fun h => hg ?_), Or.inr ⟨hk, pileR_no hg⟩⟩
      exact all_good (by omega) (fun x hx => has_iff.1 (h.2 x hx))
  · exact Or.inl ⟨pileB_no (fun h => hk (by have := h.1; omega)), Or.inl hk⟩

set_option maxHeartbeats 16000000 in
set_option maxRecDepth 100000 in
theorem foldsMaps_core (W : World) (n : Int) (hn' : -9223372036854775808 ≤ n ∧ n ≤ 9223372036854775807) (a : Option Addr) (k cap : Nat) (z : Nat → Int) (hk : k ≤ cap) (h8 : k * 8 ≤ 140737488355328) (hI : Ints W a k z) :
    Calls Try.prog 8 #[.int .i64 n, .slice a k cap] W fun e W' => e = .returned (.bool true) ∧ Below W.heap.size W W' := by
  have HI := Lib.hid hI
  have HL := Lib.hid (list_any a cap k z W hk h8 hI)
  clear hI
  by_cases hlo : n < 1
  · have HMB : Hid (mapB n k z = false) := mapB_out _ _ _ (Or.inl hlo)
    have HMA : Hid (n < 1 ∨ 3 < n) := Or.inl hlo
    clear hn'
    go_enter Try.func8, Try.ntmps8
    go_wp2_with fail
    refine HL.out.mono ?_
    rintro e w1 ⟨a1, c1, rfl, hO1, hb1⟩
    have HB1 := Lib.hid hb1
    have HO1 := Lib.hid hO1.ints
    clear hb1 hO1 HL
    have HQ := Lib.hid (map_bad _ a1 c1 _ z w1 (by omega) (by rw [mapB_min]; exact HMB.out) HO1.out)
    go_wp2_with fail
    refine HQ.out.mono ?_
    rintro e w2 ⟨rfl, rfl⟩
    clear HQ HO1
    go_wp2_with fail
    refine (maps_bad _ _ HMA.out).mono ?_
    rintro e w3 ⟨rfl, rfl⟩
    go_wp2_with fail
    refine (awake_any _).mono ?_
    rintro e w9 ⟨rfl, hb9⟩
    have HB9 : Hid (Below W.heap.size W w9) := HB1.out.trans (hb9.mono HB1.out.size)
    clear hb9
    go_wp2
    go_ret
    exact ⟨rfl, HB9.out⟩
  by_cases hhi : 4 < n
  · have HMB : Hid (mapB n k z = false) := mapB_out _ _ _ (Or.inr hhi)
    have HMA : Hid (n < 1 ∨ 3 < n) := Or.inr (by omega)
    have h3 : 3 < n := by omega
    clear hn'
    go_enter Try.func8, Try.ntmps8
    go_wp2_with fail
    refine HL.out.mono ?_
    rintro e w1 ⟨a1, c1, rfl, hO1, hb1⟩
    have HB1 := Lib.hid hb1
    have HO1 := Lib.hid hO1.ints
    clear hb1 hO1 HL
    have HQ := Lib.hid (map_bad _ a1 c1 _ z w1 (by omega) (by rw [mapB_min]; exact HMB.out) HO1.out)
    go_wp2_with fail
    refine HQ.out.mono ?_
    rintro e w2 ⟨rfl, rfl⟩
    clear HQ HO1
    go_wp2_with fail
    refine (maps_bad _ _ HMA.out).mono ?_
    rintro e w3 ⟨rfl, rfl⟩
    go_wp2_with fail
    refine (awake_any _).mono ?_
    rintro e w9 ⟨rfl, hb9⟩
    have HB9 : Hid (Below W.heap.size W w9) := HB1.out.trans (hb9.mono HB1.out.size)
    clear hb9
    go_wp2
    go_ret
    exact ⟨rfl, HB9.out⟩
  obtain ⟨n, rfl⟩ : ∃ m : Nat, n = m := ⟨n.toNat, by omega⟩
  have h1 : 1 ≤ n := by omega
  have h4 : n ≤ 4 := by omega
  clear hlo hhi hn'
  have HRm : Hid (∀ w, Below W.heap.size W w → pileB k z (2 * (n : Int)) = true → Calls Try.prog 45 #[.int .i64 n, .slice a k cap] w fun e w' => e = .returned (.bool (posB k z (mapN n))) ∧ Below w.heap.size w w') := fun w hw hp => by
    rcases pile_map h1 h4 k z with ⟨hp', _⟩ | ⟨_, hk2, _, hg⟩
    · rw [hp] at hp'; cases hp'
    · have := rmap_any n a cap k z w h1 h4 hk2 hg (HI.out.keep (Nat.le_refl _) hw)
      rw [map_same n k z h1 h4 hk2 hg] at this; exact this
  by_cases hn3 : n ≤ 3
  · have HMs : Hid (∀ w, Calls Try.prog 42 #[.int .i64 n] w fun e w' => e = .returned (.tuple #[.int .i64 (mpiles n).length, .int .i64 0]) ∧ Below w.heap.size w w') := fun w => maps_good n w h1 hn3
    have HRs : Hid (∀ w, Calls Try.prog 43 #[.int .i64 n] w fun e w' => e = .returned (.int .i64 (mpiles n).length) ∧ Below w.heap.size w w') := fun w => rmaps_any n w h1 hn3
    obtain ⟨c, hc⟩ : ∃ c, c = (mpiles n).length := ⟨_, rfl⟩
    rw [← hc] at HMs HRs
    clear hc
    rcases pile_map h1 h4 k z with ⟨hp, hkn | ⟨hkn, hpr⟩⟩ | ⟨hp, hkn, hpr, hg⟩
    · have HMB : Hid (mapB n k z = false) := by rw [Hid, mapB_in h1 h4]; exact hp
      have G2 : ((k : Int) != 2 * (n : Int)) = true := by simp; omega
      clear hp hkn
      go_enter Try.func8, Try.ntmps8
      go_wp2_with fail
      refine HL.out.mono ?_
      rintro e w1 ⟨a1, c1, rfl, hO1, hb1⟩
      have HB1 := Lib.hid hb1
      have HO1 := Lib.hid hO1.ints
      clear hb1 hO1 HL
      have HQ := Lib.hid (map_bad _ a1 c1 _ z w1 (by omega) (by rw [mapB_min]; exact HMB.out) HO1.out)
      go_wp2_with fail
      refine HQ.out.mono ?_
      rintro e w2 ⟨rfl, rfl⟩
      clear HQ HO1
      go_wp2_with fail
      refine (HMs.out _).mono ?_
      rintro e w3 ⟨rfl, hb3⟩
      have HB3 : Hid (Below W.heap.size W w3) := HB1.out.trans (hb3.mono HB1.out.size)
      clear hb3 HB1
      go_wp2_with fail
      refine (HRs.out _).mono ?_
      rintro e w4 ⟨rfl, hb4⟩
      have HB1 : Hid (Below W.heap.size W w4) := HB3.out.trans (hb4.mono HB3.out.size)
      have G : ((c : Int) != (c : Int)) = false := by simp
      clear hb4 HB3
      go_wp2_with fail
      refine (awake_any _).mono ?_
      rintro e w9 ⟨rfl, hb9⟩
      have HB9 : Hid (Below W.heap.size W w9) := HB1.out.trans (hb9.mono HB1.out.size)
      clear hb9
      go_wp2
      go_ret
      exact ⟨rfl, HB9.out⟩
    · have HMB : Hid (mapB n k z = false) := by rw [Hid, mapB_in h1 h4]; exact hp
      have HPR := Lib.hid hpr
      have G2 : ((k : Int) != 2 * (n : Int)) = false := by simp; omega
      clear hp hkn hpr
      go_enter Try.func8, Try.ntmps8
      go_wp2_with fail
      refine HL.out.mono ?_
      rintro e w1 ⟨a1, c1, rfl, hO1, hb1⟩
      have HB1 := Lib.hid hb1
      have HO1 := Lib.hid hO1.ints
      clear hb1 hO1 HL
      have HQ := Lib.hid (map_bad _ a1 c1 _ z w1 (by omega) (by rw [mapB_min]; exact HMB.out) HO1.out)
      go_wp2_with fail
      refine HQ.out.mono ?_
      rintro e w2 ⟨rfl, rfl⟩
      clear HQ HO1
      go_wp2_with fail
      refine (HMs.out _).mono ?_
      rintro e w3 ⟨rfl, hb3⟩
      have HB3 : Hid (Below W.heap.size W w3) := HB1.out.trans (hb3.mono HB1.out.size)
      clear hb3 HB1
      go_wp2_with fail
      refine (HRs.out _).mono ?_
      rintro e w4 ⟨rfl, hb4⟩
      have HB1 : Hid (Below W.heap.size W w4) := HB3.out.trans (hb4.mono HB3.out.size)
      have G : ((c : Int) != (c : Int)) = false := by simp
      clear hb4 HB3
      go_wp2_with fail
      refine (rpile_r false a cap k z 8 _ HPR.out (by omega) (HI.out.keep (Nat.le_refl _) HB1.out)).mono ?_
      rintro e w5 ⟨rfl, rfl⟩
      go_wp2_with fail
      refine (awake_any _).mono ?_
      rintro e w9 ⟨rfl, hb9⟩
      have HB9 : Hid (Below W.heap.size W w9) := HB1.out.trans (hb9.mono HB1.out.size)
      clear hb9
      go_wp2
      go_ret
      exact ⟨rfl, HB9.out⟩
    · have HPB := Lib.hid hp
      have HPR := Lib.hid hpr
      have G2 : ((k : Int) != 2 * (n : Int)) = false := by simp; omega
      have hk8 : k ≤ 8 := by omega
      have HRm : Hid (∀ w, Below W.heap.size W w → Calls Try.prog 45 #[.int .i64 n, .slice a k cap] w fun e w' => e = .returned (.bool (posB k z (mapN n))) ∧ Below w.heap.size w w') := fun w hw => HRm.out w hw hp
      have GP : (posB k z (mapN n) == posB k z (mapN n)) = true := by simp
      clear hp hkn hpr hg
      go_enter Try.func8, Try.ntmps8
      go_wp2_with fail
      refine HL.out.mono ?_
      rintro e w1 ⟨a1, c1, rfl, hO1, hb1⟩
      have HB1 := Lib.hid hb1
      have HO1 := Lib.hid hO1.ints
      clear hb1 hO1 HL
      have HQ := Lib.hid (map_good n a1 c1 k z w1 h1 h4 HPB.out (by have := HO1.out; rw [show min k 11 = k by omega] at this; exact this))
      rw [show min k 11 = k by omega]
      go_wp2_with fail
      refine HQ.out.mono ?_
      rintro e w2 ⟨rfl, hb2⟩
      have HB2 : Hid (Below W.heap.size W w2) := HB1.out.trans (hb2.mono HB1.out.size)
      clear HQ HO1 HB1 hb2
      have HB1 := HB2
      go_wp2_with fail
      refine (HMs.out _).mono ?_
      rintro e w3 ⟨rfl, hb3⟩
      have HB3 : Hid (Below W.heap.size W w3) := HB1.out.trans (hb3.mono HB1.out.size)
      clear hb3 HB1
      go_wp2_with fail
      refine (HRs.out _).mono ?_
      rintro e w4 ⟨rfl, hb4⟩
      have HB1 : Hid (Below W.heap.size W w4) := HB3.out.trans (hb4.mono HB3.out.size)
      have G : ((c : Int) != (c : Int)) = false := by simp
      clear hb4 HB3
      go_wp2_with fail
      refine (rpile_r true a cap k z 8 _ HPR.out (by omega) (HI.out.keep (Nat.le_refl _) HB1.out)).mono ?_
      rintro e w5 ⟨rfl, rfl⟩
      have HQ := Lib.hid (HRm.out _ HB1.out)
      go_wp2_with fail
      refine HQ.out.mono ?_
      rintro e w6 ⟨rfl, hb6⟩
      have HB6 : Hid (Below W.heap.size W w6) := HB1.out.trans (hb6.mono HB1.out.size)
      clear hb6 HB1 HQ
      have HB1 := HB6
      go_wp2_with fail
      refine (awake_any _).mono ?_
      rintro e w9 ⟨rfl, hb9⟩
      have HB9 : Hid (Below W.heap.size W w9) := HB1.out.trans (hb9.mono HB1.out.size)
      clear hb9
      go_wp2
      go_ret
      exact ⟨rfl, HB9.out⟩
  · have hn4 : 3 < n := by omega
    have HMA : Hid ((n : Int) < 1 ∨ 3 < (n : Int)) := Or.inr (by omega)
    clear hn3
    rcases pile_map h1 h4 k z with ⟨hp, hkn | ⟨hkn, hpr⟩⟩ | ⟨hp, hkn, hpr, hg⟩
    · have HMB : Hid (mapB n k z = false) := by rw [Hid, mapB_in h1 h4]; exact hp
      have G2 : ((k : Int) != 2 * (n : Int)) = true := by simp; omega
      clear hp hkn
      go_enter Try.func8, Try.ntmps8
      go_wp2_with fail
      refine HL.out.mono ?_
      rintro e w1 ⟨a1, c1, rfl, hO1, hb1⟩
      have HB1 := Lib.hid hb1
      have HO1 := Lib.hid hO1.ints
      clear hb1 hO1 HL
      have HQ := Lib.hid (map_bad _ a1 c1 _ z w1 (by omega) (by rw [mapB_min]; exact HMB.out) HO1.out)
      go_wp2_with fail
      refine HQ.out.mono ?_
      rintro e w2 ⟨rfl, rfl⟩
      clear HQ HO1
      go_wp2_with fail
      refine (maps_bad _ _ HMA.out).mono ?_
      rintro e w3 ⟨rfl, rfl⟩
      go_wp2_with fail
      refine (awake_any _).mono ?_
      rintro e w9 ⟨rfl, hb9⟩
      have HB9 : Hid (Below W.heap.size W w9) := HB1.out.trans (hb9.mono HB1.out.size)
      clear hb9
      go_wp2
      go_ret
      exact ⟨rfl, HB9.out⟩
    · have HMB : Hid (mapB n k z = false) := by rw [Hid, mapB_in h1 h4]; exact hp
      have HPR := Lib.hid hpr
      have G2 : ((k : Int) != 2 * (n : Int)) = false := by simp; omega
      clear hp hkn hpr
      go_enter Try.func8, Try.ntmps8
      go_wp2_with fail
      refine HL.out.mono ?_
      rintro e w1 ⟨a1, c1, rfl, hO1, hb1⟩
      have HB1 := Lib.hid hb1
      have HO1 := Lib.hid hO1.ints
      clear hb1 hO1 HL
      have HQ := Lib.hid (map_bad _ a1 c1 _ z w1 (by omega) (by rw [mapB_min]; exact HMB.out) HO1.out)
      go_wp2_with fail
      refine HQ.out.mono ?_
      rintro e w2 ⟨rfl, rfl⟩
      clear HQ HO1
      go_wp2_with fail
      refine (maps_bad _ _ HMA.out).mono ?_
      rintro e w3 ⟨rfl, rfl⟩
      go_wp2_with fail
      refine (rpile_r false a cap k z 8 _ HPR.out (by omega) (HI.out.keep (Nat.le_refl _) HB1.out)).mono ?_
      rintro e w5 ⟨rfl, rfl⟩
      go_wp2_with fail
      refine (awake_any _).mono ?_
      rintro e w9 ⟨rfl, hb9⟩
      have HB9 : Hid (Below W.heap.size W w9) := HB1.out.trans (hb9.mono HB1.out.size)
      clear hb9
      go_wp2
      go_ret
      exact ⟨rfl, HB9.out⟩
    · have HPB := Lib.hid hp
      have HPR := Lib.hid hpr
      have G2 : ((k : Int) != 2 * (n : Int)) = false := by simp; omega
      have hk8 : k ≤ 8 := by omega
      have HRm : Hid (∀ w, Below W.heap.size W w → Calls Try.prog 45 #[.int .i64 n, .slice a k cap] w fun e w' => e = .returned (.bool (posB k z (mapN n))) ∧ Below w.heap.size w w') := fun w hw => HRm.out w hw hp
      have GP : (posB k z (mapN n) == posB k z (mapN n)) = true := by simp
      clear hp hkn hpr hg
      go_enter Try.func8, Try.ntmps8
      go_wp2_with fail
      refine HL.out.mono ?_
      rintro e w1 ⟨a1, c1, rfl, hO1, hb1⟩
      have HB1 := Lib.hid hb1
      have HO1 := Lib.hid hO1.ints
      clear hb1 hO1 HL
      have HQ := Lib.hid (map_good n a1 c1 k z w1 h1 h4 HPB.out (by have := HO1.out; rw [show min k 11 = k by omega] at this; exact this))
      rw [show min k 11 = k by omega]
      go_wp2_with fail
      refine HQ.out.mono ?_
      rintro e w2 ⟨rfl, hb2⟩
      have HB2 : Hid (Below W.heap.size W w2) := HB1.out.trans (hb2.mono HB1.out.size)
      clear HQ HO1 HB1 hb2
      have HB1 := HB2
      go_wp2_with fail
      refine (maps_bad _ _ HMA.out).mono ?_
      rintro e w3 ⟨rfl, rfl⟩
      go_wp2_with fail
      refine (rpile_r true a cap k z 8 _ HPR.out (by omega) (HI.out.keep (Nat.le_refl _) HB1.out)).mono ?_
      rintro e w5 ⟨rfl, rfl⟩
      have HQ := Lib.hid (HRm.out _ HB1.out)
      go_wp2_with fail
      refine HQ.out.mono ?_
      rintro e w6 ⟨rfl, hb6⟩
      have HB6 : Hid (Below W.heap.size W w6) := HB1.out.trans (hb6.mono HB1.out.size)
      clear hb6 HB1 HQ
      have HB1 := HB6
      go_wp2_with fail
      refine (awake_any _).mono ?_
      rintro e w9 ⟨rfl, hb9⟩
      have HB9 : Hid (Below W.heap.size W w9) := HB1.out.trans (hb9.mono HB1.out.size)
      clear hb9
      go_wp2
      go_ret
      exact ⟨rfl, HB9.out⟩

end Go.Proofs.Ytmbccdjoliegiaa
