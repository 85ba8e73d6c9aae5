import Derived.Test.YtmbccdjoliegiaaR7
namespace Go.Proofs.Ytmbccdjoliegiaa
open Go.RowKit

set_option maxHeartbeats 8000000 in
set_option maxRecDepth 100000 in
theorem rfolds_any (n m : Nat) (w : World) (h1 : 1 ≤ n) (h7 : n ≤ 7) :
    Calls Try.prog 36 #[.int .i64 n, .int .i64 m] w fun e w' => e = .returned (.int .i64 (fpiles n m).length) ∧ Below w.heap.size w w' := by
  have HA := Lib.hid (rlist_any n w h1 h7)
  have hmax := piles_max h7
  obtain ⟨L, hL⟩ : ∃ L, L = piles n := ⟨_, rfl⟩
  have HP : Hid (fpiles n m = L.filter (okM m)) := by rw [hL]; rfl
  have HF : Hid (∀ k p, L[k]? = some p → p.length = n ∧ isP n (zl p) = true ∧ goodP n (zl p) n) := fun k p h => perms_facts h1 h7 ((List.mem_filter.1 (show p ∈ (perms n n []).filter (okP (rowN 0 (n - 1))) by have := List.mem_of_getElem? h; rw [hL] at this; exact this)).1)
  rw [← hL] at HA hmax
  clear hL
  go_enter Try.func36, Try.ntmps36
  go_wp2_with fail
  refine HA.out.mono ?_
  rintro e w1 ⟨a, cap, rfl, hcap1, hcap2, hR, hb1⟩
  have hcap3 : cap ≤ 9223372036854775807 := by unfold maxLen at hcap2; omega
  have HR := Lib.hid hR
  have HB1 := Lib.hid hb1
  have hs1 := hb1.size
  clear hR hb1 HA hcap2
  go_wp2
  go_loopw [5, 11] (fun v i wr => ∃ k : Nat, k ≤ L.length ∧ i = .int .i64 k ∧ v = .int .i64 ((L.take k).filter (okM m)).length ∧ Below w1.heap.size w1 wr) (fun _ i _ => L.length - (intOf i).toNat)
  case atStart => exact ⟨0, Nat.zero_le _, rfl, rfl, Below.refl _ _⟩
  case round =>
    obtain ⟨k, hk, rfl, rfl, hb⟩ := hrel
    have HB := Lib.hid hb
    clear hb
    have hlen : ((L.take k).filter (okM m)).length ≤ 1000000 := by
      have h1 := List.length_filter_le (okM m) (L.take k)
      rw [List.length_take] at h1
      omega
    by_cases hlt : k < L.length
    · have hp : L[k]? = some (L[k]'hlt) := List.getElem?_eq_getElem _
      obtain ⟨p, hpe⟩ : ∃ p, p = L[k]'hlt := ⟨_, rfl⟩
      rw [← hpe] at hp
      clear hpe
      obtain ⟨hpl, hpP, hpg⟩ := HF.out k p hp
      obtain ⟨b, o, rfl, ap, cp, hck, hO⟩ := (HR.out.keep HB.out).at k p hp
      have hq := rcreases_any ap cp n (zl p) wr h1 (by omega) hpg (by have := hO.ints; rw [hpl] at this; exact this)
      have HQ := Lib.hid hq
      have hst := filter_step hp (okM m)
      rw [okM_len hpl] at hst
      have HS := Lib.hid hst
      have hc1 := hO.cap.1
      have hc2 : cp ≤ 9223372036854775807 := by have := hO.cap.2; unfold maxLen at this; omega
      rw [hpl] at hck hc1
      clear hO hq hst hp hpP hpg hpl
      obtain ⟨M, hM⟩ : ∃ M, M = mts n (zl p) (n - 1) := ⟨_, rfl⟩
      rw [← hM] at HQ HS
      clear hM
      by_cases hMm : M = m
      · have HN : Hid (((L.take (k + 1)).filter (okM m)).length = ((L.take k).filter (okM m)).length + 1) := by rw [Hid, HS.out.1 (by simpa using hMm)]; simp
        have G : ((M : Int) == (m : Int)) = true := by simp [hMm]
        clear HS hMm
        generalize ((L.take k).filter (okM m)).length = c at *
        go_wp2_with fail
        refine HQ.out.mono ?_
        rintro e w3 ⟨rfl, hb3⟩
        have HB3 : Hid (Below w1.heap.size w1 w3) := HB.out.trans (hb3.mono HB.out.size)
        clear hb3
        go_wp2
        go_roundw
        case rel => exact ⟨k + 1, by omega, by go_num, by rw [HN.out]; go_num, HB3.out⟩
        case measure => simp [intOf]; omega
      · have HN : Hid ((L.take (k + 1)).filter (okM m) = (L.take k).filter (okM m)) := HS.out.2 (by simpa using hMm)
        have G : ((M : Int) == (m : Int)) = false := by simp; omega
        clear HS hMm
        go_wp2_with fail
        refine HQ.out.mono ?_
        rintro e w3 ⟨rfl, hb3⟩
        have HB3 : Hid (Below w1.heap.size w1 w3) := HB.out.trans (hb3.mono HB.out.size)
        clear hb3
        go_wp2
        go_roundw
        case rel => exact ⟨k + 1, by omega, by go_num, by rw [HN.out], HB3.out⟩
        case measure => simp [intOf]; omega
    · have e : k = L.length := by omega
      have HL : Hid ((L.take k).filter (okM m) = fpiles n m) := by rw [Hid, e, List.take_length, ← HP.out]
      rw [HL.out] at *
      have hge : (L.length : Int) ≤ k := by omega
      clear e
      go_wp2
      go_ret
      exact ⟨rfl, HB1.out.trans (HB.out.mono hs1)⟩

set_option maxHeartbeats 8000000 in
set_option maxRecDepth 100000 in
theorem rfold_any (n m : Nat) (w : World) (h1 : 1 ≤ n) (h7 : n ≤ 7) (x : List Nat) (rest : List (List Nat)) (hx : fpiles n m = x :: rest) :
    Calls Try.prog 35 #[.int .i64 n, .int .i64 m] w fun e w' => ∃ a cap, e = .returned (.slice a n cap) ∧ n ≤ cap ∧ cap ≤ maxLen ∧ Ints w' a n (zl x) ∧ Below w.heap.size w w' := by
  have HA := Lib.hid (all_nil n w h7)
  have hmax := perms_max h7
  obtain ⟨L, hL⟩ : ∃ L, L = perms n n [] := ⟨_, rfl⟩
  have HX : Hid (L.filter (fun p => okP (rowN 0 (n - 1)) p && okM m p) = x :: rest) := by rw [Hid, hL, ← hx, fpiles, piles, List.filter_filter]; exact List.filter_congr (fun p _ => Bool.and_comm _ _)
  have HF : Hid (∀ k p, L[k]? = some p → p.length = n ∧ isP n (zl p) = true ∧ goodP n (zl p) n) := fun k p h => perms_facts h1 h7 (by rw [← hL]; exact List.mem_of_getElem? h)
  rw [← hL] at HA hmax
  clear hL hx
  go_enter Try.func35, Try.ntmps35
  go_wp2_with fail
  refine HA.out.mono ?_
  rintro e w1 ⟨a, cap, rfl, hcap1, hcap2, hR, hb1⟩
  have hcap3 : cap ≤ 9223372036854775807 := by unfold maxLen at hcap2; omega
  have HR := Lib.hid hR
  have HB1 := Lib.hid hb1
  have hs1 := hb1.size
  clear hR hb1 HA hcap2
  go_wp2
  go_loopw [10] (fun i wr => ∃ k : Nat, k ≤ L.length ∧ i = .int .i64 k ∧ (L.take k).filter (fun p => okP (rowN 0 (n - 1)) p && okM m p) = [] ∧ Below w1.heap.size w1 wr) (fun i _ => L.length - (intOf i).toNat)
  case atStart => exact ⟨0, Nat.zero_le _, rfl, rfl, Below.refl _ _⟩
  case round =>
    obtain ⟨k, hk, rfl, h0, hb⟩ := hrel
    have HB := Lib.hid hb
    have H0 := Lib.hid h0
    clear hb h0
    by_cases hlt : k < L.length
    · have hp : L[k]? = some (L[k]'hlt) := List.getElem?_eq_getElem _
      obtain ⟨p, hpe⟩ : ∃ p, p = L[k]'hlt := ⟨_, rfl⟩
      rw [← hpe] at hp
      clear hpe
      obtain ⟨hpl, hpP, hpg⟩ := HF.out k p hp
      obtain ⟨b, o, rfl, ap, cp, hck, hO⟩ := (HR.out.keep HB.out).at k p hp
      have hI : Ints wr ap n (zl p) := by have := hO.ints; rw [hpl] at this; exact this
      have HI := Lib.hid hI
      have HQ := Lib.hid (rcreases_any ap cp n (zl p) wr h1 (by omega) hpg hI)
      have HQ2 : Hid (∀ w', Below wr.heap.size wr w' → Calls Try.prog 21 #[.slice ap n cp] w' fun e w'' => e = .returned (.bool (poss n (zl p))) ∧ Below w'.heap.size w' w'') := fun w' hw => rpossible_any ap cp n (zl p) w' hpP (hI.keep (Nat.le_refl _) hw)
      have hst := (filter_step hp (fun p => okP (rowN 0 (n - 1)) p && okM m p)).2
      have hfi := fun hf => filter_first hp (fun p => okP (rowN 0 (n - 1)) p && okM m p) hf H0.out HX.out
      simp only [okM_len hpl, okP_len hpl] at hst hfi
      have HS := Lib.hid hst
      have HFi := Lib.hid hfi
      have hc1 := hO.cap.1
      have hc2 : cp ≤ 9223372036854775807 := by have := hO.cap.2; unfold maxLen at this; omega
      have HC2 := Lib.hid hO.cap.2
      rw [hpl] at hck hc1
      clear hO hst hp hpP hpg hpl hfi hI
      obtain ⟨M, hM⟩ : ∃ M, M = mts n (zl p) (n - 1) := ⟨_, rfl⟩
      rw [← hM] at HQ HS HFi
      clear hM
      by_cases hMm : M = m
      · have G : ((M : Int) == (m : Int)) = true := by simp [hMm]
        have Hm := Lib.hid hMm
        clear hMm
        go_wp2_with fail
        refine HQ.out.mono ?_
        rintro e w3 ⟨rfl, hb3⟩
        have HB3 : Hid (Below w1.heap.size w1 w3) := HB.out.trans (hb3.mono HB.out.size)
        have HQ3 := Lib.hid (HQ2.out w3 hb3)
        have HI3 := Lib.hid (HI.out.keep (Nat.le_refl _) hb3)
        clear hb3
        cases hpo : poss n (zl p)
        · have HN := Lib.hid (HS.out (by rw [hpo]; rfl))
          rw [hpo] at HQ3
          clear hpo
          go_wp2_with fail
          refine HQ3.out.mono ?_
          rintro e w4 ⟨rfl, hb4⟩
          have HB4 : Hid (Below w1.heap.size w1 w4) := HB3.out.trans (hb4.mono HB3.out.size)
          clear hb4
          go_wp2
          go_roundw
          case rel => exact ⟨k + 1, by omega, by go_num, by rw [HN.out]; exact H0.out, HB4.out⟩
          case measure => simp [intOf]; omega
        · have HE : Hid (x = p) := HFi.out (by rw [hpo, Hm.out]; simp)
          rw [hpo] at HQ3
          clear hpo
          go_wp2_with fail
          refine HQ3.out.mono ?_
          rintro e w4 ⟨rfl, hb4⟩
          have HB4 : Hid (Below w1.heap.size w1 w4) := HB3.out.trans (hb4.mono HB3.out.size)
          have HI4 := Lib.hid (HI3.out.keep (Nat.le_refl _) hb4)
          clear hb4
          go_wp2
          go_ret
          exact ⟨ap, cp, rfl, by omega, HC2.out, by rw [HE.out]; exact HI4.out, HB1.out.trans (HB4.out.mono hs1)⟩
      · have HN := Lib.hid (HS.out (by have : (M == m) = false := by simpa using hMm
                                       rw [this, Bool.and_false]))
        have G : ((M : Int) == (m : Int)) = false := by simp; omega
        clear hMm
        go_wp2_with fail
        refine HQ.out.mono ?_
        rintro e w3 ⟨rfl, hb3⟩
        have HB3 : Hid (Below w1.heap.size w1 w3) := HB.out.trans (hb3.mono HB.out.size)
        clear hb3
        go_wp2
        go_roundw
        case rel => exact ⟨k + 1, by omega, by go_num, by rw [HN.out]; exact H0.out, HB3.out⟩
        case measure => simp [intOf]; omega
    · have e : k = L.length := by omega
      have h := H0.out
      rw [e, List.take_length, HX.out] at h
      cases h
end Go.Proofs.Ytmbccdjoliegiaa
