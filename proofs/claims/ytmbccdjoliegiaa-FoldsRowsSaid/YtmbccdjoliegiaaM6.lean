import Derived.Test.YtmbccdjoliegiaaMath6
import Derived.Test.YtmbccdjoliegiaaR8
namespace Go.Proofs.Ytmbccdjoliegiaa
open Go.RowKit Go.Shelf

/-- The possible piles of a map. -/
def mpiles (n : Nat) : List (List Nat) := (perms (2 * n) (2 * n) []).filter (okP (mapN n))
theorem mpiles_max {n : Nat} (hn : n ≤ 3) : (mpiles n).length ≤ 1000000 := Nat.le_trans (List.length_filter_le _ _) (perms_max (by omega))

theorem maps_bad (n : Int) (w : World) (h : n < 1 ∨ 3 < n) :
    Calls Try.prog 42 #[.int .i64 n] w fun e w' => e = .returned (.tuple #[.int .i64 0, .int .i64 2]) ∧ w = w' := by
  rcases h with h | h
  · go_enter Try.func42, Try.ntmps42
    go_wp2
    go_ret2
    exact ⟨rfl, rfl⟩
  · have h1 : ¬ n < 1 := by omega
    go_enter Try.func42, Try.ntmps42
    go_wp2
    go_ret2
    exact ⟨rfl, rfl⟩

set_option maxRecDepth 100000 in
set_option maxHeartbeats 2000000 in
theorem maps_good (n : Nat) (w : World) (h1 : 1 ≤ n) (h3 : n ≤ 3) :
    Calls Try.prog 42 #[.int .i64 n] w fun e w' => e = .returned (.tuple #[.int .i64 (mpiles n).length, .int .i64 0]) ∧ Below w.heap.size w w' := by
  have HW := Lib.hid (map_wrapper n w h1 (by omega))
  go_enter Try.func42, Try.ntmps42
  go_wp2_with fail
  refine HW.out.mono ?_
  rintro e w2 ⟨a, cap, rfl, hT, hc1, hc2, hlt, hb2⟩
  have HT := Lib.hid hT
  have HB2 := Lib.hid hb2
  have HL := Lib.hid hlt
  clear hT hb2 hlt hc1 hc2 HW
  go_wp2_with fail
  refine (piles_any _ _ _).mono ?_
  rintro e w3 ⟨rfl, rfl⟩
  have hit : Iter Try.prog 72 #[.pointer (some ⟨w2.heap.size, 0, none⟩)] Pl (Prot w2.heap.size a) (mpiles n) (w2.alloc (.cells #[.int .i64 (2 * (n : Int)), .slice a (3 * n - 2) cap] 62)) :=
    piles_iter (2 * n) (by omega) (mapN n) (3 * n - 2) (mapN_len n h1) (by omega) a cap w2.heap.size _
      (block_cell (heap_alloc_new w2 _) 0) (block_cell (heap_alloc_new w2 _) 1) (HT.out.keep (Nat.le_refl _) ((Below.refl _ _).alloc (Nat.le_refl _) _))
  have hnum := number_any 72 #[.pointer (some ⟨w2.heap.size, 0, none⟩)] (mpiles n) _ _ (enters_of Try.func72 (by kernel_rfl) rfl) hit (fun k h => by
      rcases h with rfl | ⟨g, o, s, he, rfl⟩
      · simp
      · have := (HL.out _ o s he).2; simp; omega) (mpiles_max h3)
  have HN := Lib.hid hnum
  clear hit hnum
  go_wp2_with fail
  refine HN.out.mono ?_
  rintro e w4 ⟨rfl, hb4⟩
  have HF : Hid (Below w.heap.size w w4) := by
    have h0 := HB2.out.alloc (B := w.heap.size) HB2.out.size (.cells #[.int .i64 (2 * (n : Int)), .slice a (3 * n - 2) cap] 62)
    exact h0.trans (hb4.mono (Nat.le_trans HB2.out.size (by simp)))
  clear hb4
  go_wp2
  go_ret2
  exact ⟨rfl, HF.out⟩

theorem mperms_facts {n : Nat} (h3 : n ≤ 4) {p : List Nat} (h : p ∈ perms (2 * n) (2 * n) []) : p.length = 2 * n ∧ goodP (2 * n) (zl p) (2 * n) := by
  have hl := perms_len _ _ _ h
  simp at hl
  have hnd := perms_nodup _ _ _ h (by simp) (by simp)
  exact ⟨hl, good_of_list (by omega) hl hnd.2 hnd.1⟩

set_option maxHeartbeats 8000000 in
set_option maxRecDepth 100000 in
theorem rmaps_any (n : Nat) (w : World) (h1 : 1 ≤ n) (h3 : n ≤ 3) :
    Calls Try.prog 43 #[.int .i64 n] w fun e w' => e = .returned (.int .i64 (mpiles n).length) ∧ Below w.heap.size w w' := by
  have hA := all_nil (2 * n) w (by omega)
  rw [show ((2 * n : Nat) : Int) = 2 * (n : Int) by omega] at hA
  have HA := Lib.hid hA
  have hmax := perms_max (n := 2 * n) (by omega)
  obtain ⟨L, hL⟩ : ∃ L, L = perms (2 * n) (2 * n) [] := ⟨_, rfl⟩
  have HP : Hid (mpiles n = L.filter (okP (mapN n))) := by rw [hL]; rfl
  have HF : Hid (∀ k p, L[k]? = some p → p.length = 2 * n ∧ goodP (2 * n) (zl p) (2 * n)) := fun k p h => mperms_facts (by omega) (by rw [← hL]; exact List.mem_of_getElem? h)
  rw [← hL] at HA hmax
  clear hL hA
  go_enter Try.func43, Try.ntmps43
  go_wp2_with fail
  refine HA.out.mono ?_
  rintro e w1 ⟨a, cap, rfl, hcap1, hcap2, hR, hb1⟩
  have hcap3 : cap ≤ 9223372036854775807 := by unfold maxLen at hcap2; omega
  have HR := Lib.hid hR
  have HB1 := Lib.hid hb1
  have hs1 := hb1.size
  clear hR hb1 HA hcap2
  obtain ⟨m, hm⟩ : ∃ m, m = 2 * n := ⟨_, rfl⟩
  rw [← hm] at HF
  have HM := Lib.hid hm
  have hm8 : m ≤ 8 := by omega
  clear hm
  go_wp2
  go_loopw [3, 10] (fun v i wr => ∃ k : Nat, k ≤ L.length ∧ i = .int .i64 k ∧ v = .int .i64 ((L.take k).filter (okP (mapN n))).length ∧ Below w1.heap.size w1 wr) (fun _ i _ => L.length - (intOf i).toNat)
  case atStart => exact ⟨0, Nat.zero_le _, rfl, rfl, Below.refl _ _⟩
  case round =>
    obtain ⟨k, hk, rfl, rfl, hb⟩ := hrel
    have HB := Lib.hid hb
    clear hb
    have hlen : ((L.take k).filter (okP (mapN n))).length ≤ 1000000 := by
      have h1 := List.length_filter_le (okP (mapN n)) (L.take k)
      rw [List.length_take] at h1
      omega
    by_cases hlt : k < L.length
    · have hp : L[k]? = some (L[k]'hlt) := List.getElem?_eq_getElem _
      obtain ⟨p, hpe⟩ : ∃ p, p = L[k]'hlt := ⟨_, rfl⟩
      rw [← hpe] at hp
      clear hpe
      obtain ⟨hpl, hpg⟩ := HF.out k p hp
      obtain ⟨b, o, rfl, ap, cp, hck, hO⟩ := (HR.out.keep HB.out).at k p hp
      have hq := rmap_any n ap cp m (zl p) wr h1 (by omega) HM.out hpg (by have := hO.ints; rw [hpl] at this; exact this)
      rw [map_same n m (zl p) h1 (by omega) HM.out hpg] at hq
      have HQ := Lib.hid hq
      have hst := filter_step hp (okP (mapN n))
      rw [show okP (mapN n) p = posB m (zl p) (mapN n) by unfold okP; rw [hpl]] at hst
      have HS := Lib.hid hst
      have hc1 := hO.cap.1
      have hc2 : cp ≤ 9223372036854775807 := by have := hO.cap.2; unfold maxLen at this; omega
      rw [hpl] at hck hc1
      clear hO hq hst hp hpg hpl
      cases hpo : posB m (zl p) (mapN n)
      · have HN := Lib.hid (HS.out.2 hpo)
        rw [hpo] at HQ
        clear HS hpo
        go_wp2_with fail
        refine HQ.out.mono ?_
        rintro e w3 ⟨rfl, hb3⟩
        have HB3 : Hid (Below w1.heap.size w1 w3) := HB.out.trans (hb3.mono HB.out.size)
        clear hb3
        go_wp2
        go_roundw
        case rel => exact ⟨k + 1, by omega, by go_num, by rw [HN.out], HB3.out⟩
        case measure => simp [intOf]; omega
      · have HN : Hid (((L.take (k + 1)).filter (okP (mapN n))).length = ((L.take k).filter (okP (mapN n))).length + 1) := by rw [Hid, HS.out.1 hpo]; simp
        rw [hpo] at HQ
        clear HS hpo
        generalize ((L.take k).filter (okP (mapN n))).length = c at *
        go_wp2_with fail
        refine HQ.out.mono ?_
        rintro e w3 ⟨rfl, hb3⟩
        have HB3 : Hid (Below w1.heap.size w1 w3) := HB.out.trans (hb3.mono HB.out.size)
        clear hb3
        go_wp2
        go_roundw
        case rel => exact ⟨k + 1, by omega, by go_num, by rw [HN.out]; go_num, HB3.out⟩
        case measure => simp [intOf]; omega
    · have e : k = L.length := by omega
      have HL : Hid ((L.take k).filter (okP (mapN n)) = mpiles n) := by rw [Hid, e, List.take_length, ← HP.out]
      rw [HL.out] at *
      have hge : (L.length : Int) ≤ k := by omega
      clear e
      go_wp2
      go_ret
      exact ⟨rfl, HB1.out.trans (HB.out.mono hs1)⟩
end Go.Proofs.Ytmbccdjoliegiaa
