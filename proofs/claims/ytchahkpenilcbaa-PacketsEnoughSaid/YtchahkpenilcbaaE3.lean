import Derived.Test.YtchahkpenilcbaaE2
import Derived.Test.YtchahkpenilcbaaL3
import Derived.Deep.DeepCutAuto
namespace Go.Proofs.Ytchahkpenilcbaa
open Go.RowKit Go.Shelf

set_option maxHeartbeats 8000000 in
set_option maxRecDepth 100000 in
theorem enough_bad (a : Option Addr) (n cap : Nat) (z : Nat → Int) (s p q : Int) (w : World) (h : okS n z s = false ∨ chB p q = false) (hcap : n ≤ cap) (h8 : n * 8 ≤ 140737488355328) (hz : Ints w a n z) :
    Calls Try.prog 7 #[.slice a n cap, .int .i64 s, .agg #[.int .i64 p, .int .i64 q]] w fun e w' => SomeB true w e w' := by
  have H2 : Hid (okS (min n 8) z s = false ∨ chB p q = false) := by rw [Hid, okS_cut]; exact h
  have hl := fun W (hW : Below w.heap.size w W) => list_any a cap n z W hcap h8 (hz.keep (Nat.le_refl _) hW)
  have HD := Lib.hid (fun a1 c1 W (hI : Ints W a1 (min n 8) z) => fEnough_bad a1 (min n 8) c1 z s p q W H2.out (by have := Nat.min_le_right n 8; omega) hI)
  obtain ⟨W, hW⟩ : ∃ W, W = w.alloc (.cells #[.int .i64 p, .int .i64 q] 24) := ⟨_, rfl⟩
  have hbW : Below w.heap.size w W := by rw [hW]; exact below_one _ _
  have hq : W.heap[w.heap.size]? = some (.cells #[.int .i64 p, .int .i64 q] 24) := by rw [hW]; exact heap_alloc_new w _
  have HW := Lib.hid hW
  have HB := Lib.hid hbW
  have HQ := Lib.hid hq
  have HL1 := Lib.hid (hl W.drew hbW.drew)
  have HL := Lib.hid hl
  obtain ⟨q1, q2, _, _⟩ := fr_cells hq
  have HS := Lib.hid (fun W (hW : Below w.heap.size w W) => rset_any a n cap z s W (by omega) (hz.keep (Nat.le_refl _) hW))
  have HC := Lib.hid (fun W => rchance_any p q W)
  have H3 := Lib.hid h
  clear hz h hl hW hbW hq
  go_enter Try.func7, Try.ntmps7
  go_wp2
  rw [← HW.out]
  go_cut [7, 8] (fun s7 s8 wc => s7 = .int .i64 0 ∧ s8 = .int .i64 2 ∧ wc.heap[w.heap.size]? = some (.cells #[.int .i64 p, .int .i64 q] 24) ∧ Below w.heap.size w wc)
  case first =>
    go_region_with (first
      | (go_at_call 19; refine HL1.out.mono ?_; rintro e w5 ⟨a5, c5, rfl, hO, hb5⟩; have hb5' := below_drew1 hb5; have hq5 := frAt HQ.out hb5'; obtain ⟨x1, x2, _, _⟩ := fr_cells hq5; have HQ5 := Lib.hid hq5; have HB5 := Lib.hid (band HB.out hb5'); have HI5 := Lib.hid hO.ints; clear hO hb5 hb5' hq5)
      | (go_at_call 35; refine (HD.out a5 c5 w5 HI5.out).mono ?_; rintro e w6 ⟨rfl, hb6⟩; have HQ6 := Lib.hid (frAt HQ5.out hb6); have HB6 := Lib.hid (band HB5.out hb6); clear hb6))
    all_goals
      go_wp2
      go_meet
    all_goals exact ⟨rfl, rfl, HQ6.out, HB6.out⟩
  case rest =>
    obtain ⟨rfl, rfl, hq6, hb6⟩ := hcut
    have HQ6 := Lib.hid hq6
    have HB6 := Lib.hid hb6
    obtain ⟨x1, x2, _, _⟩ := fr_cells hq6
    clear hq6 hb6 q1 q2
    cases hs : okS n z s
    · have HS2 := HS.out wc HB6.out
      rw [hs] at HS2
      have HS3 := Lib.hid HS2
      clear HS2 hs
      go_wp2_with fail
      refine HS3.out.mono ?_
      rintro e w' ⟨rfl, rfl⟩
      go_wp2_with fail
      refine (awake_any _).mono ?_
      rintro e w9 ⟨rfl, hb9⟩
      have HB9 := Lib.hid (band HB6.out hb9)
      clear hb9
      go_wp2
      go_ret
      exact ⟨rfl, HB9.out⟩
    · have hk : chB p q = false := by
        rcases H3.out with h | h
        · rw [hs] at h; cases h
        · exact h
      have HS2 := HS.out wc HB6.out
      rw [hs] at HS2
      have HS3 := Lib.hid HS2
      have HC2 := HC.out wc
      rw [hk] at HC2
      have HC3 := Lib.hid HC2
      clear HS2 hs HC2 hk
      go_wp2_with fail
      refine HS3.out.mono ?_
      rintro e w' ⟨rfl, rfl⟩
      go_wp2_with fail
      refine HC3.out.mono ?_
      rintro e w7 ⟨rfl, hb7⟩
      have HB7 := Lib.hid (band HB6.out hb7)
      clear hb7
      go_wp2_with fail
      refine (awake_any _).mono ?_
      rintro e w9 ⟨rfl, hb9⟩
      have HB9 := Lib.hid (band HB7.out hb9)
      clear hb9
      go_wp2
      go_ret
      exact ⟨rfl, HB9.out⟩

set_option maxHeartbeats 8000000 in
set_option maxRecDepth 100000 in
theorem enough_good (a : Option Addr) (n cap : Nat) (z : Nat → Int) (s : Nat) (p q : Int) (w : World) (h : okS n z s = true) (hch : chB p q = true) (hcap : n ≤ cap) (h8 : n * 8 ≤ 140737488355328) (hz : Ints w a n z) :
    Calls Try.prog 7 #[.slice a n cap, .int .i64 s, .agg #[.int .i64 p, .int .i64 q]] w fun e w' => SomeB true w e w' := by
  obtain ⟨t, ht, hs2, h1n, hn6, h9⟩ := okS_nat h
  have ht' : s = t := by omega
  subst ht'
  have hmn : min n 8 = n := by omega
  have hl := fun W (hW : Below w.heap.size w W) => list_any a cap n z W hcap h8 (hz.keep (Nat.le_refl _) hW)
  rw [hmn] at hl
  have HD : Hid (∀ a1 c1 W, Ints W a1 n z → Calls Try.prog 35 #[.slice a1 n c1, .int .i64 s, .agg #[.int .i64 p, .int .i64 q]] W fun e w' => EnOut (lsB z n s p q) W e w') := fun a1 c1 W hI => fEnough_good a1 n c1 z s p q W h hch hI
  have HS := Lib.hid (fun W (hW : Below w.heap.size w W) => rset_r true a n cap z s W h (by omega) (hz.keep (Nat.le_refl _) hW))
  have hc := fun W => rchance_any p q W
  rw [hch] at hc
  have HC := Lib.hid hc
  have HR : Hid (∀ W, Below w.heap.size w W → Calls Try.prog 37 #[.slice a n cap, .int .i64 s, .agg #[.int .i64 p, .int .i64 q]] W fun e w' => EnOut (lsB z n s p q) W e w') := fun W hW => renough_any a n cap z s p q W h hch (hz.keep (Nat.le_refl _) hW)
  obtain ⟨W, hW⟩ : ∃ W, W = w.alloc (.cells #[.int .i64 p, .int .i64 q] 24) := ⟨_, rfl⟩
  have hbW : Below w.heap.size w W := by rw [hW]; exact below_one _ _
  have hq : W.heap[w.heap.size]? = some (.cells #[.int .i64 p, .int .i64 q] 24) := by rw [hW]; exact heap_alloc_new w _
  have HW := Lib.hid hW
  have HB := Lib.hid hbW
  have HQ := Lib.hid hq
  have HL1 := Lib.hid (hl W.drew hbW.drew)
  have HL := Lib.hid hl
  obtain ⟨q1, q2, _, _⟩ := fr_cells hq
  obtain ⟨X, hX⟩ : ∃ X, X = (enR (lsB z n s p q)).1 := ⟨_, rfl⟩
  obtain ⟨F, hF⟩ : ∃ F, F = (enR (lsB z n s p q)).2 := ⟨_, rfl⟩
  unfold EnOut at HD HR
  rw [← hX, ← hF] at HD HR
  clear hX hF
  clear hz h hl hW hbW hq hch hc h9 ht hmn
  go_enter Try.func7, Try.ntmps7
  go_wp2
  rw [← HW.out]
  go_cut [7, 8] (fun s7 s8 wc => s7 = .int .i64 X ∧ s8 = .int .i64 F ∧ wc.heap[w.heap.size]? = some (.cells #[.int .i64 p, .int .i64 q] 24) ∧ Below w.heap.size w wc)
  case first =>
    go_region_with (first
      | (go_at_call 19; refine HL1.out.mono ?_; rintro e w5 ⟨a5, c5, rfl, hO, hb5⟩; have hb5' := below_drew1 hb5; have hq5 := frAt HQ.out hb5'; obtain ⟨x1, x2, _, _⟩ := fr_cells hq5; have HQ5 := Lib.hid hq5; have HB5 := Lib.hid (band HB.out hb5'); have HI5 := Lib.hid hO.ints; clear hO hb5 hb5' hq5)
      | (go_at_call 35; refine (HD.out a5 c5 w5 HI5.out).mono ?_; rintro e w6 ⟨rfl, hb6⟩; have HQ6 := Lib.hid (frAt HQ5.out hb6); have HB6 := Lib.hid (band HB5.out hb6); clear hb6))
    all_goals
      go_wp2
      go_meet
    all_goals exact ⟨rfl, rfl, HQ6.out, HB6.out⟩
  case rest =>
    obtain ⟨rfl, rfl, hq6, hb6⟩ := hcut
    have HQ6 := Lib.hid hq6
    have HB6 := Lib.hid hb6
    obtain ⟨x1, x2, _, _⟩ := fr_cells hq6
    clear hq6 hb6 q1 q2
    go_wp2_with fail
    refine (HS.out wc HB6.out).mono ?_
    rintro e w' ⟨rfl, rfl⟩
    go_wp2_with fail
    refine (HC.out wc).mono ?_
    rintro e w7 ⟨rfl, hb7⟩
    have HB7 := Lib.hid (band HB6.out hb7)
    have HQ7 := Lib.hid (frAt HQ6.out hb7)
    clear hb7 x1 x2
    obtain ⟨x1, x2, _, _⟩ := fr_cells HQ7.out
    go_wp2_with fail
    refine (HR.out w7 HB7.out).mono ?_
    rintro e w8 ⟨rfl, hb8⟩
    have HB8 := Lib.hid (band HB7.out hb8)
    clear hb8
    go_wp2_with fail
    refine (awake_any _).mono ?_
    rintro e w9 ⟨rfl, hb9⟩
    have HB9 := Lib.hid (band HB8.out hb9)
    clear hb9
    go_wp2
    go_ret
    exact ⟨rfl, HB9.out⟩

theorem enough_row (w : World) (a : Option Addr) (n cap : Nat) (z : Nat → Int) (hcap : n ≤ cap) (h8 : n * 8 ≤ 140737488355328) (hz : Ints w a n z) (s : Int) (_ : -9223372036854775808 ≤ s ∧ s ≤ 9223372036854775807) (p q : Int) :
    Calls Try.prog 7 #[.slice a n cap, .int .i64 s, .agg #[.int .i64 p, .int .i64 q]] w fun e w' => SomeB true w e w' := by
  by_cases h : okS n z s = true ∧ chB p q = true
  · have hs := (okS_iff.1 h.1).2.1
    obtain ⟨j, rfl⟩ : ∃ j : Nat, s = j := ⟨s.toNat, by omega⟩
    exact enough_good a n cap z j p q w h.1 h.2 hcap h8 hz
  · refine enough_bad a n cap z s p q w ?_ hcap h8 hz
    cases h1 : okS n z s
    · exact Or.inl rfl
    · cases h2 : chB p q
      · exact Or.inr rfl
      · exact absurd ⟨h1, h2⟩ h
end Go.Proofs.Ytchahkpenilcbaa
