import Derived.Test.YtgednacoeifclaaD3
namespace Go.Proofs.Ytgednacoeifclaa
open Go.RowKit Go.Shelf

theorem okS_nat {n : Nat} {z : Nat → Int} {s : Int} (h : okS n z s = true) : ∃ t : Nat, s = t ∧ t < 2 ^ n ∧ 1 ≤ n ∧ n ≤ 6 ∧ ∀ j, j < n → 1 ≤ z j ∧ z j ≤ 9 := by
  have hh := okS_iff.1 h
  refine ⟨s.toNat, by omega, ?_, hh.1⟩
  have e : (2 : Int) ^ n = ((2 ^ n : Nat) : Int) := by simp
  have := hh.2.2
  rw [e] at this; omega

/-- 'valid' with one set, at the head of a function of the package. -/
theorem valid_one (r : Bool) (a : Option Addr) (n cap : Nat) (z : Nat → Int) (s : Int) (w : World) (h : okS n z s = r) (hn : n ≤ 140737488351232) (hz : Ints w a n z) :
    Calls Try.prog 48 #[.slice a n cap, .slice (some ⟨w.heap.size + 1, 0, none⟩) 1 1] ((w.alloc (.cells #[.int .i64 0, .int .i64 0] 24)).alloc (.cells #[.int .i64 s] 3)) fun e w' => e = .returned (.bool r) ∧ ((w.alloc (.cells #[.int .i64 0, .int .i64 0] 24)).alloc (.cells #[.int .i64 s] 3)) = w' := by
  have hi := ints_one (w.alloc (.cells #[.int .i64 0, .int .i64 0] 24)) s
  rw [World.size_alloc] at hi
  exact valid_r r a n cap z _ 1 1 (fun _ => s) _ h hn (by omega) (hz.keep (Nat.le_refl _) (below_two _ _ _)) hi

set_option maxRecDepth 100000 in
set_option maxHeartbeats 2000000 in
theorem fDone_bad (a : Option Addr) (n cap : Nat) (z : Nat → Int) (s k : Int) (w : World) (h : okS n z s = false ∨ isNumB k = false) (hn : n ≤ 140737488351232) (hz : Ints w a n z) :
    Calls Try.prog 26 #[.slice a n cap, .int .i64 s, .int .i64 k] w fun e w' => BadOut w e w' := by
  cases hv : okS n z s
  · have HV := Lib.hid (valid_one false a n cap z s w hv hn hz)
    clear h hz hv
    go_enter Try.func26, Try.ntmps26
    go_wp2_with (go_at_call 48; refine HV.out.mono ?_; rintro e w' ⟨rfl, rfl⟩)
    exact bodyPost_ret (v := .tuple #[.agg #[.int .i64 0, .int .i64 0], .int .i64 2]) (by simp [results, Try.results26, go_sem]) rfl ⟨rfl, below_two w _ _⟩
  · have hk : isNumB k = false := by
      rcases h with h | h
      · rw [hv] at h; cases h
      · exact h
    have HV := Lib.hid (valid_one true a n cap z s w hv hn hz)
    have HK := Lib.hid hk
    clear h hz hv hk
    go_enter Try.func26, Try.ntmps26
    go_wp2_with (first | (go_at_call 48; refine HV.out.mono ?_; rintro e w' ⟨rfl, rfl⟩) | (go_at_call 57; refine (isNumber_r false _ _ HK.out).mono ?_; rintro e w' ⟨rfl, rfl⟩))
    exact bodyPost_ret (v := .tuple #[.agg #[.int .i64 0, .int .i64 0], .int .i64 2]) (by simp [results, Try.results26, go_sem]) rfl ⟨rfl, below_two w _ _⟩

set_option maxRecDepth 100000 in
set_option maxHeartbeats 2000000 in
theorem fDone_good (a : Option Addr) (n cap : Nat) (z : Nat → Int) (s k : Nat) (w : World) (h : okS n z s = true) (hk : k ≤ 8) (hn : n ≤ 140737488351232) (hz : Ints w a n z) :
    Calls Try.prog 26 #[.slice a n cap, .int .i64 s, .int .i64 k] w fun e w' => FrOut (doC z (2 ^ n - 1) s k) ((ofS z (2 ^ n - 1)).toNat ^ k) w e w' := by
  have HV := Lib.hid (valid_one true a n cap z s w h hn hz)
  obtain ⟨t, ht, hs, h1n, hn6, h9⟩ := okS_nat h
  have ht' : s = t := by omega
  subst ht'
  have HK : Hid (isNumB (k : Int) = true) := isNumB_iff.2 (by omega)
  have HM := Lib.hid (done_any a n cap z s k ((w.alloc (.cells #[.int .i64 0, .int .i64 0] 24)).alloc (.cells #[.int .i64 s] 3)) hs h1n hn6 (hz.keep (Nat.le_refl _) (below_two _ _ _)) h9 hk)
  clear h hz ht hs h9
  generalize doC z (2 ^ n - 1) s k = X at *
  generalize (ofS z (2 ^ n - 1)).toNat ^ k = L at *
  go_enter Try.func26, Try.ntmps26
  go_wp2_with (first | (go_at_call 48; refine HV.out.mono ?_; rintro e w' ⟨rfl, rfl⟩) | (go_at_call 57; refine (isNumber_r true _ _ HK.out).mono ?_; rintro e w' ⟨rfl, rfl⟩))
  refine HM.out.mono ?_
  rintro e w4 ⟨rfl, hb4⟩
  obtain ⟨q1, q2, q3, q4⟩ := fr_cells ((hb4.block w.heap.size (by simp; omega)).trans (heap_two1 w _ _))
  have HB4 : Hid (Below w.heap.size w w4) := (below_two w _ _).trans (hb4.mono (by simp; omega))
  clear hb4
  go_wp2
  exact bodyPost_ret (v := .tuple #[.agg #[.int .i64 (frA X L), .int .i64 (frB X L : Nat)], .int .i64 0]) (by simp [results, Try.results26, go_sem, q1, q2]) rfl ⟨rfl, (HB4.out.setCell (by simp) _).setCell (by simp) _⟩

set_option maxRecDepth 100000 in
set_option maxHeartbeats 2000000 in
theorem fExact_bad (a : Option Addr) (n cap : Nat) (z : Nat → Int) (s k : Int) (w : World) (h : okS n z s = false ∨ isNumB k = false) (hn : n ≤ 140737488351232) (hz : Ints w a n z) :
    Calls Try.prog 27 #[.slice a n cap, .int .i64 s, .int .i64 k] w fun e w' => BadOut w e w' := by
  cases hv : okS n z s
  · have HV := Lib.hid (valid_one false a n cap z s w hv hn hz)
    clear h hz hv
    go_enter Try.func27, Try.ntmps27
    go_wp2_with (go_at_call 48; refine HV.out.mono ?_; rintro e w' ⟨rfl, rfl⟩)
    exact bodyPost_ret (v := .tuple #[.agg #[.int .i64 0, .int .i64 0], .int .i64 2]) (by simp [results, Try.results27, go_sem]) rfl ⟨rfl, below_two w _ _⟩
  · have hk : isNumB k = false := by
      rcases h with h | h
      · rw [hv] at h; cases h
      · exact h
    have HV := Lib.hid (valid_one true a n cap z s w hv hn hz)
    have HK := Lib.hid hk
    clear h hz hv hk
    go_enter Try.func27, Try.ntmps27
    go_wp2_with (first | (go_at_call 48; refine HV.out.mono ?_; rintro e w' ⟨rfl, rfl⟩) | (go_at_call 57; refine (isNumber_r false _ _ HK.out).mono ?_; rintro e w' ⟨rfl, rfl⟩))
    exact bodyPost_ret (v := .tuple #[.agg #[.int .i64 0, .int .i64 0], .int .i64 2]) (by simp [results, Try.results27, go_sem]) rfl ⟨rfl, below_two w _ _⟩

set_option maxRecDepth 100000 in
set_option maxHeartbeats 2000000 in
theorem fExact_good (a : Option Addr) (n cap : Nat) (z : Nat → Int) (s k : Nat) (w : World) (h : okS n z s = true) (hk : k ≤ 8) (hn : n ≤ 140737488351232) (hz : Ints w a n z) :
    Calls Try.prog 27 #[.slice a n cap, .int .i64 s, .int .i64 k] w fun e w' => FrOut (doC z s s k) ((ofS z (2 ^ n - 1)).toNat ^ k) w e w' := by
  have HV := Lib.hid (valid_one true a n cap z s w h hn hz)
  obtain ⟨t, ht, hs, h1n, hn6, h9⟩ := okS_nat h
  have ht' : s = t := by omega
  subst ht'
  have HK : Hid (isNumB (k : Int) = true) := isNumB_iff.2 (by omega)
  have HM := Lib.hid (exact_any a n cap z s k ((w.alloc (.cells #[.int .i64 0, .int .i64 0] 24)).alloc (.cells #[.int .i64 s] 3)) hs h1n hn6 (hz.keep (Nat.le_refl _) (below_two _ _ _)) h9 hk)
  clear h hz ht hs h9
  generalize doC z s s k = X at *
  generalize (ofS z (2 ^ n - 1)).toNat ^ k = L at *
  go_enter Try.func27, Try.ntmps27
  go_wp2_with (first | (go_at_call 48; refine HV.out.mono ?_; rintro e w' ⟨rfl, rfl⟩) | (go_at_call 57; refine (isNumber_r true _ _ HK.out).mono ?_; rintro e w' ⟨rfl, rfl⟩))
  refine HM.out.mono ?_
  rintro e w4 ⟨rfl, hb4⟩
  obtain ⟨q1, q2, q3, q4⟩ := fr_cells ((hb4.block w.heap.size (by simp; omega)).trans (heap_two1 w _ _))
  have HB4 : Hid (Below w.heap.size w w4) := (below_two w _ _).trans (hb4.mono (by simp; omega))
  clear hb4
  go_wp2
  exact bodyPost_ret (v := .tuple #[.agg #[.int .i64 (frA X L), .int .i64 (frB X L : Nat)], .int .i64 0]) (by simp [results, Try.results27, go_sem, q1, q2]) rfl ⟨rfl, (HB4.out.setCell (by simp) _).setCell (by simp) _⟩
end Go.Proofs.Ytgednacoeifclaa
