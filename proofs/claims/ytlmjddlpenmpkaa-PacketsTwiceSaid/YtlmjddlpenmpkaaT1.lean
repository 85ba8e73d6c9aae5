import Derived.Test.YtlmjddlpenmpkaaF1
namespace Go.Proofs.Ytlmjddlpenmpkaa
open Go.RowKit Go.Shelf

set_option maxRecDepth 100000 in
set_option maxHeartbeats 2000000 in
theorem fPairs_bad (a : Option Addr) (n cap : Nat) (z : Nat → Int) (s : Int) (w : World) (h : okS n z s = false ∨ 3 < n) (hn : n ≤ 140737488351232) (hz : Ints w a n z) :
    Calls Try.prog 38 #[.slice a n cap, .int .i64 s] w fun e w' => BadOut w e w' := by
  have hi := ints_one (w.alloc (.cells #[.int .i64 0, .int .i64 0] 24)) s
  rw [World.size_alloc] at hi
  cases hv : okS n z s
  · have HV : Hid (Calls Try.prog 48 #[.slice a n cap, .slice (some ⟨w.heap.size + 1, 0, none⟩) 1 1] ((w.alloc (.cells #[.int .i64 0, .int .i64 0] 24)).alloc (.cells #[.int .i64 s] 3)) fun e w' => e = .returned (.bool false) ∧ ((w.alloc (.cells #[.int .i64 0, .int .i64 0] 24)).alloc (.cells #[.int .i64 s] 3)) = w') :=
      valid_r false a n cap z _ 1 1 (fun _ => s) _ hv hn (by omega) (hz.keep (Nat.le_refl _) (below_two _ _ _)) hi
    clear h hz hv hi
    go_enter Try.func38, Try.ntmps38
    go_wp2_with (go_at_call 48; refine HV.out.mono ?_; rintro e w' ⟨rfl, rfl⟩)
    exact bodyPost_ret (v := .tuple #[.agg #[.int .i64 0, .int .i64 0], .int .i64 2]) (by simp [results, Try.results38, go_sem]) rfl ⟨rfl, below_two w _ _⟩
  · have h3 : 3 < n := by
      rcases h with h | h
      · rw [hv] at h; cases h
      · exact h
    have HV : Hid (Calls Try.prog 48 #[.slice a n cap, .slice (some ⟨w.heap.size + 1, 0, none⟩) 1 1] ((w.alloc (.cells #[.int .i64 0, .int .i64 0] 24)).alloc (.cells #[.int .i64 s] 3)) fun e w' => e = .returned (.bool true) ∧ ((w.alloc (.cells #[.int .i64 0, .int .i64 0] 24)).alloc (.cells #[.int .i64 s] 3)) = w') :=
      valid_r true a n cap z _ 1 1 (fun _ => s) _ hv hn (by omega) (hz.keep (Nat.le_refl _) (below_two _ _ _)) hi
    have G : decide ((3 : Int) < (n : Int)) = true := by simp; omega
    have h3' : (3 : Int) < (n : Int) := by omega
    clear h hz hv hi
    go_enter Try.func38, Try.ntmps38
    go_wp2_with (go_at_call 48; refine HV.out.mono ?_; rintro e w' ⟨rfl, rfl⟩)
    exact bodyPost_ret (v := .tuple #[.agg #[.int .i64 0, .int .i64 0], .int .i64 2]) (by simp [results, Try.results38, go_sem]) rfl ⟨rfl, below_two w _ _⟩

set_option maxRecDepth 100000 in
set_option maxHeartbeats 2000000 in
theorem fPairs_good (a : Option Addr) (n cap : Nat) (z : Nat → Int) (s L : Nat) (w : World) (h : okS n z s = true) (h3 : n ≤ 3) (hz : Ints w a n z) (hk : MeanOk n z (2 ^ n - 1) s L) :
    Calls Try.prog 38 #[.slice a n cap, .int .i64 s] w fun e w' => FrOut (waitC z (2 ^ n - 1) s L * ofS z (2 ^ n - 1)) L w e w' := by
  have hh := okS_iff.1 h
  have hs2 : s < 2 ^ n := by
    have e : (2 : Int) ^ n = ((2 ^ n : Nat) : Int) := by simp
    have := hh.2.2
    rw [e] at this; omega
  have HV : Hid (Calls Try.prog 48 #[.slice a n cap, .slice (some ⟨w.heap.size + 1, 0, none⟩) 1 1] ((w.alloc (.cells #[.int .i64 0, .int .i64 0] 24)).alloc (.cells #[.int .i64 s] 3)) fun e w' => e = .returned (.bool true) ∧ ((w.alloc (.cells #[.int .i64 0, .int .i64 0] 24)).alloc (.cells #[.int .i64 s] 3)) = w') := by
    have hi := ints_one (w.alloc (.cells #[.int .i64 0, .int .i64 0] 24)) s
    rw [World.size_alloc] at hi
    exact valid_r true a n cap z _ 1 1 (fun _ => (s : Int)) _ h (by omega) (by omega) (hz.keep (Nat.le_refl _) (below_two _ _ _)) hi
  have hp0 : 2 ^ n - 1 < 2 ^ n := by have : 0 < 2 ^ n := Nat.pow_pos (by decide); omega
  have HM := Lib.hid (mean_any a n cap z (2 ^ n - 1) s L ((w.alloc (.cells #[.int .i64 0, .int .i64 0] 24)).alloc (.cells #[.int .i64 s] 3)) hp0 hs2 hh.1.1 hh.1.2.1 (hz.keep (Nat.le_refl _) (below_two _ _ _)) hh.1.2.2 hk)
  have HA := Lib.hid (fun W => all_any a n cap W (by omega : n ≤ 6))
  have G : decide ((3 : Int) < (n : Int)) = false := by simp; omega
  have h3' : ¬ (3 : Int) < (n : Int) := by omega
  clear h hz hk hh hs2 hp0
  generalize waitC z (2 ^ n - 1) s L * ofS z (2 ^ n - 1) = X at *
  go_enter Try.func38, Try.ntmps38
  go_wp2_with (first | (go_at_call 48; refine HV.out.mono ?_; rintro e w' ⟨rfl, rfl⟩) | (go_at_call 66; refine (HA.out _).mono ?_; rintro e w' ⟨rfl, rfl⟩))
  refine HM.out.mono ?_
  rintro e w4 ⟨rfl, hb4⟩
  obtain ⟨q1, q2, q3, q4⟩ := fr_cells ((hb4.block w.heap.size (by simp; omega)).trans (heap_two1 w _ _))
  have HB4 : Hid (Below w.heap.size w w4) := (below_two w _ _).trans (hb4.mono (by simp; omega))
  clear hb4
  go_wp2
  exact bodyPost_ret (v := .tuple #[.agg #[.int .i64 (frA X L), .int .i64 (frB X L : Nat)], .int .i64 0]) (by simp [results, Try.results38, go_sem, q1, q2, q3, q4]) rfl ⟨rfl, (HB4.out.setCell (by simp) _).setCell (by simp) _⟩
end Go.Proofs.Ytlmjddlpenmpkaa
