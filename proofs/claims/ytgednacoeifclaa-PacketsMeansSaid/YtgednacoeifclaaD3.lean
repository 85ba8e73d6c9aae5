import Derived.Test.YtgednacoeifclaaD2
namespace Go.Proofs.Ytgednacoeifclaa
open Go.RowKit Go.Shelf

/-- A method that returns a fraction over L. -/
def QOut (X : Int) (L : Nat) (w : World) (e : Ending) (w' : World) : Prop := e = .returned (.agg #[.int .i64 (frA X L), .int .i64 (frB X L : Nat)]) ∧ Below w.heap.size w w'

theorem full_lt {n : Nat} (hn : n ≤ 6) : 2 ^ n - 1 < 2 ^ n := by have := pow_6 hn; omega

set_option maxRecDepth 100000 in
set_option maxHeartbeats 4000000 in
theorem done_any (a : Option Addr) (n cap : Nat) (z : Nat → Int) (s k : Nat) (w : World) (hs : s < 2 ^ n) (h1n : 1 ≤ n) (hn : n ≤ 6) (hz : Ints w a n z) (h9 : ∀ j, j < n → 1 ≤ z j ∧ z j ≤ 9) (hk : k ≤ 8) :
    Calls Try.prog 58 #[.slice a n cap, .int .i64 s, .int .i64 k] w fun e w' => QOut (doC z (2 ^ n - 1) s k) ((ofS z (2 ^ n - 1)).toNat ^ k) w e w' := by
  have HWo := Lib.hid (without_any a n cap z (2 ^ n - 1) k (w.alloc (.cells #[.int .i64 0, .int .i64 0] 24)) h1n hn (hz.keep (Nat.le_refl _) (below_one _ _)) h9 hk)
  have HAlt : Hid (∀ b1 b2 b3 b4 W, Below w.heap.size w W → WoAt W b1 b2 b3 b4 a n cap (2 ^ n - 1) k (((ofS z (2 ^ n - 1)).toNat ^ k : Nat) : Int) → _) := fun b1 b2 b3 b4 W hW hc => wo_alt a n cap z (2 ^ n - 1) s k b1 b2 b3 b4 W (full_lt hn) hs h1n hn (hz.keep (Nat.le_refl _) hW) h9 hk hc
  clear hz h9
  generalize doC z (2 ^ n - 1) s k = X at *
  generalize (ofS z (2 ^ n - 1)).toNat ^ k = L at *
  go_enter Try.func58, Try.ntmps58
  go_wp2_with (go_at_call 66; refine (all_any a n cap _ hn).mono ?_; rintro e w' ⟨rfl, rfl⟩)
  refine HWo.out.mono ?_
  rintro e w1 ⟨b4, rfl, hc, hb1⟩
  have HB1 : Hid (Below w.heap.size w w1) := (below_one w _).trans (hb1.mono (by simp))
  have hr1 : w1.heap[w.heap.size]? = some (.cells #[.int .i64 0, .int .i64 0] 24) := (hb1.block _ (by simp)).trans (heap_alloc_new w _)
  have HR1 := Lib.hid hr1
  have HA1 := Lib.hid (HAlt.out _ _ _ _ w1 HB1.out hc)
  have hs1 : w.heap.size < w1.heap.size := by have := hb1.size; simp at this; omega
  simp only [World.size_alloc] at HA1
  clear hb1 hr1 hc
  go_wp2_with fail
  refine HA1.out.mono ?_
  rintro e w2 ⟨rfl, hb2⟩
  obtain ⟨q1, q2, q3, q4⟩ := fr_cells ((hb2.block _ hs1).trans HR1.out)
  have HB2 : Hid (Below w.heap.size w w2) := HB1.out.trans (hb2.mono HB1.out.size)
  clear hb2
  go_wp2
  exact bodyPost_ret (v := .agg #[.int .i64 (frA X L), .int .i64 (frB X L : Nat)]) (by simp [results, Try.results58, go_sem, q1, q2]) rfl ⟨rfl, (HB2.out.setCell (by simp) _).setCell (by simp) _⟩

set_option maxRecDepth 100000 in
set_option maxHeartbeats 4000000 in
theorem exact_any (a : Option Addr) (n cap : Nat) (z : Nat → Int) (s k : Nat) (w : World) (hs : s < 2 ^ n) (h1n : 1 ≤ n) (hn : n ≤ 6) (hz : Ints w a n z) (h9 : ∀ j, j < n → 1 ≤ z j ∧ z j ≤ 9) (hk : k ≤ 8) :
    Calls Try.prog 59 #[.slice a n cap, .int .i64 s, .int .i64 k] w fun e w' => QOut (doC z s s k) ((ofS z (2 ^ n - 1)).toNat ^ k) w e w' := by
  have HWo := Lib.hid (without_any a n cap z s k (w.alloc (.cells #[.int .i64 0, .int .i64 0] 24)) h1n hn (hz.keep (Nat.le_refl _) (below_one _ _)) h9 hk)
  have HAlt : Hid (∀ b1 b2 b3 b4 W, Below w.heap.size w W → WoAt W b1 b2 b3 b4 a n cap s k (((ofS z (2 ^ n - 1)).toNat ^ k : Nat) : Int) → _) := fun b1 b2 b3 b4 W hW hc => wo_alt a n cap z s s k b1 b2 b3 b4 W hs hs h1n hn (hz.keep (Nat.le_refl _) hW) h9 hk hc
  clear hz h9
  generalize doC z s s k = X at *
  generalize (ofS z (2 ^ n - 1)).toNat ^ k = L at *
  go_enter Try.func59, Try.ntmps59
  go_wp2_with fail
  refine HWo.out.mono ?_
  rintro e w1 ⟨b4, rfl, hc, hb1⟩
  have HB1 : Hid (Below w.heap.size w w1) := (below_one w _).trans (hb1.mono (by simp))
  have hr1 : w1.heap[w.heap.size]? = some (.cells #[.int .i64 0, .int .i64 0] 24) := (hb1.block _ (by simp)).trans (heap_alloc_new w _)
  have HR1 := Lib.hid hr1
  have HA1 := Lib.hid (HAlt.out _ _ _ _ w1 HB1.out hc)
  have hs1 : w.heap.size < w1.heap.size := by have := hb1.size; simp at this; omega
  simp only [World.size_alloc] at HA1
  clear hb1 hr1 hc
  go_wp2_with fail
  refine HA1.out.mono ?_
  rintro e w2 ⟨rfl, hb2⟩
  obtain ⟨q1, q2, q3, q4⟩ := fr_cells ((hb2.block _ hs1).trans HR1.out)
  have HB2 : Hid (Below w.heap.size w w2) := HB1.out.trans (hb2.mono HB1.out.size)
  clear hb2
  go_wp2
  exact bodyPost_ret (v := .agg #[.int .i64 (frA X L), .int .i64 (frB X L : Nat)]) (by simp [results, Try.results59, go_sem, q1, q2]) rfl ⟨rfl, (HB2.out.setCell (by simp) _).setCell (by simp) _⟩

def isNumB (k : Int) : Bool := decide (0 ≤ k ∧ k ≤ 8)
theorem isNumB_iff {k : Int} : isNumB k = true ↔ 0 ≤ k ∧ k ≤ 8 := by simp [isNumB]
theorem isNumB_no {k : Int} (h : ¬ (0 ≤ k ∧ k ≤ 8)) : isNumB k = false := by simp [isNumB]; omega
theorem isNumber_any (k : Int) (w : World) : Calls Try.prog 57 #[.int .i64 k] w fun e w' => e = .returned (.bool (isNumB k)) ∧ w = w' := by
  by_cases h0 : k < 0
  · have H := Lib.hid (isNumB_no (k := k) (by omega))
    go_enter Try.func57, Try.ntmps57
    go_wp2
    go_ret
    exact ⟨by rw [H.out]; rfl, rfl⟩
  · by_cases h8 : 8 < k
    · have H := Lib.hid (isNumB_no (k := k) (by omega))
      have h0' : 0 ≤ k := by omega
      have G : decide (k ≤ 8) = false := by simp; omega
      go_enter Try.func57, Try.ntmps57
      go_wp2
      go_ret
      exact ⟨by rw [H.out]; rfl, rfl⟩
    · have H := Lib.hid (isNumB_iff.2 (show 0 ≤ k ∧ k ≤ 8 by omega))
      have h0' : 0 ≤ k := by omega
      have h8' : k ≤ 8 := by omega
      have G : decide (k ≤ 8) = true := by simpa using h8'
      go_enter Try.func57, Try.ntmps57
      go_wp2
      go_ret
      exact ⟨by rw [H.out]; rfl, rfl⟩
theorem isNumber_r (r : Bool) (k : Int) (w : World) (h : isNumB k = r) : Calls Try.prog 57 #[.int .i64 k] w fun e w' => e = .returned (.bool r) ∧ w = w' := by rw [← h]; exact isNumber_any k w
end Go.Proofs.Ytgednacoeifclaa
