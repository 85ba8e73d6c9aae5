import Derived.Test.YtgednacoeifclaaM4
import Derived.Test.YtgednacoeifclaaA2
namespace Go.Proofs.Ytgednacoeifclaa
open Go.RowKit Go.Shelf

/-- One set is valid. -/
def okS (n : Nat) (z : Nat → Int) (s : Int) : Bool := validB n z 1 (fun _ => s)
theorem okS_iff {n : Nat} {z : Nat → Int} {s : Int} : okS n z s = true ↔ (1 ≤ n ∧ n ≤ 6 ∧ ∀ j, j < n → 1 ≤ z j ∧ z j ≤ 9) ∧ 0 ≤ s ∧ s < 2 ^ n := by
  unfold okS
  rw [validB_iff]
  exact ⟨fun h => ⟨h.1, h.2 0 (by omega)⟩, fun h => ⟨h.1, fun j _ => h.2⟩⟩

theorem ints_one (w : World) (x : Int) : Ints (w.alloc (.cells #[.int .i64 x] 3)) (some ⟨w.heap.size, 0, none⟩) 1 (fun _ => x) := by
  intro j hj
  have : j = 0 := by omega
  subst this
  exact ⟨w.heap.size, 0, rfl, block_cell (heap_alloc_new w _) 0⟩

theorem valid_r (r : Bool) (a : Option Addr) (n cap : Nat) (z : Nat → Int) (s : Option Addr) (m scap : Nat) (S : Nat → Int) (w : World) (hr : validB n z m S = r) (hn : n ≤ 140737488351232) (hm : m ≤ 1000) (hz : Ints w a n z) (hS : Ints w s m S) :
    Calls Try.prog 48 #[.slice a n cap, .slice s m scap] w fun e w' => e = .returned (.bool r) ∧ w = w' := by
  rw [← hr]; exact valid_any a n cap z s m scap S w hn hm hz hS

set_option maxRecDepth 100000 in
set_option maxHeartbeats 2000000 in
theorem fMean_bad (a : Option Addr) (n cap : Nat) (z : Nat → Int) (s : Int) (w : World) (h : okS n z s = false) (hn : n ≤ 140737488351232) (hz : Ints w a n z) :
    Calls Try.prog 18 #[.slice a n cap, .int .i64 s] w fun e w' => e = .returned (.tuple #[.agg #[.int .i64 0, .int .i64 0], .int .i64 2]) ∧ Below w.heap.size w w' := by
  have HV : Hid (Calls Try.prog 48 #[.slice a n cap, .slice (some ⟨w.heap.size + 1, 0, none⟩) 1 1] ((w.alloc (.cells #[.int .i64 0, .int .i64 0] 24)).alloc (.cells #[.int .i64 s] 3)) fun e w' => e = .returned (.bool false) ∧ ((w.alloc (.cells #[.int .i64 0, .int .i64 0] 24)).alloc (.cells #[.int .i64 s] 3)) = w') := by
    have hi := ints_one (w.alloc (.cells #[.int .i64 0, .int .i64 0] 24)) s
    rw [World.size_alloc] at hi
    exact valid_r false a n cap z _ 1 1 (fun _ => s) _ h hn (by omega) (hz.keep (Nat.le_refl _) (below_two _ _ _)) hi
  clear h hz
  go_enter Try.func18, Try.ntmps18
  go_wp2_with (go_at_call 48; refine HV.out.mono ?_; rintro e w' ⟨rfl, rfl⟩)
  exact bodyPost_ret (v := .tuple #[.agg #[.int .i64 0, .int .i64 0], .int .i64 2]) (by simp [results, Try.results18, go_sem]) rfl ⟨rfl, below_two w _ _⟩

/-- A call that returns a fraction over L and no error. -/
def FrOut (X : Int) (L : Nat) (w : World) (e : Ending) (w' : World) : Prop := e = .returned (.tuple #[.agg #[.int .i64 (frA X L), .int .i64 (frB X L : Nat)], .int .i64 0]) ∧ Below w.heap.size w w'
/-- A call that returns no fraction, and ErrArg. -/
def BadOut (w : World) (e : Ending) (w' : World) : Prop := e = .returned (.tuple #[.agg #[.int .i64 0, .int .i64 0], .int .i64 2]) ∧ Below w.heap.size w w'

set_option maxRecDepth 100000 in
set_option maxHeartbeats 2000000 in
theorem fMean_good (a : Option Addr) (n cap : Nat) (z : Nat → Int) (s L : Nat) (w : World) (h : okS n z s = true) (hn : n ≤ 140737488351232) (hz : Ints w a n z) (hk : MeanOk n z s 0 L) :
    Calls Try.prog 18 #[.slice a n cap, .int .i64 s] w fun e w' => FrOut (waitC z s 0 L * ofS z (2 ^ n - 1)) L w e w' := by
  have hh := okS_iff.1 h
  have hs2 : s < 2 ^ n := by
    have e : (2 : Int) ^ n = ((2 ^ n : Nat) : Int) := by simp
    have := hh.2.2
    rw [e] at this; omega
  have HV : Hid (Calls Try.prog 48 #[.slice a n cap, .slice (some ⟨w.heap.size + 1, 0, none⟩) 1 1] ((w.alloc (.cells #[.int .i64 0, .int .i64 0] 24)).alloc (.cells #[.int .i64 s] 3)) fun e w' => e = .returned (.bool true) ∧ ((w.alloc (.cells #[.int .i64 0, .int .i64 0] 24)).alloc (.cells #[.int .i64 s] 3)) = w') := by
    have hi := ints_one (w.alloc (.cells #[.int .i64 0, .int .i64 0] 24)) s
    rw [World.size_alloc] at hi
    exact valid_r true a n cap z _ 1 1 (fun _ => (s : Int)) _ h hn (by omega) (hz.keep (Nat.le_refl _) (below_two _ _ _)) hi
  have hp0 : 0 < 2 ^ n := Nat.pow_pos (by decide)
  have HM := Lib.hid (mean_any a n cap z s 0 L ((w.alloc (.cells #[.int .i64 0, .int .i64 0] 24)).alloc (.cells #[.int .i64 s] 3)) hs2 hp0 hh.1.1 hh.1.2.1 (hz.keep (Nat.le_refl _) (below_two _ _ _)) hh.1.2.2 hk)
  clear h hz hk hh hs2 hp0
  generalize waitC z s 0 L * ofS z (2 ^ n - 1) = X at *
  go_enter Try.func18, Try.ntmps18
  go_wp2_with (go_at_call 48; refine HV.out.mono ?_; rintro e w' ⟨rfl, rfl⟩)
  refine HM.out.mono ?_
  rintro e w4 ⟨rfl, hb4⟩
  obtain ⟨q1, q2, q3, q4⟩ := fr_cells ((hb4.block w.heap.size (by simp; omega)).trans (heap_two1 w _ _))
  have HB4 : Hid (Below w.heap.size w w4) := (below_two w _ _).trans (hb4.mono (by simp; omega))
  clear hb4
  go_wp2
  exact bodyPost_ret (v := .tuple #[.agg #[.int .i64 (frA X L), .int .i64 (frB X L : Nat)], .int .i64 0]) (by simp [results, Try.results18, go_sem, q1, q2]) rfl ⟨rfl, (HB4.out.setCell (by simp) _).setCell (by simp) _⟩

/-- The kinds of two equal weights. -/
theorem awakeOk : MeanOk 2 (fun _ => 1) 3 0 2 where
  L1 := by decide
  LM := by decide
  dv := by unfold StOk; decide +kernel
  ab := by decide +kernel
  fin := by decide +kernel

set_option maxRecDepth 100000 in
set_option maxHeartbeats 2000000 in
theorem awake_any (w : World) :
    Calls Try.prog 23 #[] w fun e w' => e = .returned (.bool true) ∧ Below w.heap.size w w' := by
  have hi : Ints (w.alloc (.cells #[.int .i64 1, .int .i64 1] 3)) (some ⟨w.heap.size, 0, none⟩) 2 (fun _ => 1) := by
    intro j hj
    have h : j = 0 ∨ j = 1 := by omega
    rcases h with rfl | rfl
    · exact ⟨w.heap.size, 0, rfl, block_cell (heap_alloc_new w _) 0⟩
    · exact ⟨w.heap.size, 0, rfl, block_cell (heap_alloc_new w _) 1⟩
  have hm := fMean_good (some ⟨w.heap.size, 0, none⟩) 2 2 (fun _ => 1) 3 2 _ (by decide +kernel) (by omega) hi awakeOk
  have e1 : frA (waitC (fun _ => 1) 3 0 2 * ofS (fun _ => 1) (2 ^ 2 - 1)) 2 = 3 := by decide +kernel
  have e2 : frB (waitC (fun _ => 1) 3 0 2 * ofS (fun _ => 1) (2 ^ 2 - 1)) 2 = 1 := by decide +kernel
  unfold FrOut at hm
  rw [e1, e2] at hm
  have HM := Lib.hid hm
  clear hm e1 e2 hi
  go_enter Try.func23, Try.ntmps23
  go_wp2_with (go_at_call 18; refine HM.out.mono ?_; rintro e w4 ⟨rfl, hb4⟩; have HB4 : Hid (Below w.heap.size w w4) := (below_one w _).trans (hb4.mono (by simp)); clear hb4)
  go_ret
  exact ⟨rfl, HB4.out.alloc HB4.out.size _⟩
end Go.Proofs.Ytgednacoeifclaa
