import Derived.Test.YtmbccdjoliegiaaR5
import Derived.Test.YtmbccdjoliegiaaG3
namespace Go.Proofs.Ytmbccdjoliegiaa
open Go.RowKit

set_option maxHeartbeats 2000000 in
set_option maxRecDepth 100000 in
theorem rcross2_any (a : Option Addr) (cap n : Nat) (z : Nat → Int) (w : World) (hP : isP n z = true) (hc : Ints w a n z) :
    Calls Try.prog 20 #[.slice a n cap] w fun e w' => ∃ p q r e0, e = .returned (.tuple #[.agg #[.int .i64 p, .int .i64 q], .int .i64 e0]) ∧ FindP n z p q r ∧ e0 = (if r then 0 else 4) ∧ Below w.heap.size w w' := by
  have hb0 : Below w.heap.size w (w.alloc (.cells #[.int .i64 0, .int .i64 0] 27)) := (Below.refl _ _).alloc (Nat.le_refl _) _
  obtain ⟨R, h1, h2⟩ := rsearch a cap n z (w.alloc (.cells #[.int .i64 0, .int .i64 0] 27)) hP (hc.keep (Nat.le_refl _) hb0)
  have H1 := Lib.hid h1
  have H2 := Lib.hid h2
  have HB0 := Lib.hid hb0
  clear h1 h2 hP hc hb0
  go_enter Try.func20, Try.ntmps20
  go_wp2_with fail
  refine H1.out.mono ?_
  rintro e w2 ⟨v, rfl, hR, hb2⟩
  have H3 := Lib.hid (H2.out v w2 hR hb2)
  have hblk : w2.heap[w.heap.size]? = some (.cells #[.int .i64 0, .int .i64 0] 27) := (hb2.block _ (by simp)).trans (heap_alloc_new _ _)
  have HK := Lib.hid hblk
  have HB2 : Hid (Below w.heap.size w w2) := HB0.out.trans (hb2.mono (by simp))
  clear hR hb2 hblk
  go_wp2_with fail
  refine H3.out.mono ?_
  rintro e w3 ⟨p, q, r, rfl, hf, hb3⟩
  have hblk : w3.heap[w.heap.size]? = some (.cells #[.int .i64 0, .int .i64 0] 27) := (hb3.block _ (Array.getElem?_eq_some_iff.1 HK.out).1).trans HK.out
  have hlt := (Array.getElem?_eq_some_iff.1 hblk).1
  have c0 := block_cell hblk 0
  have c1 := block_cell hblk 1
  have f0 := block_free hblk 0
  have f1 := block_free hblk 1
  simp at c0 c1
  have HB3 : Hid (Below w.heap.size w w3) := HB2.out.trans (hb3.mono HB2.out.size)
  have HFD := Lib.hid hf
  clear hf hb3 hblk HK HB0 HB2
  have HF2 : Hid (∀ x y, Below w.heap.size w (((w3.setCell ⟨w.heap.size, 0, none⟩ x).setCell ⟨w.heap.size, 1, none⟩ y).alloc (.cells #[.int .i64 p, .int .i64 q] 27))) := fun x y => ((HB3.out.setCell (Nat.le_refl _) _).setCell (Nat.le_refl _) _).alloc (by simpa using HB3.out.size) _
  cases r
  · go_wp2
    exact bodyPost_ret (v := .tuple #[.agg #[.int .i64 0, .int .i64 0], .int .i64 4]) (by simp [results, Try.results20, go_sem, c0, c1, hlt]) rfl ⟨p, q, false, 4, by rcases HFD.out with ⟨h, _⟩ | ⟨_, rfl, rfl, _⟩; (cases h); rfl, HFD.out, rfl, HF2.out _ _⟩
  · go_wp2
    exact bodyPost_ret (v := .tuple #[.agg #[.int .i64 p, .int .i64 q], .int .i64 0]) (by simp [results, Try.results20, go_sem, c0, c1, hlt]) rfl ⟨p, q, true, 0, rfl, HFD.out, rfl, HF2.out _ _⟩

theorem possible_bad (a : Option Addr) (cap n : Nat) (z : Nat → Int) (w : World) (hP : isP n z = false) (hs : n ≤ 140737488351232) (hc : Ints w a n z) :
    Calls Try.prog 15 #[.slice a n cap] w fun e w' => e = .returned (.tuple #[.bool false, .int .i64 2]) ∧ Below w.heap.size w w' := by
  have HP := Lib.hid hP
  clear hP
  go_enter Try.func15, Try.ntmps15
  go_wp2_with (go_at_call 48; refine (isPileOf_r false _ _ _ _ _ HP.out hs hc).mono ?_; rintro e w' ⟨rfl, rfl⟩)
  go_ret2
  exact ⟨rfl, Below.refl _ _⟩

set_option maxHeartbeats 2000000 in
set_option maxRecDepth 100000 in
theorem possible_good (a : Option Addr) (cap n : Nat) (z : Nat → Int) (w : World) (hP : isP n z = true) (hc : Ints w a n z) :
    Calls Try.prog 15 #[.slice a n cap] w fun e w' => e = .returned (.tuple #[.bool (poss n z), .int .i64 0]) ∧ Below w.heap.size w w' := by
  have hp := isP_iff.1 hP
  have h1 := hp.1
  have h7 := hp.2.1
  have HP := Lib.hid hP
  have HC := Lib.hid hc
  clear hp hP
  go_enter Try.func15, Try.ntmps15
  go_wp2_with (go_at_call 48; refine (isPileOf_r true _ _ _ _ _ HP.out (by omega) hc).mono ?_; rintro e w' ⟨rfl, rfl⟩; clear hc)
  refine (strip_any n _ (by omega) h1).mono ?_
  rintro e w2 ⟨ca, cc, rfl, hT, hc1, hc2, hlt, hb2⟩
  have H3 := Lib.hid (possible_any n ca (n - 1) cc (rowN 0 (n - 1)) a cap n z w2 (by omega) (by omega) (rowN_len _ _) hT (HC.out.keep (Nat.le_refl _) hb2))
  have HB2 := Lib.hid hb2
  clear hT hb2 hc1 hc2 hlt
  go_wp2_with fail
  refine H3.out.mono ?_
  rintro e w3 ⟨rfl, hb3⟩
  have HB3 : Hid (Below w.heap.size w w3) := HB2.out.trans (hb3.mono HB2.out.size)
  clear hb3
  go_wp2
  go_ret2
  exact ⟨rfl, HB3.out⟩

set_option maxHeartbeats 2000000 in
set_option maxRecDepth 100000 in
theorem cross_bad (a : Option Addr) (cap n : Nat) (z : Nat → Int) (w : World) (hP : isP n z = false) (hs : n ≤ 140737488351232) (hc : Ints w a n z) :
    Calls Try.prog 17 #[.slice a n cap] w fun e w' => e = .returned (.tuple #[.agg #[.int .i64 0, .int .i64 0], .int .i64 2]) ∧ Below w.heap.size w w' := by
  have hb0 : Below w.heap.size w (w.alloc (.cells #[.int .i64 0, .int .i64 0] 27)) := (Below.refl _ _).alloc (Nat.le_refl _) _
  have hc' := hc.keep (Nat.le_refl _) hb0
  have HP := Lib.hid hP
  have HB0 := Lib.hid hb0
  have hblk := heap_alloc_new w (.cells #[.int .i64 0, .int .i64 0] 27)
  clear hP hc hb0
  have HF2 : Hid (∀ x y, Below w.heap.size w (((w.alloc (.cells #[.int .i64 0, .int .i64 0] 27)).setCell ⟨w.heap.size, 0, none⟩ x).setCell ⟨w.heap.size, 1, none⟩ y)) := fun x y => (HB0.out.setCell (Nat.le_refl _) _).setCell (Nat.le_refl _) _
  go_enter Try.func17, Try.ntmps17
  go_wp2_with (go_at_call 48; refine (isPileOf_r false _ _ _ _ _ HP.out hs hc').mono ?_; rintro e w' ⟨rfl, rfl⟩)
  first
    | exact bodyPost_ret (v := .tuple #[.agg #[.int .i64 0, .int .i64 0], .int .i64 2]) (by simp [results, Try.results17, go_sem]) rfl ⟨rfl, HF2.out _ _⟩
    | exact bodyPost_ret (v := .tuple #[.agg #[.int .i64 0, .int .i64 0], .int .i64 2]) (by simp [results, Try.results17, go_sem]) rfl ⟨rfl, HB0.out⟩

set_option maxHeartbeats 2000000 in
set_option maxRecDepth 100000 in
theorem cross_good (a : Option Addr) (cap n : Nat) (z : Nat → Int) (w : World) (hP : isP n z = true) (hc : Ints w a n z) :
    Calls Try.prog 17 #[.slice a n cap] w fun e w' => ∃ p q r e0, e = .returned (.tuple #[.agg #[.int .i64 p, .int .i64 q], .int .i64 e0]) ∧ FindP n z p q r ∧ e0 = (if r then 0 else 4) ∧ Below w.heap.size w w' := by
  have hp := isP_iff.1 hP
  have h1 := hp.1
  have h7 := hp.2.1
  have hb0 : Below w.heap.size w (w.alloc (.cells #[.int .i64 0, .int .i64 0] 27)) := (Below.refl _ _).alloc (Nat.le_refl _) _
  have hc' := hc.keep (Nat.le_refl _) hb0
  have HP := Lib.hid hP
  have HC := Lib.hid hc'
  have HB0 := Lib.hid hb0
  clear hp hP hb0 hc
  go_enter Try.func17, Try.ntmps17
  go_wp2_with (go_at_call 48; refine (isPileOf_r true _ _ _ _ _ HP.out (by omega) hc').mono ?_; rintro e w' ⟨rfl, rfl⟩; clear hc')
  refine (strip_any n _ (by omega) h1).mono ?_
  rintro e w2 ⟨ca, cc, rfl, hT, hc1, hc2, hlt, hb2⟩
  have H3 := Lib.hid (crossing_any n ca (n - 1) cc (rowN 0 (n - 1)) a cap n z w2 (by omega) (by omega) (rowN_len _ _) hT (HC.out.keep (Nat.le_refl _) hb2))
  have hblk : w2.heap[w.heap.size]? = some (.cells #[.int .i64 0, .int .i64 0] 27) := (hb2.block _ (by simp)).trans (heap_alloc_new _ _)
  have HK := Lib.hid hblk
  have HB2 : Hid (Below w.heap.size w w2) := HB0.out.trans (hb2.mono (by simp))
  clear hT hb2 hc1 hc2 hlt hblk
  go_wp2_with fail
  refine H3.out.mono ?_
  rintro e w3 ⟨p, q, r, rfl, hf, hb3⟩
  have hblk : w3.heap[w.heap.size]? = some (.cells #[.int .i64 0, .int .i64 0] 27) := (hb3.block _ (Array.getElem?_eq_some_iff.1 HK.out).1).trans HK.out
  have hlt := (Array.getElem?_eq_some_iff.1 hblk).1
  have c0 := block_cell hblk 0
  have c1 := block_cell hblk 1
  have f0 := block_free hblk 0
  have f1 := block_free hblk 1
  simp at c0 c1
  have HB3 : Hid (Below w.heap.size w w3) := HB2.out.trans (hb3.mono HB2.out.size)
  have HFD : Hid (FindP n z p q r) := hf
  clear hf hb3 hblk HK HB0 HB2
  have HF2 : Hid (∀ x y, Below w.heap.size w (((w3.setCell ⟨w.heap.size, 0, none⟩ x).setCell ⟨w.heap.size, 1, none⟩ y).alloc (.cells #[.int .i64 p, .int .i64 q] 27))) := fun x y => ((HB3.out.setCell (Nat.le_refl _) _).setCell (Nat.le_refl _) _).alloc (by simpa using HB3.out.size) _
  cases r
  · go_wp2
    exact bodyPost_ret (v := .tuple #[.agg #[.int .i64 0, .int .i64 0], .int .i64 4]) (by simp [results, Try.results17, go_sem, c0, c1, hlt]) rfl ⟨p, q, false, 4, by rcases HFD.out with ⟨h, _⟩ | ⟨_, rfl, rfl, _⟩; (cases h); rfl, HFD.out, rfl, HF2.out _ _⟩
  · go_wp2
    exact bodyPost_ret (v := .tuple #[.agg #[.int .i64 p, .int .i64 q], .int .i64 0]) (by simp [results, Try.results17, go_sem, c0, c1, hlt]) rfl ⟨p, q, true, 0, rfl, HFD.out, rfl, HF2.out _ _⟩

end Go.Proofs.Ytmbccdjoliegiaa
