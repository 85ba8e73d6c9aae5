import Derived.Test.YtkbbijhknbcflabC6
import Derived.Test.YtkbbijhknbcflabH1
/-
  Classes; what a list of classes holds.
-/
namespace Go.Proofs.Ytkbbijhknbcflab
open Go.RowKit Go.Shelf

/-- What is in the first k sets of a list. -/
def orL (l : List Nat) : Nat → Nat
  | 0 => 0
  | k + 1 => orL l k ||| l.getD k 0
theorem bit_orL (l : List Nat) : ∀ k i, (orL l k).testBit i = true ↔ ∃ j, j < k ∧ (l.getD j 0).testBit i = true
  | 0, i => by simp [orL]
  | k + 1, i => by
    rw [orL, Nat.testBit_or, Bool.or_eq_true, bit_orL l k i]
    constructor
    · rintro (⟨j, h1, h2⟩ | h)
      · exact ⟨j, by omega, h2⟩
      · exact ⟨k, by omega, h⟩
    · rintro ⟨j, h1, h2⟩
      by_cases e : j = k
      · subst e; exact Or.inr h2
      · exact Or.inl ⟨j, by omega, h2⟩
theorem dst_at {c : Nat → Nat} {n j : Nat} (h : j < (dst c n).length) : ∃ s, s < n ∧ c s = (dst c n).getD j 0 := by
  have : (dst c n).getD j 0 ∈ dst c n := by
    rw [List.getD_eq_getElem?_getD, List.getElem?_eq_getElem h]; exact List.getElem_mem h
  exact (dst_mem c n _).1 this
theorem dst_ne {c : Nat → Nat} {n i j : Nat} (hi : i < (dst c n).length) (hj : j < (dst c n).length) (hne : i ≠ j) : (dst c n).getD i 0 ≠ (dst c n).getD j 0 := by
  rw [List.getD_eq_getElem?_getD, List.getElem?_eq_getElem hi, List.getD_eq_getElem?_getD, List.getElem?_eq_getElem hj]
  have hp := List.pairwise_iff_getElem.1 (dst_nodup c n)
  simp only [Option.getD_some]
  by_cases hlt : i < j
  · exact hp i j hi hj hlt
  · exact fun h => hp j i hj hi (by omega) h.symm
section
variable {n : Nat} {nx mk c : Nat → Nat} (hc : Cls n nx mk c)
include hc
theorem cls_lt {j : Nat} (h : j < (dst c n).length) : (dst c n).getD j 0 < 2 ^ n := by
  obtain ⟨s, hs, e⟩ := dst_at h
  rw [← e]; exact hc.lt hs
theorem cls_pos {j : Nat} (h : j < (dst c n).length) : 1 ≤ (dst c n).getD j 0 := by
  obtain ⟨s, hs, e⟩ := dst_at h
  rw [← e]
  refine Nat.pos_of_ne_zero fun h0 => ?_
  have := hc.self hs
  rw [h0] at this; simp at this
theorem orL_lt {k : Nat} (h : k ≤ (dst c n).length) : orL (dst c n) k < 2 ^ n := lt_of_bits fun i hi => by
  obtain ⟨j, h1, h2⟩ := (bit_orL _ _ _).1 hi
  exact bit_in (cls_lt hc (show j < (dst c n).length by omega)) h2
theorem cls_new {k : Nat} (h : k < (dst c n).length) : (dst c n).getD k 0 &&& orL (dst c n) k = 0 := by
  refine Classical.byContradiction fun g => ?_
  obtain ⟨i, h1, h2⟩ := and_ne.1 g
  obtain ⟨j, h3, h4⟩ := (bit_orL _ _ _).1 h2
  have hjl : j < (dst c n).length := by omega
  obtain ⟨s, hs, es⟩ := dst_at h
  obtain ⟨t, ht, et⟩ := dst_at hjl
  have := hc.apart hs ht (by rw [es, et]; exact dst_ne h hjl (by omega))
  rw [es, et] at this
  exact and_ne.2 ⟨i, h1, h4⟩ this
theorem orL_all : orL (dst c n) (dst c n).length = 2 ^ n - 1 := by
  refine eq_of_bits fun i => ?_
  rw [bit_orL, bit_all, decide_eq_true_eq]
  constructor
  · rintro ⟨j, h1, h2⟩; exact bit_in (cls_lt hc h1) h2
  · intro hi
    have hm : c i ∈ dst c n := (dst_mem c n _).2 ⟨i, hi, rfl⟩
    obtain ⟨j, hj, e⟩ := List.mem_iff_getElem.1 hm
    refine ⟨j, hj, ?_⟩
    rw [List.getD_eq_getElem?_getD, List.getElem?_eq_getElem hj]
    simp only [Option.getD_some, e]
    exact hc.self hi
theorem cls_holds (F : Fm) {j : Nat} (h : j < (dst c n).length) : holds n nx mk F &&& (dst c n).getD j 0 = 0 ∨ holds n nx mk F &&& (dst c n).getD j 0 = (dst c n).getD j 0 := by
  obtain ⟨s, hs, e⟩ := dst_at h
  rw [← e]; exact clo_class hc (holds_clo hc F) hs
end

set_option maxHeartbeats 1000000 in
set_option maxRecDepth 100000 in
theorem fClasses_arg (aN : Option Addr) (n cN : Nat) (aM : Option Addr) (m cM : Nat) (T L : Nat → Int) (w : World) (hn : n ≤ 9) (hm : m ≤ 9) (hv : isWk n m T L = false) (hT : Ints w aN n T) (hL : Ints w aM m L) :
    Calls Try.prog 14 #[wkV aN n cN aM m cM] w fun e w' => e = .returned (.tuple #[.slice none 0 0, .int .i64 2]) ∧ Below w.heap.size w w' := by
  have hI := VInv.start aN n cN aM m cM w
  have HV := Lib.hid (valid_r false aN n cN aM m cM T L _ hv hn hm (hT.keep (Nat.le_refl _) hI.bel) (hL.keep (Nat.le_refl _) hI.bel))
  have HI := Lib.hid hI
  obtain ⟨q0, q1⟩ := hI.cells
  clear hT hL hv hI
  go_enter Try.func14, Try.ntmps14
  go_wp2_with fail
  refine HV.out.mono ?_
  rintro e w1 ⟨rfl, hb1⟩
  have HB1 := Lib.hid (HI.out.keep hb1).bel
  clear hb1 q0 q1
  go_wp2
  exact bodyPost_ret (v := .tuple #[.slice none 0 0, .int .i64 2]) (by simp [results, Try.results14, go_sem]) rfl ⟨rfl, HB1.out⟩

set_option maxHeartbeats 1000000 in
set_option maxRecDepth 100000 in
theorem fClasses_good (aN : Option Addr) (n cN : Nat) (aM : Option Addr) (m cM : Nat) (T L : Nat → Int) (r : Nat) (w : World) (hv : isWk n m T L = true) (hT : Ints w aN n T) (hL : Ints w aM m L)
    (hr1 : 1 ≤ r) (hr400 : r ≤ 400) (hst : Stays n (nat T) (nat L) r) (hno : ∀ j, j < r → ¬ Stays n (nat T) (nat L) j) :
    Calls Try.prog 14 #[wkV aN n cN aM m cM] w fun e w' => ∃ a cap, e = .returned (.tuple #[.slice a (dst (rnd n (nat T) (nat L) r) n).length cap, .int .i64 0]) ∧ Ints w' a (dst (rnd n (nat T) (nat L) r) n).length (nv (dst (rnd n (nat T) (nat L) r) n)) ∧ Below w.heap.size w w' := by
  obtain ⟨h1, h6, hmn, _⟩ := isWk_iff.1 hv
  subst hmn
  have hI := VInv.start aN m cN aM m cM w
  have HV := Lib.hid (valid_r true aN m cN aM m cM T L _ hv (by omega) (by omega) (hT.keep (Nat.le_refl _) hI.bel) (hL.keep (Nat.le_refl _) hI.bel))
  have HD := Lib.hid (fun W (hb : Below w.heap.size w W) => distinct_any aN cN aM cM m (nat T) (nat L) r W h1 ((wk_of hv hT hL).keep (Nat.le_refl _) hb) hr1 hr400 hst hno)
  have HI := Lib.hid hI
  obtain ⟨q0, q1⟩ := hI.cells
  clear hT hL hv hI hst hno
  generalize dst (rnd m (nat T) (nat L) r) m = D at *
  go_enter Try.func14, Try.ntmps14
  go_wp2_with fail
  refine HV.out.mono ?_
  rintro e w1 ⟨rfl, hb1⟩
  have HI1 := Lib.hid (HI.out.keep hb1)
  clear hb1 q0 q1
  obtain ⟨q0, q1⟩ := HI1.out.cells
  go_wp2_with fail
  refine (HD.out w1 HI1.out.bel).mono ?_
  rintro e w2 ⟨a, cap, rfl, hO, hb2⟩
  have HI2 := Lib.hid (HI1.out.keep hb2)
  have HN := Lib.hid hO.ints
  clear hb2 hO q0 q1
  go_wp2
  exact bodyPost_ret (v := .tuple #[.slice a D.length cap, .int .i64 0]) (by simp [results, Try.results14, go_sem]) rfl ⟨_, _, rfl, HN.out, HI2.out.bel⟩
end Go.Proofs.Ytkbbijhknbcflab
