import Derived.Test.YtaglbnblfhfkeaaE9
import Derived.Test.YtaglbnblfhfkeaaF1
import Derived.Test.YtaglbnblfhfkeaaC1
namespace Go.Proofs.Ytaglbnblfhfkeaa
open Go.RowKit

theorem vec4 {z : Nat → Int} : vecOf z = ⟨z 0, z 1, z 2, z 3⟩ := rfl
theorem rowN_cut {R : Nat} {L : Nat → Nat} {Z : Nat → Nat → Int} (h : isMat R L Z = true) (j : Nat) : rowN (min R 250) (fun j => min (L j) 6) Z j = rowN R L Z j := by
  have h1 := isMat_iff.1 h
  have e : min R 250 = R := by omega
  unfold rowN
  rw [e]
  by_cases hj : j < R
  · have := h1.2.2 j hj
    simp only [hj, if_true]
    rw [show min (L j) 6 = L j by omega]
  · simp [hj]
theorem mxOf_cut {R : Nat} {L : Nat → Nat} {Z : Nat → Nat → Int} (h : isMat R L Z = true) : mxOf (min R 250) (fun j => min (L j) 6) Z = mxOf R L Z := by
  have h1 := isMat_iff.1 h
  have h2 := h1.2.2 0 (by omega)
  unfold mxOf
  rw [rowN_cut h, rowN_cut h]
  simp only [Mx.mk.injEq, true_and]
  omega

def TableOut (w : World) (R : Nat) (L : Nat → Nat) (Z : Nat → Nat → Int) (e : Ending) (w' : World) : Prop :=
  ∃ a' c' A' C', e = .returned (.slice a' (min R 250) c') ∧ Mat w' a' (min R 250) A' (fun j => min (L j) 6) C' Z ∧ Below w.heap.size w w'
theorem table_out (a : Option Addr) (cap R : Nat) (A : Nat → Option Addr) (L C : Nat → Nat) (Z : Nat → Nat → Int) (w : World) (hs : R ≤ 140737488351232) (hm : Mat w a R A L C Z) :
    Calls Try.prog 16 #[.slice a R cap] w fun e w' => TableOut w R L Z e w' :=
  (table_any a cap R A L C Z w hs hm).mono fun _ _ ⟨v, he, ⟨A1, C1, hO⟩, hb⟩ => by
    obtain ⟨at1, ct1, hv, hM1, hc1, hc2⟩ := hO.mat (fun j _ => by omega)
    exact ⟨at1, ct1, A1, C1, by rw [he, hv], hM1, hb⟩
def ListOut (w : World) (n : Nat) (z : Nat → Int) (e : Ending) (w' : World) : Prop := ∃ a' c', e = .returned (.slice a' (min n 6) c') ∧ Ints w' a' (min n 6) z ∧ Below w.heap.size w w'
theorem list_out (a : Option Addr) (cap n : Nat) (z : Nat → Int) (w : World) (hs : n ≤ cap) (hs2 : n * 8 ≤ 140737488355328) (hc : Ints w a n z) :
    Calls Try.prog 17 #[.slice a n cap] w fun e w' => ListOut w n z e w' :=
  (list_any a cap n z w hs hs2 hc).mono fun _ _ ⟨a', c', he, hO, hb⟩ => ⟨a', c', he, hO.ints, hb⟩

theorem fBasic_tab (a : Option Addr) (cap R : Nat) (A : Nat → Option Addr) (L C : Nat → Nat) (Z : Nat → Nat → Int) (w : World) (hm : Mat w a (min R 250) A (fun j => min (L j) 6) C Z) (hr : isMat R L Z = true) :
    Calls Try.prog 25 #[.slice a ((min R 250 : Nat) : Nat) cap] w fun e w' => BasicOut (mxOf R L Z) w e w' := by
  have := fBasic_yes a cap _ _ _ _ _ w hm (by rw [isMat_cut]; exact hr)
  rw [mxOf_cut hr] at this
  exact this
theorem fPure_tab (a : Option Addr) (cap R : Nat) (A : Nat → Option Addr) (L C : Nat → Nat) (Z : Nat → Nat → Int) (w : World) (hm : Mat w a (min R 250) A (fun j => min (L j) 6) C Z) (hr : isMat R L Z = true) :
    Calls Try.prog 26 #[.slice a ((min R 250 : Nat) : Nat) cap] w fun e w' => PureOutL (mxOf R L Z) w e w' := by
  have := fPure_yes a cap _ _ _ _ _ w hm (by rw [isMat_cut]; exact hr)
  rw [mxOf_cut hr] at this
  exact this

/-- A vector that was read. -/
def vecN (z : Nat → Int) (n : Nat) : Vec := vecOf (padN z n)
theorem vecN_cut {z : Nat → Int} {n : Nat} (h : n ≤ 6) : vecN z (min n 6) = vecN z n := by rw [show min n 6 = n by omega]
theorem vecN_cols {z : Nat → Int} {n : Nat} : inCols n (vecN z n) := by
  simp only [inCols, vecN, vecOf, padN]
  refine ⟨fun h => ?_, fun h => ?_, fun h => ?_⟩
  · rw [if_neg (by omega)]
  · rw [if_neg (by omega)]
  · rw [if_neg (by omega)]
theorem vecN_at {z : Nat → Int} {n : Nat} (hn : n ≤ 4) (j : Nat) (hj : j < n) : (vecN z n).at' j = z j := by
  have e : j = 0 ∨ j = 1 ∨ j = 2 ∨ j = 3 := by omega
  rcases e with rfl | rfl | rfl | rfl
  · simp [vecN, vecOf, Vec.at', padN, hj]
  · simp [vecN, vecOf, Vec.at', padN, hj]
  · simp [vecN, vecOf, Vec.at', padN, hj]
  · simp [vecN, vecOf, Vec.at', padN, hj]
theorem vecN_near {z : Nat → Int} {n : Nat} {B : Int} (hB : 0 ≤ B) (h : allIn z n (-B) B = true) : near B (vecN z n) := by
  have h := allIn_iff.1 h
  have g : ∀ j, -B ≤ padN z n j ∧ padN z n j ≤ B := fun j => by
    unfold padN
    by_cases hj : j < n
    · simp only [hj, if_true]; exact h j hj
    · simp only [hj, if_false]; omega
  exact ⟨g 0, g 1, g 2, g 3⟩
theorem norm_near {v : Vec} (h : near 100 v) : Vec.norm v ≤ 400 := by simp only [near, Vec.norm] at *; omega

theorem readBoth_good (a : Option Addr) (cap R : Nat) (A : Nat → Option Addr) (L C : Nat → Nat) (Z : Nat → Nat → Int) (ax : Option Addr) (n cx : Nat) (z : Nat → Int) (lo hi : Int) (w : World)
    (hm : Mat w a (min R 250) A (fun j => min (L j) 6) C Z) (hz : Ints w ax (min n 6) z) (hv : isVec R L Z n z lo hi = true) :
    Calls Try.prog 58 #[.slice a ((min R 250 : Nat) : Nat) cap, .slice ax ((min n 6 : Nat) : Nat) cx, .int .i64 lo, .int .i64 hi] w fun e w' => ReadsBoth (mxOf R L Z) (vecN z n) w e w' := by
  have h1 := isVec_iff.1 hv
  have h2 := isMat_iff.1 h1.1
  have h3 := h2.2.2 0 (by omega)
  have h4 : isVec (min R 250) (fun j => min (L j) 6) Z (min n 6) z lo hi = true := by rw [isVec_cut]; exact hv
  have h5 := isVec_iff.1 h4
  have := readBoth_true a cap _ _ _ _ _ ax _ cx z lo hi w hm h5.1 h5.2.1 hz h5.2.2
  rw [rowN_cut h1.1, rowN_cut h1.1, show min n 6 = n by omega] at this
  rw [show min n 6 = n by omega]
  have e : (mxOf R L Z).n = n := h1.2.1.symm
  refine this.mono fun e' w' ⟨he, hb⟩ => ⟨?_, hb⟩
  rw [he, e]; rfl
theorem readBoth_bad (a : Option Addr) (cap R : Nat) (A : Nat → Option Addr) (L C : Nat → Nat) (Z : Nat → Nat → Int) (ax : Option Addr) (n cx : Nat) (z : Nat → Int) (lo hi : Int) (w : World)
    (hs : R ≤ 140737488351232) (hn : n ≤ 140737488351232) (hm : Mat w a (min R 250) A (fun j => min (L j) 6) C Z) (hz : Ints w ax (min n 6) z) (hv : isVec R L Z n z lo hi = false) :
    Calls Try.prog 58 #[.slice a ((min R 250 : Nat) : Nat) cap, .slice ax ((min n 6 : Nat) : Nat) cx, .int .i64 lo, .int .i64 hi] w fun e w' => SomeBoth w e w' := by
  rw [← isVec_cut] at hv
  cases hM : isMat (min R 250) (fun j => min (L j) 6) Z
  · exact readBoth_no1 _ _ _ _ _ _ _ _ _ _ _ _ _ (by omega) hm hM
  · by_cases hnL : min n 6 = min (L 0) 6
    · have hA : allIn z (min n 6) lo hi = false := by simpa [isVec, hM, hnL] using hv
      exact (readBoth_yes false _ _ _ _ _ _ _ _ _ _ _ _ _ _ hm hM hnL hz hA).mono fun e w' h => by simpa using h
    · exact readBoth_no2 _ _ _ _ _ _ _ _ _ _ _ _ _ (by omega) hm hM hnL

/-! ### The pure ones of a list, by their places -/
def places (F : List Vec) (k : Nat) : List Nat := (List.range k).filter fun j => decide (Whole (F.getD j Vec.zero))
theorem places_succ (F : List Vec) (k : Nat) : places F (k + 1) = if Whole (F.getD k Vec.zero) then places F k ++ [k] else places F k := by
  unfold places; rw [List.range_succ, List.filter_append]
  by_cases h : Whole (F.getD k Vec.zero)
  · rw [if_pos h]; congr 1
    rw [List.filter_cons, if_pos (by simpa using h)]; rfl
  · rw [if_neg h, List.filter_cons, if_neg (by simpa using h)]; simp
theorem places_lt {F : List Vec} {k j : Nat} (h : j ∈ places F k) : j < k := List.mem_range.1 (List.mem_filter.1 h).1
theorem places_len (F : List Vec) (k : Nat) : (places F k).length ≤ k := by
  have := List.length_filter_le (fun j => decide (Whole (F.getD j Vec.zero))) (List.range k)
  rw [List.length_range] at this; exact this
theorem pure_places {F : List Vec} : ∀ k, k ≤ F.length → pureOf (F.take k) = (places F k).map fun j => F.getD j Vec.zero := by
  intro k
  induction k with
  | zero => intro _; rfl
  | succ k ih =>
    intro hk
    have hx : F[k]? = some F[k] := List.getElem?_eq_getElem (by omega)
    rw [List.take_add_one, hx]
    have hd : F.getD k Vec.zero = F[k] := by rw [List.getD_eq_getElem?_getD, hx]; rfl
    have := pureOf_snoc (l := F.take k) (v := F[k])
    rw [show (some F[k]).toList = [F[k]] from rfl, this, places_succ, hd, ih (by omega)]
    by_cases h : Whole F[k]
    · simp only [h, if_true, List.map_append, List.map_cons, List.map_nil, hd]
    · simp only [h, if_false]

theorem whole_allIn {m : Mx} (hm : m.ok) {v : Vec} (hv : Basic m v) : allIn v.at' m.n 0 1000 = decide (Whole v) := by
  have h1 := near_norm (basic_norm hm hv)
  have hc := hv.cols
  have hn1 := hm.n1
  have hn4 := hm.n4
  rw [Bool.eq_iff_iff, allIn_iff, decide_eq_true_iff]
  constructor
  · intro h
    have a0 := (h 0 (by omega)).1
    have a1 : 0 ≤ v.b := by
      by_cases hh : 1 < m.n
      · exact (h 1 hh).1
      · have := hc.1 (by omega); omega
    have a2 : 0 ≤ v.c := by
      by_cases hh : 2 < m.n
      · exact (h 2 hh).1
      · have := hc.2.1 (by omega); omega
    have a3 : 0 ≤ v.d := by
      by_cases hh : 3 < m.n
      · exact (h 3 hh).1
      · have := hc.2.2 (by omega); omega
    exact ⟨a0, a1, a2, a3⟩
  · rintro ⟨a0, a1, a2, a3⟩ j hj
    simp only [near] at h1
    have e : j = 0 ∨ j = 1 ∨ j = 2 ∨ j = 3 := by omega
    rcases e with rfl | rfl | rfl | rfl
    · simp only [Vec.at']; omega
    · simp only [Vec.at']; omega
    · simp only [Vec.at']; omega
    · simp only [Vec.at']; omega

/-- What fits into a vector without numbers below 0 has none. -/
theorem whole_fits {x y : Vec} (h : Vec.fits y x) (hx : Whole x) : Whole y := by
  simp only [Whole, Vec.fits, Vec.fit1] at *; omega
theorem vecN_whole {z : Nat → Int} {n : Nat} {hi : Int} (h : allIn z n 0 hi = true) : Whole (vecN z n) := by
  have h := allIn_iff.1 h
  have g : ∀ j, 0 ≤ padN z n j := fun j => by
    unfold padN
    by_cases hj : j < n
    · simp only [hj, if_true]; exact (h j hj).1
    · simp only [hj, if_false]; omega
  exact ⟨g 0, g 1, g 2, g 3⟩

/-- 'want': the slices at these places. -/
theorem wantMat {w w0 : World} {a ab : Option Addr} {base cap n : Nat} {F : List Vec} {A : Nat → Option Addr} {C : Nat → Nat} (h : w.ownsRow base 23 1 (.slice a (places F F.length).length cap) (places F F.length).length ((places F F.length).map fun j => .slice (A j) n (C j)))
    (hm : Mat w0 ab F.length A (fun _ => n) C (fun k => (F.getD k Vec.zero).at')) (hb : Below w0.heap.size w0 w) :
    Mat w a (places F F.length).length (fun i => A ((places F F.length).getD i 0)) (fun _ => n) (fun i => C ((places F F.length).getD i 0)) (fun i => (F.getD ((places F F.length).getD i 0) Vec.zero).at') := by
  have hlt : ∀ i, i < (places F F.length).length → (places F F.length).getD i 0 < F.length := fun i hi => by
    rw [List.getD_eq_getElem?_getD, List.getElem?_eq_getElem hi]
    exact places_lt (List.getElem_mem hi)
  refine ⟨fun i hi => ?_, fun i hi => hm.cap _ (hlt i hi), fun i hi => (hm.ints _ (hlt i hi)).keep (Nat.le_refl _) hb⟩
  rcases h.2 with ⟨h1, h0⟩ | ⟨g, cap', cur, he, _⟩
  · omega
  · cases he
    refine ⟨g, 0, rfl, ?_⟩
    have := World.ownsRow.cells h (g := g) rfl i (.slice (A ((places F F.length).getD i 0)) n (C ((places F F.length).getD i 0))) (by
      rw [List.getElem?_map, List.getElem?_eq_getElem hi, List.getD_eq_getElem?_getD, List.getElem?_eq_getElem hi]; rfl)
    rw [add_at] at this
    exact this

theorem want_same {F : List Vec} {n : Nat} : eqMB (pureOf F).length (places F F.length).length (fun _ => n) (fun _ => n) (fun k => ((pureOf F).getD k Vec.zero).at') (fun i => (F.getD ((places F F.length).getD i 0) Vec.zero).at') = true := by
  have h := pure_places (F := F) F.length (Nat.le_refl _)
  rw [List.take_of_length_le (Nat.le_refl _)] at h
  refine eqMB_iff.2 ⟨by rw [h, List.length_map], fun j hj => eqN_iff.2 ⟨rfl, fun i _ => ?_⟩⟩
  have hj' : j < (places F F.length).length := by rw [h, List.length_map] at hj; exact hj
  rw [h, List.getD_eq_getElem?_getD, List.getElem?_map, List.getElem?_eq_getElem hj', List.getD_eq_getElem?_getD (l := places F F.length), List.getElem?_eq_getElem hj']
  rfl

/-! ### func(z []int) bool { return slices.Equal(y, z) } -/
set_option maxHeartbeats 2000000 in
set_option maxRecDepth 100000 in
theorem purClo (b : Nat) (ay az : Option Addr) (ny cy nz cz : Nat) (y z : Nat → Int) (w : World) (hb : w.heap[b]? = some (.cells #[.slice ay ny cy] 23)) (hn : ny ≤ 140737488351232) (hz : nz ≤ 140737488351232) (hy : Ints w ay ny y) (hzz : Ints w az nz z) :
    Calls Try.prog 57 (#[.slice az nz cz] ++ #[.pointer (some ⟨b, 0, none⟩)]) w fun e w' => Drawn (eqN ny nz y z) w e w' := by
  have c0 := block_cell hb 0
  have H := Lib.hid (equal_any ay az cy cz ny nz y z w hn hz hy hzz)
  clear hb hy hzz
  show Calls Try.prog 57 #[.slice az nz cz, .pointer (some ⟨b, 0, none⟩)] w _
  simp only [List.getElem?_toArray, List.getElem?_cons_zero] at c0
  go_enter Try.func57, Try.ntmps57
  go_wp2_with (go_at_call 20; refine H.out.mono ?_; rintro e w' ⟨rfl, q, rfl⟩)
  go_ret
  exact ⟨rfl, q, rfl⟩
end Go.Proofs.Ytaglbnblfhfkeaa
