import Derived.Test.YtaglbnblfhfkeaaK7
import Derived.Test.YtaglbnblfhfkeaaH1
namespace Go.Proofs.Ytaglbnblfhfkeaa
open Go.RowKit

/-- What is left of a law's beginning where an argument is boxed. -/
structure BoxAt (W w : World) (ax : Option Addr) (n cx : Nat) : Prop where
  box : w.heap[W.heap.size]? = some (.cells #[.slice ax n cx] 23)
  below : Below W.heap.size W w
theorem BoxAt.start (W : World) (ax : Option Addr) (n cx : Nat) : BoxAt W (W.alloc (.cells #[.slice ax n cx] 23)) ax n cx := ⟨heap_alloc_new W _, below_alloc1 _ _⟩
theorem BoxAt.lt {W w : World} {ax : Option Addr} {n cx : Nat} (h : BoxAt W w ax n cx) : W.heap.size < w.heap.size := (Array.getElem?_eq_some_iff.1 h.box).1
theorem BoxAt.drew {W w : World} {ax : Option Addr} {n cx : Nat} (h : BoxAt W w ax n cx) : BoxAt W w.drew ax n cx := ⟨h.box, h.below.drew⟩
theorem BoxAt.keep {W w w' : World} {ax : Option Addr} {n cx : Nat} (h : BoxAt W w ax n cx) (hb : Below w.heap.size w w') : BoxAt W w' ax n cx :=
  ⟨(hb.block _ h.lt).trans h.box, h.below.trans (hb.mono (by have := h.lt; omega))⟩
theorem BoxAt.cell {W w : World} {ax : Option Addr} {n cx : Nat} (h : BoxAt W w ax n cx) : w.cell? ⟨W.heap.size, 0, none⟩ = some (.slice ax n cx) := block_cell h.box 0

set_option maxHeartbeats 8000000 in
set_option maxRecDepth 100000 in
theorem alone_fail (c : Int) (hc : c = 2 ∨ c = 5) (a : Option Addr) (cap R : Nat) (A : Nat → Option Addr) (L C : Nat → Nat) (Z : Nat → Nat → Int) (ax : Option Addr) (n cx : Nat) (x : Nat → Int) (W : World)
    (hR : R ≤ 140737488351232) (hM : Mat W a R A L C Z) (hn : n * 8 ≤ 140737488351232) (hnc : n ≤ cx) (hX : Ints W ax n x)
    (hF : ∀ a1 c1 A1 C1 a2 c2 w, Mat w a1 (min R 250) A1 (fun j => min (L j) 6) C1 Z → Ints w a2 (min n 6) x →
      Calls Try.prog 77 #[.slice a1 ((min R 250 : Nat) : Nat) c1, .slice a2 ((min n 6 : Nat) : Nat) c2] w fun e w' => FamNo c w e w') :
    Calls Try.prog 11 #[.slice a R cap, .slice ax n cx] W fun e w' => Fine W e w' := by
  have HM := Lib.hid hM
  have HR := Lib.hid hR
  have HX := Lib.hid hX
  have Hn := Lib.hid hn
  have Hnc := Lib.hid hnc
  have HF := Lib.hid hF
  have Hc := Lib.hid hc
  clear hM hR hX hn hnc hF hc
  have HB0 := Lib.hid (BoxAt.start W ax n cx)
  have q0 := HB0.out.cell
  have hs0 := HB0.out.lt
  go_enter Try.func11, Try.ntmps11
  go_upto_region 1 with fail
  go_cut [5, 6] (fun s5 s6 wx => (∃ a' c', s5 = .slice a' 0 c') ∧ s6 = .int .i64 c ∧ BoxAt W wx ax n cx)
  case first =>
    go_region_with (first
      | (go_at_call 16; refine (table_out _ _ _ _ _ _ _ _ HR.out (HM.out.keep (Nat.le_refl _) HB0.out.drew.below)).mono ?_; rintro e w1 ⟨a1, c1, A1, C1, rfl, hM1, hb1⟩; have HM1 := Lib.hid hM1; have HB1 := Lib.hid (HB0.out.drew.keep hb1); have q1 := HB1.out.cell; have hs1 := HB1.out.lt; clear hM1 hb1)
      | (go_at_call 17; refine (list_out _ _ _ _ _ Hnc.out (by have := Hn.out; omega) (HX.out.keep (Nat.le_refl _) HB1.out.below)).mono ?_; rintro e w2 ⟨a2, c2, rfl, hX2, hb2⟩; have HX2 := Lib.hid hX2; have HM2 := Lib.hid (HM1.out.keep (Nat.le_refl _) hb2); have HB2 := Lib.hid (HB1.out.keep hb2); clear hX2 hb2)
      | (go_at_call 35; refine (fFamily_no c _ _ _ (HF.out _ _ _ _ _ _ _ HM2.out HX2.out)).mono ?_; rintro e w3 ⟨a3, c3, rfl, hb3⟩; have HB3 := Lib.hid (HB2.out.keep hb3); clear hb3))
    all_goals go_wp2
    all_goals go_meet
    all_goals exact ⟨⟨a3, c3, rfl⟩, rfl, HB3.out⟩
  case rest =>
    obtain ⟨⟨a3, c3, rfl⟩, rfl, hB3⟩ := hcut
    have HB3 := Lib.hid hB3
    have q3 := HB3.out.cell
    have hs3 := HB3.out.lt
    clear hB3 q0
    go_upto_region 2 with fail
    go_cut [7, 8] (fun s7 s8 wx => s7 = .int .i64 0 ∧ s8 = .int .i64 c ∧ BoxAt W wx ax n cx)
    case first =>
      go_region_with (first
        | (go_at_call 16; refine (table_out _ _ _ _ _ _ _ _ HR.out (HM.out.keep (Nat.le_refl _) HB3.out.drew.below)).mono ?_; rintro e w1 ⟨a1, c1, A1, C1, rfl, hM1, hb1⟩; have HM1 := Lib.hid hM1; have HB1 := Lib.hid (HB3.out.drew.keep hb1); have q1 := HB1.out.cell; have hs1 := HB1.out.lt; clear hM1 hb1)
        | (go_at_call 17; refine (list_out _ _ _ _ _ Hnc.out (by have := Hn.out; omega) (HX.out.keep (Nat.le_refl _) HB1.out.below)).mono ?_; rintro e w2 ⟨a2, c2, rfl, hX2, hb2⟩; have HX2 := Lib.hid hX2; have HM2 := Lib.hid (HM1.out.keep (Nat.le_refl _) hb2); have HB2 := Lib.hid (HB1.out.keep hb2); clear hX2 hb2)
        | (go_at_call 36; refine (fCount_no c _ _ _ (HF.out _ _ _ _ _ _ _ HM2.out HX2.out)).mono ?_; rintro e w4 ⟨rfl, hb4⟩; have HB4 := Lib.hid (HB2.out.keep hb4); clear hb4))
      all_goals go_wp2
      all_goals go_meet
      all_goals exact ⟨rfl, rfl, HB4.out⟩
    case rest =>
      obtain ⟨rfl, rfl, hB4⟩ := hcut
      have HB4 := Lib.hid hB4
      have q4 := HB4.out.cell
      have hs4 := HB4.out.lt
      clear hB4 q3
      rcases Hc.out with rfl | rfl
      all_goals
        go_wp2_with fail
        refine (awake_any _).mono ?_
        rintro e w8 ⟨rfl, hb8⟩
        have HB8 := Lib.hid (HB4.out.keep hb8).below
        clear hb8
        go_wp2
        go_ret
        exact ⟨rfl, HB8.out⟩
end Go.Proofs.Ytaglbnblfhfkeaa

namespace Go.Proofs.Ytaglbnblfhfkeaa
open Go.RowKit

theorem dotN_sub {f g h k : Nat → Int} : ∀ n, (∀ j, j < n → k j = g j - h j) → dotN f k n = dotN f g n - dotN f h n
  | 0, _ => rfl
  | n + 1, e => by
    have h1 := dotN_sub (f := f) n fun j hj => e j (by omega)
    have h2 := e n (by omega)
    simp only [dotN, h1, h2, Int.mul_sub]
    omega

theorem sub_at (u v : Vec) : ∀ j, j < 4 → (Vec.sub u v).at' j = u.at' j - v.at' j
  | 0, _ => rfl
  | 1, _ => rfl
  | 2, _ => rfl
  | 3, _ => rfl
  | n + 4, h => absurd h (by omega)

/-- All of a family has the same product. -/
theorem same_times {R : Nat} {L : Nat → Nat} {Z : Nat → Nat → Int} {x : Nat → Int} {n : Nat} {y : Vec} (hV : isMat R L Z = true) (hn : n = L 0) (hok : (mxOf R L Z).ok) (h : Fam (mxOf R L Z) (vecN x n) y) :
    ∀ j, j < R → dotN (Z j) x n = dotN (Z j) y.at' n := by
  have hn' : (mxOf R L Z).n = n := hn.symm
  have hn4 : n ≤ 4 := by have := hok.n4; omega
  have hn1 : 1 ≤ n := by have := hok.n1; omega
  have hc : inCols n (Vec.sub y (vecN x n)) := inCols_sub (by rw [← hn']; exact h.cols) vecN_cols
  have h1 := prods_move (x := (Vec.sub y (vecN x n)).at') hV hn
  rw [vecN_id hn1 hc, isMoveB_iff.2 h.move] at h1
  intro j hj
  have h2 : dotN (Z j) (Vec.sub y (vecN x n)).at' n = 0 := by
    apply Classical.byContradiction
    intro h3
    have : someP R (fun j => dotN (Z j) (Vec.sub y (vecN x n)).at' n != 0) = true := someP_iff.2 ⟨j, hj, by simpa using h3⟩
    rw [h1] at this; cases this
  have h3 := dotN_sub (f := Z j) (g := y.at') (h := x) (k := (Vec.sub y (vecN x n)).at') n fun i hi => by rw [sub_at _ _ i (by omega), vecN_at hn4 i hi]
  omega

/-- A basic move leads somewhere. -/
def okP (n : Nat) (x y : Nat → Int) : Bool := decide (∀ j, j < n → 0 ≤ x j + y j)
theorem okP_succ (n : Nat) (x y : Nat → Int) : okP (n + 1) x y = (okP n x y && decide (0 ≤ x n + y n)) := by
  rw [Bool.eq_iff_iff]
  simp only [okP, Bool.and_eq_true, decide_eq_true_eq]
  constructor
  · intro h; exact ⟨fun j hj => h j (by omega), h n (by omega)⟩
  · rintro ⟨h1, h2⟩ j hj
    by_cases e : j = n
    · subst e; exact h2
    · exact h1 j (by omega)
theorem okP_whole {n : Nat} {x : Nat → Int} {y : Vec} (hn1 : 1 ≤ n) (hn : n ≤ 4) (hc : inCols n y) : okP n x y.at' = true ↔ Whole (add (vecN x n) y) := by
  simp only [okP, decide_eq_true_eq]
  have hx : inCols n (vecN x n) := vecN_cols
  constructor
  · intro h
    have g : ∀ j, j < 4 → 0 ≤ (vecN x n).at' j + y.at' j := fun j hj => by
      by_cases hjn : j < n
      · rw [vecN_at hn j hjn]; exact h j hjn
      · rw [(cols_at hn1).1 hx j hj (by omega), (cols_at hn1).1 hc j hj (by omega)]; omega
    exact ⟨g 0 (by omega), g 1 (by omega), g 2 (by omega), g 3 (by omega)⟩
  · intro h j hj
    rw [← vecN_at (z := x) hn j hj]
    have e : j = 0 ∨ j = 1 ∨ j = 2 ∨ j = 3 := by omega
    rcases e with rfl | rfl | rfl | rfl
    · exact h.1
    · exact h.2.1
    · exact h.2.2.1
    · exact h.2.2.2

theorem leads_some {m : Mx} {n : Nat} {x : Nat → Int} {l F : List Vec} (hmn : m.n = n) (hn1 : 1 ≤ n) (hn : n ≤ 4) (hA : AllBasic m F) (hl : IsFam m (vecN x n) l) (hw : Whole (vecN x n)) :
    someP F.length (fun j => okP n x (F.getD j Vec.zero).at') = decide (1 < l.length) := by
  have h := leads_iff hl (by rw [hmn]; exact vecN_cols) hw
  rw [Bool.eq_iff_iff, someP_iff, decide_eq_true_eq, ← h]
  constructor
  · rintro ⟨j, hj, h1⟩
    have hb : Basic m (F.getD j Vec.zero) := (hA.mem _).1 (getD_mem hj)
    exact ⟨_, hb, (okP_whole hn1 hn (by rw [← hmn]; exact hb.cols)).1 h1⟩
  · rintro ⟨b, hb, h1⟩
    obtain ⟨j, hj, he⟩ := List.getElem_of_mem ((hA.mem b).2 hb)
    refine ⟨j, hj, ?_⟩
    rw [List.getD_eq_getElem?_getD (l := F), List.getElem?_eq_getElem hj, he]
    exact (okP_whole hn1 hn (by rw [← hmn]; exact hb.cols)).2 h1

theorem IsFam.rises {m : Mx} {x : Vec} {l : List Vec} (h : IsFam m x l) {i j : Nat} (hij : i < j) (hj : j < l.length) : ltV (l.getD i Vec.zero) (l.getD j Vec.zero) := by
  have := List.pairwise_iff_getElem.1 h.sorted i j (by omega) hj hij
  rw [List.getD_eq_getElem?_getD, List.getElem?_eq_getElem (show i < l.length by omega), List.getD_eq_getElem?_getD, List.getElem?_eq_getElem hj]
  exact this

theorem someP_x {l : List Vec} {x : Nat → Int} {n : Nat} (hn : n ≤ 4) (h : vecN x n ∈ l) : someP l.length (fun j => eqN n n x (l.getD j Vec.zero).at') = true := by
  obtain ⟨j, hj, he⟩ := List.getElem_of_mem h
  refine someP_iff.2 ⟨j, hj, eqN_iff.2 ⟨rfl, fun i hi => ?_⟩⟩
  rw [List.getD_eq_getElem?_getD (l := l), List.getElem?_eq_getElem hj, he]
  exact (vecN_at hn i hi).symm

theorem allIn_fam {y : Vec} {n : Nat} (hn : n ≤ 4) (hw : Whole y) (h : Vec.norm y ≤ 720) : allIn y.at' n 0 100000 = true := allIn_iff.2 fun j hj => by
  have hw' := hw
  simp only [Whole, Vec.norm] at hw' h
  have e : j = 0 ∨ j = 1 ∨ j = 2 ∨ j = 3 := by omega
  rcases e with rfl | rfl | rfl | rfl
  · show 0 ≤ y.a ∧ y.a ≤ 100000; omega
  · show 0 ≤ y.b ∧ y.b ≤ 100000; omega
  · show 0 ≤ y.c ∧ y.c ≤ 100000; omega
  · show 0 ≤ y.d ∧ y.d ≤ 100000; omega

/-- func(y []int) bool { return slices.Equal(x, y) } -/
theorem aloneClo (b : Nat) (ay az : Option Addr) (ny cy nz cz : Nat) (y z : Nat → Int) (w : World) (q : Nat) (hb : w.heap[b]? = some (.cells #[.slice ay ny cy] 23)) (hn : ny ≤ 140737488351232) (hz : nz ≤ 140737488351232) (hy : Ints w ay ny y) (hzz : Ints w az nz z) :
    Calls Try.prog 54 (#[.slice az nz cz] ++ #[.pointer (some ⟨b, 0, none⟩)]) (w.drewN q) fun e w' => Drawn (eqN ny nz y z) w e w' := by
  have c0 : (w.drewN q).cell? ⟨b, 0, none⟩ = some (.slice ay ny cy) := block_cell (w := w) hb 0
  have H := Lib.hid (equal_any ay az cy cz ny nz y z (w.drewN q) hn hz (ints_drewN hy q) (ints_drewN hzz q))
  clear hb hy hzz
  show Calls Try.prog 54 #[.slice az nz cz, .pointer (some ⟨b, 0, none⟩)] (w.drewN q) _
  go_enter Try.func54, Try.ntmps54
  go_wp2_with (go_at_call 20; refine H.out.mono ?_; rintro e w' ⟨rfl, q2, rfl⟩)
  go_ret
  exact ⟨rfl, q + q2, rfl⟩
end Go.Proofs.Ytaglbnblfhfkeaa
