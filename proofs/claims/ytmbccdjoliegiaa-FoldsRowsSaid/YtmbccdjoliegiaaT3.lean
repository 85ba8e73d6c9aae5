import Derived.Test.YtmbccdjoliegiaaT2
import Derived.Deep.RegionLaw
import Derived.Lib.AppendZerosOnto
import Derived.Handy
namespace Go.Proofs.Ytmbccdjoliegiaa
open Go.RowKit

set_option maxHeartbeats 2000000 in
set_option maxRecDepth 100000 in
theorem grow_nil (n : Nat) (w : World) (hn : n ≤ 100) :
    Calls Try.prog 76 #[.slice none 0 0, .int .i64 n] w fun e w' => ∃ v, e = .returned v ∧ w'.ownsRow w.heap.size 3 1 v 0 [] ∧ Below w.heap.size w w' := by
  obtain ⟨i0, hi, hz0, hz1, hz2⟩ := info_parts Try.info3
  by_cases h0 : n = 0
  · subst h0
    go_enter Try.func76, Try.ntmps76
    go_wp2
    go_ret
    exact ⟨_, rfl, World.ownsRow_nil _ _ _ _, Below.refl _ _⟩
  · have hpos : (0 : Int) < n := by omega
    have hold : (Builtin.firstCells i0.size 0 (.slice none 0 0)).run Try.prog w.drew = .ok ([] : List Value).toArray w.drew := run_firstCells_none w.drew i0.size 0 0 0
    have hrz : ∀ ty, (Builtin.append_ #[22, 3] ty #[.slice none 0 0, .int .i64 (n : Int)]).run Try.prog w =
        .ok (.slice (some ⟨w.heap.size, 0, none⟩) n (grownCap w n 0 3)) (w.drew.alloc (.cells (#[] ++ Builtin.zeroCells (Value.int .i64 0).cells n ++ Builtin.zeroCells (Value.int .i64 0).cells (grownCap w n 0 3 - n)) 3)) := fun ty => by
      have h := Lib.run_append_grow_zeros w 22 3 ty 3 i0 (.int .i64 0) .i64 .i64 Try.underlying22 Try.underlying3 hi hz0 none 0 0 [] hold n (by omega) (by omega) (by omega) (by omega)
        (by rw [hz2]; omega)
        (by rw [Nat.zero_add]; exact growslice_fits (by omega) (by rw [hz2]; omega))
      rw [Nat.zero_add] at h
      exact h
    have hG := grownCap_ge w n 0 3
    have hGm := grownCap_le_maxLen w n 0 3 (by unfold maxLen; omega)
    generalize grownCap w n 0 3 = G at hrz hG hGm
    have hsz : (#[] ++ Builtin.zeroCells (Value.int .i64 0).cells n ++ Builtin.zeroCells (Value.int .i64 0).cells (G - n) : Array Value).size = G := by
      simp [size_zeroCells, Value.cells]; omega
    generalize (#[] ++ Builtin.zeroCells (Value.int .i64 0).cells n ++ Builtin.zeroCells (Value.int .i64 0).cells (G - n) : Array Value) = cs at hrz hsz
    have HO : Hid ((w.drew.alloc (.cells cs 3)).ownsRow w.heap.size 3 1 (.slice (some ⟨w.heap.size, 0, none⟩) 0 G) 0 []) := World.ownsRow_made w.drew cs G (Nat.le_refl _) hGm (by omega)
    have HB : Hid (Below w.heap.size w (w.drew.alloc (.cells cs 3))) := (Below.refl _ w).drew.alloc (Nat.le_refl _) _
    have hG63 : G ≤ 9223372036854775807 := by unfold maxLen at hGm; omega
    clear hsz hold hGm
    go_enter Try.func76, Try.ntmps76
    go_wp2_with (at_builtin; refine Lib.wpList_append_run _ rfl _ _ _ _ rfl _ _ rfl rfl _ _ (hrz _) ?_)
    all_goals (go_ret; exact ⟨_, rfl, HO.out, HB.out⟩)

/-- Two slices, one behind the other. -/
def catN (n1 : Nat) (x y : Nat → Int) (j : Nat) : Int := if j < n1 then x j else y (j - n1)
theorem cat_row (n1 n2 : Nat) (x y : Nat → Int) : (List.range n1).map (fun j => Value.int .i64 (x j)) ++ (List.range n2).map (fun j => .int .i64 (y j)) = (List.range (n1 + n2)).map (fun j => Value.int .i64 (catN n1 x y j)) := by
  refine List.ext_getElem (by simp) fun i h1 h2 => ?_
  simp at h2
  simp only [List.getElem_map, List.getElem_range]
  by_cases e : i < n1
  · rw [List.getElem_append_left (by simpa using e)]
    simp [catN, e]
  · rw [List.getElem_append_right (by simp; omega)]
    simp [catN, e]

set_option maxHeartbeats 4000000 in
set_option maxRecDepth 100000 in
theorem concat_any (b c : Nat) (ad1 ad2 : Addr) (c1 c2 n1 n2 : Nat) (x y : Nat → Int) (w : World) (h1 : n1 ≤ 40) (h2 : n2 ≤ 40) (hx : Ints w (some ad1) n1 x) (hy : Ints w (some ad2) n2 y)
    (q0 : w.cell? ⟨b, 0, none⟩ = some (.slice (some ad1) n1 c1)) (q1 : w.cell? ⟨b, 1, none⟩ = some (.slice (some ad2) n2 c2)) :
    Calls Try.prog 61 #[.slice (some ⟨b, 0, none⟩) 2 c] w fun e w' => ∃ a' cap', e = .returned (.slice a' (n1 + n2) cap') ∧ Own w' w.heap.size a' (n1 + n2) cap' (catN n1 x y) ∧ Below w.heap.size w w' := by
  have HX := Lib.hid hx
  have HY := Lib.hid hy
  have hlt := World.block_lt_of_cell? _ _ q0
  have Q0 := Lib.hid q0
  have Q1 := Lib.hid q1
  clear hx hy
  obtain ⟨i0, hi, hz0, hz1, hz2⟩ := info_parts Try.info3
  have hgr := grow_nil (n1 + n2) w (by omega)
  rw [Int.natCast_add] at hgr
  have HGr := Lib.hid hgr
  clear hgr
  go_enter Try.func61, Try.ntmps61
  go_wp2
  refine wp_loop_rounds 3 ?_
  rw [rounds_succ]
  go_wp2
  rw [rounds_succ]
  go_wp2
  rw [rounds_succ]
  go_wp2_with fail
  refine HGr.out.mono ?_
  rintro e w2 ⟨v2, rfl, hO2, hb2⟩
  have HO2 := Lib.hid hO2
  have HB2 := Lib.hid hb2
  have p0 : w2.cell? ⟨b, 0, none⟩ = some (.slice (some ad1) n1 c1) := (hb2.cell (p := ⟨b, 0, none⟩) hlt).trans q0
  have p1 : w2.cell? ⟨b, 1, none⟩ = some (.slice (some ad2) n2 c2) := (hb2.cell (p := ⟨b, 1, none⟩) hlt).trans q1
  have hs2 := hb2.size
  clear hO2 hb2 q0 q1
  go_wp2
  refine wp_loop_rounds 3 ?_
  rw [rounds_succ]
  go_wp2_with (at_builtin; refine wpList_append_own _ rfl _ _ 22 rfl w.heap.size 3 i0 (.int .i64 0) 1 8 Try.underlying22 hi hz0 hz1 hz2 rfl (by decide) _ _ _ rfl HO2.out ad1 n1 c1 ((List.range n1).map fun j => .int .i64 (x j)) rfl (by simp) (HX.out.keep (Nat.le_refl _) HB2.out).news (fun u hu => by obtain ⟨x, _, rfl⟩ := List.mem_map.1 hu; rfl) (by unfold maxLen; omega) (by omega) hs2 ?_)
  intro v3 w3 hown3 hgrow3 _
  have hb3 : Below w.heap.size w w3 := HB2.out.grown hgrow3 hs2 (fun k hk => (World.ownsRow.lt HO2.out k hk).1)
  have HO3 := Lib.hid hown3
  have HB3 := Lib.hid hb3
  have r1 : w3.cell? ⟨b, 1, none⟩ = some (.slice (some ad2) n2 c2) := (hb3.cell (p := ⟨b, 1, none⟩) hlt).trans Q1.out
  have hs3 := hb3.size
  clear hown3 hgrow3 hb3 p0 p1
  go_wp2
  rw [rounds_succ]
  go_wp2_with (at_builtin; refine wpList_append_own _ rfl _ _ 22 rfl w.heap.size 3 i0 (.int .i64 0) 1 8 Try.underlying22 hi hz0 hz1 hz2 rfl (by decide) _ _ _ rfl HO3.out ad2 n2 c2 ((List.range n2).map fun j => .int .i64 (y j)) rfl (by simp) (HY.out.keep (Nat.le_refl _) HB3.out).news (fun u hu => by obtain ⟨x, _, rfl⟩ := List.mem_map.1 hu; rfl) (by unfold maxLen; omega) (by omega) hs3 ?_)
  intro v4 w4 hown4 hgrow4 _
  have hb4 : Below w.heap.size w w4 := HB3.out.grown hgrow4 hs3 (fun k hk => (World.ownsRow.lt HO3.out k hk).1)
  rw [cat_row] at hown4
  obtain ⟨a4, c4, rfl, hO4⟩ := own_mk hown4
  have HO4 := Lib.hid hO4
  have HB4 := Lib.hid hb4
  clear hown4 hgrow4 hb4 hO4 r1
  go_wp2
  rw [rounds_succ]
  go_wp2
  go_ret
  exact ⟨_, _, rfl, HO4.out, HB4.out⟩

/-- The pile without its last leaf. -/
def opN (n : Nat) (z : Nat → Int) (j : Nat) : Int := catN (ix n z ((n : Int) - 1)).toNat z (fun j => z ((ix n z ((n : Int) - 1)).toNat + 1 + j)) j

theorem open_bad (a : Option Addr) (cap n : Nat) (z : Nat → Int) (w : World) (hP : isP n z = false) (hs : n ≤ 140737488351232) (hc : Ints w a n z) :
    Calls Try.prog 30 #[.slice a n cap] w fun e w' => e = .returned (.tuple #[.slice none 0 0, .int .i64 2]) ∧ Below w.heap.size w w' := by
  have HP := Lib.hid hP
  clear hP
  go_enter Try.func30, Try.ntmps30
  go_wp2_with (go_at_call 48; refine (isPileOf_r false _ _ _ _ _ HP.out hs hc).mono ?_; rintro e w' ⟨rfl, rfl⟩)
  go_ret2
  exact ⟨rfl, Below.refl _ _⟩
theorem open_one (a : Option Addr) (cap n : Nat) (z : Nat → Int) (w : World) (hP : isP n z = true) (hn : n < 2) (hc : Ints w a n z) :
    Calls Try.prog 30 #[.slice a n cap] w fun e w' => e = .returned (.tuple #[.slice none 0 0, .int .i64 2]) ∧ Below w.heap.size w w' := by
  have HP := Lib.hid hP
  clear hP
  go_enter Try.func30, Try.ntmps30
  go_wp2_with (go_at_call 48; refine (isPileOf_r true _ _ _ _ _ HP.out (by omega) hc).mono ?_; rintro e w' ⟨rfl, rfl⟩)
  go_ret2
  exact ⟨rfl, Below.refl _ _⟩

set_option maxHeartbeats 2000000 in
set_option maxRecDepth 100000 in
theorem open_state (a : Option Addr) (cap n : Nat) (z : Nat → Int) (w : World) (hP : isP n z = true) (h2 : 2 ≤ n) (hpo : poss n z = false) (hc : Ints w a n z) :
    Calls Try.prog 30 #[.slice a n cap] w fun e w' => e = .returned (.tuple #[.slice none 0 0, .int .i64 5]) ∧ Below w.heap.size w w' := by
  have hp := isP_iff.1 hP
  have h1 := hp.1
  have h7 := hp.2.1
  have HP := Lib.hid hP
  have HC := Lib.hid hc
  have HPo := Lib.hid hpo
  clear hp hP hpo
  go_enter Try.func30, Try.ntmps30
  go_wp2_with (go_at_call 48; refine (isPileOf_r true _ _ _ _ _ HP.out (by omega) hc).mono ?_; rintro e w' ⟨rfl, rfl⟩; clear hc)
  refine (strip_any n _ (by omega) h1).mono ?_
  rintro e w2 ⟨ca, cc, rfl, hT, hc1, hc2, hlt, hb2⟩
  have HB2 := Lib.hid hb2
  have H3 := Lib.hid (possible_r false n ca (n - 1) cc (rowN 0 (n - 1)) a cap n z w2 HPo.out (by omega) (by omega) (rowN_len _ _) hT (HC.out.keep (Nat.le_refl _) hb2))
  clear hT hb2 hc1 hc2 hlt
  go_wp2_with fail
  refine H3.out.mono ?_
  rintro e w3 ⟨rfl, hb3⟩
  have HB3 : Hid (Below w.heap.size w w3) := HB2.out.trans (hb3.mono HB2.out.size)
  clear hb3
  go_wp2
  go_ret2
  exact ⟨rfl, HB3.out⟩

set_option maxHeartbeats 4000000 in
set_option maxRecDepth 100000 in
theorem open_good (a : Option Addr) (cap n : Nat) (z : Nat → Int) (w : World) (hcap : n ≤ cap) (hcm : cap ≤ 9223372036854775807) (hP : isP n z = true) (h2 : 2 ≤ n) (hpo : poss n z = true) (hc : Ints w a n z) :
    Calls Try.prog 30 #[.slice a n cap] w fun e w' => ∃ a' c', e = .returned (.tuple #[.slice a' (n - 1) c', .int .i64 0]) ∧ Own w' w.heap.size a' (n - 1) c' (opN n z) ∧ Below w.heap.size w w' := by
  have hp := isP_iff'.1 hP
  have h1 := hp.1
  have h7 := hp.2.1
  have HP := Lib.hid hP
  have HC := Lib.hid hc
  have HPo := Lib.hid hpo
  obtain ⟨p, hpn, hzp, hpos⟩ := pos_at hp.2.2 (show n - 1 < n by omega)
  have hix : ix n z ((n : Int) - 1) = p := by
    have : ((n - 1 : Nat) : Int) = (n : Int) - 1 := by omega
    rw [← this]; exact hpos
  have HIx := Lib.hid hix
  have HF : Hid (∀ j, catN p z (fun j => z (p + 1 + j)) j = opN n z j) := fun j => by unfold opN; rw [hix]; rfl
  clear hp hP hpo hix hpos hzp
  go_enter Try.func30, Try.ntmps30
  go_wp2_with (go_at_call 48; refine (isPileOf_r true _ _ _ _ _ HP.out (by omega) hc).mono ?_; rintro e w' ⟨rfl, rfl⟩; clear hc)
  refine (strip_any n _ (by omega) h1).mono ?_
  rintro e w2 ⟨ca, cc, rfl, hT, hc1, hc2, hlt, hb2⟩
  have HB2 := Lib.hid hb2
  have H3 := Lib.hid (possible_r true n ca (n - 1) cc (rowN 0 (n - 1)) a cap n z w2 HPo.out (by omega) (by omega) (rowN_len _ _) hT (HC.out.keep (Nat.le_refl _) hb2))
  clear hT hb2 hc1 hc2 hlt
  go_wp2_with fail
  refine H3.out.mono ?_
  rintro e w3 ⟨rfl, hb3⟩
  have HB3 : Hid (Below w.heap.size w w3) := HB2.out.trans (hb3.mono HB2.out.size)
  have HI3 := Lib.hid (HC.out.keep (Nat.le_refl _) HB3.out)
  have hI4 := index_any a cap n z ((n : Int) - 1) w3 (by omega) HI3.out
  rw [HIx.out] at hI4
  have HI4 := Lib.hid hI4
  clear hb3 hI4 HB2 H3
  go_wp2_with fail
  refine HI4.out.mono ?_
  rintro e w4 ⟨rfl, rfl⟩
  obtain ⟨b, o, rfl, hc0⟩ := HI3.out 0 (by omega)
  clear hc0
  have hp1 : (p : Int) < n := by omega
  have hp2 : (p : Int) + 1 ≤ n := by omega
  have hp3 : (n : Int) ≤ cap := by omega
  have hp4 : (p : Int) ≤ cap := by omega
  have HCat : Hid (∀ W', Below w3.heap.size w3 W' → ∀ bb c o2 c2, W'.cell? ⟨bb, 0, none⟩ = some (.slice (some ⟨b, o, none⟩) p cap) → W'.cell? ⟨bb, 1, none⟩ = some (.slice (some ⟨b, o2, none⟩) (n - (p + 1)) c2) → (o2 = o + (p + 1) ∨ n - (p + 1) = 0) →
      Calls Try.prog 61 #[.slice (some ⟨bb, 0, none⟩) 2 c] W' fun e w' => ∃ a' cap', e = .returned (.slice a' (n - 1) cap') ∧ Own w' w.heap.size a' (n - 1) cap' (opN n z) ∧ Below w.heap.size w w') := by
    intro W' hW bb c o2 c2 q0 q1 ho
    have hI' := HI3.out.keep (Nat.le_refl _) hW
    have hy : Ints W' (some ⟨b, o2, none⟩) (n - (p + 1)) (fun j => z (p + 1 + j)) := by
      rcases ho with rfl | h0
      · intro j hj
        obtain ⟨b', o', he, hcc⟩ := hI' (p + 1 + j) (by omega)
        cases he
        exact ⟨b, _, rfl, by rw [Nat.add_assoc]; exact hcc⟩
      · rw [h0]; exact fun j hj => absurd hj (Nat.not_lt_zero _)
    refine (concat_any bb c ⟨b, o, none⟩ ⟨b, o2, none⟩ cap c2 p (n - (p + 1)) z (fun j => z (p + 1 + j)) W' (by omega) (by omega) (hI'.take (by omega)) hy q0 q1).mono ?_
    rintro e w' ⟨a', c', rfl, hO, hb⟩
    rw [show p + (n - (p + 1)) = n - 1 by omega] at hO ⊢
    have hWW : w.heap.size ≤ W'.heap.size := Nat.le_trans HB3.out.size hW.size
    refine ⟨a', c', rfl, ?_, (HB3.out.trans (hW.mono HB3.out.size)).trans (hb.mono hWW)⟩
    have e : (catN p z fun j => z (p + 1 + j)) = opN n z := funext HF.out
    rw [e] at hO
    refine ⟨hO.1, ?_⟩
    rcases hO.2 with hn | ⟨g, cp, cur, hv, hg, r⟩
    · exact Or.inl hn
    · exact Or.inr ⟨g, cp, cur, hv, Nat.le_trans hWW hg, r⟩
  have HE := Lib.hid (fun (o2 c2 : Nat) => ((Below.refl w3.heap.size w3).alloc (Nat.le_refl _) (.cells #[.slice (some ⟨b, o, none⟩) p cap, .slice (some ⟨b, o2, none⟩) (n - (p + 1)) c2] 22)).drew)
  by_cases hpc : cap = p + 1
  · have hnp : n - (p + 1) = 0 := by omega
    have HC2 : Hid (∀ W', Below w3.heap.size w3 W' → ∀ bb c, W'.cell? ⟨bb, 0, none⟩ = some (.slice (some ⟨b, o, none⟩) p (p + 1)) → W'.cell? ⟨bb, 1, none⟩ = some (.slice (some ⟨b, o, none⟩) 0 0) →
        Calls Try.prog 61 #[.slice (some ⟨bb, 0, none⟩) 2 c] W' fun e w' => ∃ a' cap', e = .returned (.slice a' (n - 1) cap') ∧ Own w' w.heap.size a' (n - 1) cap' (opN n z) ∧ Below w.heap.size w w') :=
      fun W' hW bb c q0 q1 => HCat.out W' hW bb c o 0 (by rw [hpc]; exact q0) (by rw [hnp]; exact q1) (Or.inr hnp)
    have HE2 := Lib.hid (((Below.refl w3.heap.size w3).alloc (Nat.le_refl _) (.cells #[.slice (some ⟨b, o, none⟩) p (p + 1), .slice (some ⟨b, o, none⟩) 0 0] 22)).drew)
    have hnp' : (n : Int) = (p : Int) + 1 := by omega
    have hw1 : IntKind.i64.wrap ((p : Int) + 1) = (p : Int) + 1 := IntWalk.i64_in _ (by omega)
    have hw2 : ((p : Int) + 1).toNat = p + 1 := by omega
    have hw3 : 0 ≤ (p : Int) + 1 := by omega
    have hle : (p : Int) + 1 ≤ cap := by omega
    clear HE HCat
    go_wp2
    go_region_with (first
      | (go_at_call 61; refine (HC2.out _ HE2.out _ _ (block_cell (heap_alloc_new w3 _) 0) (block_cell (heap_alloc_new w3 _) 1)).mono ?_; rintro e w5 ⟨a5, c5, rfl, hO5, hb5⟩; have HO5 := Lib.hid hO5; have HB5 := Lib.hid hb5; clear hO5 hb5))
    all_goals go_wp2
    all_goals go_ret2
    all_goals exact ⟨a5, c5, rfl, HO5.out, HB5.out⟩
  · have hpc' : (p : Int) + 1 < cap := by omega
    have hw1 : IntKind.i64.wrap ((p : Int) + 1) = (p : Int) + 1 := IntWalk.i64_in _ (by omega)
    have hw2 : ((p : Int) + 1).toNat = p + 1 := by omega
    have hw3 : 0 ≤ (p : Int) + 1 := by omega
    go_wp2
    go_region_with (first
      | (go_at_call 61; refine (HCat.out _ (HE.out _ _) _ _ _ _ (block_cell (heap_alloc_new w3 _) 0) (block_cell (heap_alloc_new w3 _) 1) (Or.inl rfl)).mono ?_; rintro e w5 ⟨a5, c5, rfl, hO5, hb5⟩; have HO5 := Lib.hid hO5; have HB5 := Lib.hid hb5; clear hO5 hb5))
    all_goals go_wp2
    all_goals go_ret2
    all_goals exact ⟨a5, c5, rfl, HO5.out, HB5.out⟩

end Go.Proofs.Ytmbccdjoliegiaa
