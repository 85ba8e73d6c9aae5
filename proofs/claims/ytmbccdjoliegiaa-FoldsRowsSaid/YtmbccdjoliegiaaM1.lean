import Derived.Test.YtmbccdjoliegiaaT3
namespace Go.Proofs.Ytmbccdjoliegiaa
open Go.RowKit

set_option maxHeartbeats 2000000 in
set_option maxRecDepth 100000 in
theorem growC_nil (n : Nat) (w : World) (hn : n ≤ 100) :
    Calls Try.prog 84 #[.slice none 0 0, .int .i64 n] w fun e w' => ∃ v, e = .returned v ∧ w'.ownsRow w.heap.size 84 3 v 0 [] ∧ Below w.heap.size w w' := by
  obtain ⟨i0, hi, hz0, hz1, hz2⟩ := info_parts Try.infoC
  by_cases h0 : n = 0
  · subst h0
    go_enter Try.func84, Try.ntmps84
    go_wp2
    go_ret
    exact ⟨_, rfl, World.ownsRow_nil _ _ _ _, Below.refl _ _⟩
  · have hpos : (0 : Int) < n := by omega
    have hold : (Builtin.firstCells i0.size 0 (.slice none 0 0)).run Try.prog w.drew = .ok ([] : List Value).toArray w.drew := run_firstCells_none w.drew i0.size 0 0 0
    have hrz : ∀ ty, (Builtin.append_ #[60, 3] ty #[.slice none 0 0, .int .i64 (n : Int)]).run Try.prog w =
        .ok (.slice (some ⟨w.heap.size, 0, none⟩) n (grownCap w n 0 84)) (w.drew.alloc (.cells (#[] ++ Builtin.zeroCells (Value.agg #[.int .i64 0, .int .i64 0, .int .i64 0]).cells n ++ Builtin.zeroCells (Value.agg #[.int .i64 0, .int .i64 0, .int .i64 0]).cells (grownCap w n 0 84 - n)) 84)) := fun ty => by
      have h := Lib.run_append_grow_zeros w 60 3 ty 84 i0 (.agg #[.int .i64 0, .int .i64 0, .int .i64 0]) .i64 .i64 Try.underlying60 Try.underlying3 hi hz0 none 0 0 [] hold n (by omega) (by omega) (by omega) (by omega)
        (by rw [hz2]; omega)
        (by rw [Nat.zero_add]; exact growslice_fits (by omega) (by rw [hz2]; omega))
      rw [Nat.zero_add] at h
      exact h
    have hG := grownCap_ge w n 0 84
    have hGm := grownCap_le_maxLen w n 0 84 (by unfold maxLen; omega)
    generalize grownCap w n 0 84 = G at hrz hG hGm
    have hsz : (#[] ++ Builtin.zeroCells (Value.agg #[.int .i64 0, .int .i64 0, .int .i64 0]).cells n ++ Builtin.zeroCells (Value.agg #[.int .i64 0, .int .i64 0, .int .i64 0]).cells (G - n) : Array Value).size = G * 3 := by
      simp [size_zeroCells, Value.cells]; omega
    generalize (#[] ++ Builtin.zeroCells (Value.agg #[.int .i64 0, .int .i64 0, .int .i64 0]).cells n ++ Builtin.zeroCells (Value.agg #[.int .i64 0, .int .i64 0, .int .i64 0]).cells (G - n) : Array Value) = cs at hrz hsz
    have HO : Hid ((w.drew.alloc (.cells cs 84)).ownsRow w.heap.size 84 3 (.slice (some ⟨w.heap.size, 0, none⟩) 0 G) 0 []) := World.ownsRow_made w.drew cs G (Nat.le_refl _) hGm hsz
    have HB : Hid (Below w.heap.size w (w.drew.alloc (.cells cs 84))) := (Below.refl _ w).drew.alloc (Nat.le_refl _) _
    have hG63 : G ≤ 9223372036854775807 := by unfold maxLen at hGm; omega
    clear hsz hold hGm
    go_enter Try.func84, Try.ntmps84
    go_wp2_with (at_builtin; refine Lib.wpList_append_run _ rfl _ _ _ _ rfl _ _ rfl rfl _ _ (hrz _) ?_)
    all_goals (go_ret; exact ⟨_, rfl, HO.out, HB.out⟩)

/-- What an append of a slice of triples asks. -/
theorem OwnT.news {e : TypeId} {w : World} {base n cap : Nat} {ad : Addr} {l : List Tri} (h : OwnT e w base (.slice (some ad) n cap) l) : ∀ (j : Nat) (u : Value), (l.flatMap tcell)[j]? = some u → w.cell? (ad.add j) = some u := by
  rcases h.2 with ⟨he, _⟩ | ⟨g, cp, cur, he, _⟩
  · cases he
  · cases he
    exact World.ownsRow.cells h (g := g) rfl
theorem tri_ok (l : List Tri) : ∀ u ∈ l.flatMap tcell, u.oneCell' = true := fun u hu => by
  obtain ⟨t, _, ht⟩ := List.mem_flatMap.1 hu
  exact three_ok t u ht
theorem tri_len (l : List Tri) : (l.flatMap tcell).length = l.length * 3 := by
  induction l with
  | nil => rfl
  | cons t l ih => rw [List.flatMap_cons, List.length_append, ih, List.length_cons]; simp [tcell]; omega

set_option maxHeartbeats 4000000 in
set_option maxRecDepth 100000 in
theorem concatC_any (b c : Nat) (ad1 ad2 : Addr) (c1 c2 n1 n2 b1 b2 : Nat) (x y : List Tri) (w : World) (h1 : n1 ≤ 40) (h2 : n2 ≤ 40) (e1 : x.length = n1) (e2 : y.length = n2) (hx : OwnT 84 w b1 (.slice (some ad1) n1 c1) x) (hy : OwnT 84 w b2 (.slice (some ad2) n2 c2) y)
    (q0 : w.cell? ⟨b, 0, none⟩ = some (.slice (some ad1) n1 c1)) (q1 : w.cell? ⟨b, 1, none⟩ = some (.slice (some ad2) n2 c2)) :
    Calls Try.prog 79 #[.slice (some ⟨b, 0, none⟩) 2 c] w fun e w' => ∃ v, e = .returned v ∧ OwnT 84 w' w.heap.size v (x ++ y) ∧ Below w.heap.size w w' := by
  have HX := Lib.hid hx
  have HY := Lib.hid hy
  have hlt := World.block_lt_of_cell? _ _ q0
  have Q0 := Lib.hid q0
  have Q1 := Lib.hid q1
  have E1 := Lib.hid e1
  have E2 := Lib.hid e2
  have hc1 : Hid (n1 ≤ c1 ∧ c1 ≤ maxLen) := by obtain ⟨a, cp, he, _, h3, h4, _⟩ := hx.read; cases he; exact ⟨by omega, h4⟩
  have hc2 : Hid (n2 ≤ c2 ∧ c2 ≤ maxLen) := by obtain ⟨a, cp, he, _, h3, h4, _⟩ := hy.read; cases he; exact ⟨by omega, h4⟩
  have hc1a := hc1.out.1
  have hc2a := hc2.out.1
  have hc1b : c1 ≤ 9223372036854775807 := by have := hc1.out.2; unfold maxLen at this; omega
  have hc2b : c2 ≤ 9223372036854775807 := by have := hc2.out.2; unfold maxLen at this; omega
  clear hx hy e1 e2
  obtain ⟨i0, hi, hz0, hz1, hz2⟩ := info_parts Try.infoC
  have hgr := growC_nil (n1 + n2) w (by omega)
  rw [Int.natCast_add] at hgr
  have HGr := Lib.hid hgr
  clear hgr
  go_enter Try.func79, Try.ntmps79
  go_wp2
  refine wp_loop_rounds 3 ?_
  rw [rounds_succ]
  go_wp2
  rw [rounds_succ]
  go_wp2
  rw [rounds_succ]
  go_wp2_with fail
  refine HGr.out.mono ?_
  rintro e w2 ⟨v2, rfl, hO2, hb2⟩
  have HO2 := Lib.hid hO2
  have HB2 := Lib.hid hb2
  have p0 : w2.cell? ⟨b, 0, none⟩ = some (.slice (some ad1) n1 c1) := (hb2.cell (p := ⟨b, 0, none⟩) hlt).trans q0
  have p1 : w2.cell? ⟨b, 1, none⟩ = some (.slice (some ad2) n2 c2) := (hb2.cell (p := ⟨b, 1, none⟩) hlt).trans q1
  have hs2 := hb2.size
  clear hO2 hb2 q0 q1
  go_wp2
  refine wp_loop_rounds 3 ?_
  rw [rounds_succ]
  go_wp2_with (at_builtin; refine wpList_append_own _ rfl _ _ 60 rfl w.heap.size 84 i0 (.agg #[.int .i64 0, .int .i64 0, .int .i64 0]) 3 24 Try.underlying60 hi hz0 hz1 hz2 rfl (by decide) _ _ _ rfl HO2.out ad1 n1 c1 (x.flatMap tcell) rfl (by rw [tri_len, E1.out]) (HX.out.keep HB2.out).news (tri_ok x) (by unfold maxLen; omega) (by omega) hs2 ?_)
  intro v3 w3 hown3 hgrow3 _
  have hb3 : Below w.heap.size w w3 := HB2.out.grown hgrow3 hs2 (fun k hk => (World.ownsRow.lt HO2.out k hk).1)
  have HO3 := Lib.hid hown3
  have HB3 := Lib.hid hb3
  have r1 : w3.cell? ⟨b, 1, none⟩ = some (.slice (some ad2) n2 c2) := (hb3.cell (p := ⟨b, 1, none⟩) hlt).trans Q1.out
  have hs3 := hb3.size
  clear hown3 hgrow3 hb3 p0 p1
  go_wp2
  rw [rounds_succ]
  go_wp2_with (at_builtin; refine wpList_append_own _ rfl _ _ 60 rfl w.heap.size 84 i0 (.agg #[.int .i64 0, .int .i64 0, .int .i64 0]) 3 24 Try.underlying60 hi hz0 hz1 hz2 rfl (by decide) _ _ _ rfl HO3.out ad2 n2 c2 (y.flatMap tcell) rfl (by rw [tri_len, E2.out]) (HY.out.keep HB3.out).news (tri_ok y) (by unfold maxLen; omega) (by omega) hs3 ?_)
  intro v4 w4 hown4 hgrow4 _
  have hb4 : Below w.heap.size w w4 := HB3.out.grown hgrow4 hs3 (fun k hk => (World.ownsRow.lt HO3.out k hk).1)
  have HO4 : Hid (OwnT 84 w4 w.heap.size v4 (x ++ y)) := by
    unfold Hid OwnT
    rw [List.length_append, List.flatMap_append, E1.out, E2.out]
    simpa using hown4
  have HB4 := Lib.hid hb4
  clear hown4 hgrow4 hb4 r1
  go_wp2
  rw [rounds_succ]
  go_wp2
  go_ret
  exact ⟨_, rfl, HO4.out, HB4.out⟩

end Go.Proofs.Ytmbccdjoliegiaa
