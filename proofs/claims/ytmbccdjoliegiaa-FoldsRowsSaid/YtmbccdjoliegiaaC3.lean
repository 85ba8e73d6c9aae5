import Derived.Test.YtmbccdjoliegiaaC2
namespace Go.Proofs.Ytmbccdjoliegiaa
open Go.RowKit

/-- Do two creases of a pile cross? -/
def crossB (n : Nat) (z : Nat → Int) (c d : Tri) : Bool := (c.p == d.p) && (around n z c.q c.r d.q != around n z c.q c.r d.r)

/-- The two boxes of 'crosses'. -/
structure CrAt (w wr : World) (c d : Tri) : Prop where
  bel : Below w.heap.size w wr
  b0 : wr.heap[w.heap.size]? = some (.cells #[.int .i64 c.p, .int .i64 c.q, .int .i64 c.r] 84)
  b1 : wr.heap[w.heap.size + 1]? = some (.cells #[.int .i64 d.p, .int .i64 d.q, .int .i64 d.r] 84)
theorem CrAt.keep {w wr w' : World} {c d : Tri} (h : CrAt w wr c d) (hb : Below wr.heap.size wr w') : CrAt w w' c d :=
  ⟨h.bel.trans (hb.mono h.bel.size), (hb.block _ (Array.getElem?_eq_some_iff.1 h.b0).1).trans h.b0, (hb.block _ (Array.getElem?_eq_some_iff.1 h.b1).1).trans h.b1⟩
theorem CrAt.drew {w wr : World} {c d : Tri} (h : CrAt w wr c d) : CrAt w wr.drew c d := ⟨h.bel.drew, h.b0, h.b1⟩
theorem CrAt.cells {w wr : World} {c d : Tri} (h : CrAt w wr c d) :
    wr.cell? ⟨w.heap.size, 0, none⟩ = some (.int .i64 c.p) ∧ wr.cell? ⟨w.heap.size, 1, none⟩ = some (.int .i64 c.q) ∧ wr.cell? ⟨w.heap.size, 2, none⟩ = some (.int .i64 c.r) ∧
    wr.cell? ⟨w.heap.size + 1, 0, none⟩ = some (.int .i64 d.p) ∧ wr.cell? ⟨w.heap.size + 1, 1, none⟩ = some (.int .i64 d.q) ∧ wr.cell? ⟨w.heap.size + 1, 2, none⟩ = some (.int .i64 d.r) := by
  have h0 := block_cell h.b0
  have h1 := block_cell h.b1
  exact ⟨h0 0, h0 1, h0 2, h1 0, h1 1, h1 2⟩
theorem CrAt.start (w : World) (c d : Tri) : CrAt w ((w.alloc (.cells #[.int .i64 c.p, .int .i64 c.q, .int .i64 c.r] 84)).alloc (.cells #[.int .i64 d.p, .int .i64 d.q, .int .i64 d.r] 84)) c d :=
  ⟨((Below.refl _ w).alloc (Nat.le_refl _) _).alloc (by simp) _, heap_two1 _ _ _, heap_two2 _ _ _⟩

set_option maxHeartbeats 2000000 in
set_option maxRecDepth 100000 in
theorem crosses_any (c d : Tri) (a : Option Addr) (cap n : Nat) (z : Nat → Int) (w : World) (hs : n ≤ 140737488351232) (hc : Ints w a n z) :
    Calls Try.prog 70 #[.agg #[.int .i64 c.p, .int .i64 c.q, .int .i64 c.r], .agg #[.int .i64 d.p, .int .i64 d.q, .int .i64 d.r], .slice a n cap] w fun e w' => e = .returned (.bool (crossB n z c d)) ∧ Below w.heap.size w w' := by
  have HC := Lib.hid hc
  have H0 := Lib.hid (CrAt.start w c d)
  by_cases h : c.p = d.p
  · have G1 : (c.p == d.p) = true := by simp [h]
    have HR : Hid (crossB n z c d = (around n z c.q c.r d.q != around n z c.q c.r d.r)) := by simp [Hid, crossB, h]
    have HX : Hid (∀ W', CrAt w W' c d → ∀ x, Calls Try.prog 81 #[.agg #[.int .i64 c.p, .int .i64 c.q, .int .i64 c.r], .int .i64 x, .slice a n cap] W' fun e w' => e = .returned (.bool (around n z c.q c.r x)) ∧ CrAt w w' c d) :=
      fun W' hW x => (isAround_any c.p c.q c.r x a cap n z W' hs (HC.out.keep (Nat.le_refl _) hW.bel)).mono fun e w' h => ⟨h.1, hW.keep h.2⟩
    clear h hc
    go_enter Try.func70, Try.ntmps70
    go_wp2
    go_region_held3 (fun w' => w'.cell? ⟨w.heap.size, 0, none⟩ = some (.int .i64 c.p) ∧ w'.cell? ⟨w.heap.size, 1, none⟩ = some (.int .i64 c.q) ∧ w'.cell? ⟨w.heap.size, 2, none⟩ = some (.int .i64 c.r) ∧
        w'.cell? ⟨w.heap.size + 1, 0, none⟩ = some (.int .i64 d.p) ∧ w'.cell? ⟨w.heap.size + 1, 1, none⟩ = some (.int .i64 d.q) ∧ w'.cell? ⟨w.heap.size + 1, 2, none⟩ = some (.int .i64 d.r))
      (first
        | (go_split_ands; exact H2.out.cells)
        | (go_split_ands; exact H1.out.cells)
        | (go_split_ands; exact H0.out.drew.cells)
        | (go_split_ands; exact H0.out.cells)
        | go_keep)
      ((first
        | ((with_reducible refine (HX.out _ H1.out _).mono ?_); rintro e w2 ⟨rfl, h2⟩; have H2 := Lib.hid h2; clear h2)
        | ((with_reducible refine (HX.out _ H0.out.drew _).mono ?_); rintro e w1 ⟨rfl, h1⟩; have H1 := Lib.hid h1; clear h1)))
    all_goals go_wp2
    all_goals go_ret
    all_goals exact ⟨by rw [HR.out]; rfl, H2.out.bel⟩
  · have G1 : (c.p == d.p) = false := by simpa using h
    have HR : Hid (crossB n z c d = false) := by simp [Hid, crossB, h]
    clear h hc
    go_enter Try.func70, Try.ntmps70
    go_wp2
    go_quiet (fail)
    go_wp2
    go_ret
    exact ⟨by rw [HR.out]; rfl, ⟨rfl, rfl, rfl, H0.out.bel.size, H0.out.bel.block⟩⟩

end Go.Proofs.Ytmbccdjoliegiaa
