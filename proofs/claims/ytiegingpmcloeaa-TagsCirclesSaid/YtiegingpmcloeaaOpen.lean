/-
  The arguments of a statement, opened: a slice of orders, two jars, an int.
-/
import Derived.Test.YtiegingpmcloeaaRows
import Derived.Test.YtiegingpmcloeaaMath1
import Derived.ProofKit
import Derived.SizedLaws
import Derived.OpenShut
import Derived.Deep.Slices
import Derived.Lib.SmallJoins
namespace Go.Proofs.Ytiegingpmcloeaa
open Go.ChangeShapes Go.WideShapes Go.ChangeAt Go.RowKit Go.Deep Go.Joins

theorem Try.own : ownKnob Try.prog.godebug = none := by kernel_rfl
theorem Try.laidOut : laidOutB Try.prog = true := by kernel_rfl
theorem Try.cellsInt : Try.prog.cellsOf 3 = 1 := by kernel_rfl
theorem Try.cellsRO : Try.prog.cellsOf 49 = 4 := by kernel_rfl
theorem Try.cellsA2 : Try.prog.cellsOf 23 = 2 := by kernel_rfl
theorem Try.bytesRO : Try.prog.bytesOf 49 = 32 := by kernel_rfl
instance : Inhabited Q := ⟨⟨0, 0, 0, 0⟩⟩
theorem reach_is : reachBytes = 140737488351232 := rfl

theorem spot_none {w : World} {ad : Addr} {v : Value} (h : w.cell? (ad.add 0) = some v) : ad.spot = none := by
  simpa [Addr.add] using World.cell?_spot h

set_option maxRecDepth 100000 in
/-- An order's four cells. -/
theorem trod_RO {H : Type} {enc : TypeId × Value → H} {W : World} {cs : List Value} {y : DataW H × List MemPlace} {fuel : Nat}
    (h : DataW.trod enc Try.prog W 0 (fun _ => true) true fuel 49 cs = some y) : ∃ q : Q, cs = [.int .i64 q.d, .int .i64 q.j, .int .i64 q.t, .int .i64 q.e] := by
  obtain ⟨y0, y1, y2, y3, n, _, hl, h0, h1, h2, h3⟩ := trod_struct4 Try.underlying49 h
  rw [Try.cellsRO] at hl
  match cs, hl with
  | [v0, v1, v2, v3], _ =>
    simp only [Try.cellsInt, List.drop_zero, List.drop_succ_cons, List.take_succ_cons, List.take_zero] at h0 h1 h2 h3
    obtain ⟨d, ed, _⟩ := DataW.trod_int Try.underlying3 h0
    obtain ⟨j, ej, _⟩ := DataW.trod_int Try.underlying3 h1
    obtain ⟨t, et, _⟩ := DataW.trod_int Try.underlying3 h2
    obtain ⟨e, ee, _⟩ := DataW.trod_int Try.underlying3 h3
    simp at ed ej et ee
    subst ed ej et ee
    exact ⟨⟨d, j, t, e⟩, rfl⟩

set_option maxRecDepth 100000 in
theorem view_O {H : Type} {enc : TypeId × Value → H} {W : World} {base : Nat} {v : Value} {d : DataW H} {p : List MemPlace} (hok : Value.okWide Try.prog W .any base 22 v)
    (h : DataW.Trod enc Try.prog W 0 (fun _ => true) true 22 v d p) (hw : ∀ k ∈ d.weights Try.prog 22, k ≤ reachBytes) :
    ∃ a n cap M, v = .slice a n cap ∧ n ≤ cap ∧ n ≤ 140737488351232 ∧ Ords W a n M := by
  obtain ⟨a, n, cap, rfl⟩ := okWide_slice Try.underlying22 hok
  obtain ⟨fuel, hf⟩ := h
  rcases open_slice Try.underlying22 hf with ⟨hcs, _⟩ | ⟨ad, len', cap', m, f, D, Pl, hcs, _, hl, _, hmm, hx, hall⟩
  · simp [Value.cells] at hcs
    obtain ⟨rfl, rfl, rfl⟩ := hcs
    exact ⟨none, 0, 0, fun _ => ⟨0, 0, 0, 0⟩, rfl, Nat.le_refl _, (by decide), fun _ hj => absurd hj (Nat.not_lt_zero _)⟩
  · simp [Value.cells] at hcs
    obtain ⟨rfl, rfl, rfl⟩ := hcs
    simp only [Prod.mk.injEq] at hx
    obtain ⟨rfl, _⟩ := hx
    simp only [if_true] at hmm
    subst hmm
    have hn : n ≤ 140737488351232 := by
      have := hw ((n + (m - n)) * 32) (by simp [DataW.weights, Try.underlying22, Try.bytesRO])
      rw [reach_is] at this
      omega
    have each : ∀ i, i < n → ∃ q : Q, W.cell? (ad.add (i * 4)) = some (.int .i64 q.d) ∧ W.cell? (ad.add (i * 4 + 1)) = some (.int .i64 q.j) ∧ W.cell? (ad.add (i * 4 + 2)) = some (.int .i64 q.t) ∧ W.cell? (ad.add (i * 4 + 3)) = some (.int .i64 q.e) := by
      intro i hi
      obtain ⟨cs', h1, h2⟩ := hall i (by omega)
      rw [Try.cellsRO] at h1
      obtain ⟨_, _, hcell⟩ := World.cells?_some h1
      obtain ⟨q, rfl⟩ := trod_RO h2
      have e0 := hcell 0 (by omega)
      have e1 := hcell 1 (by omega)
      have e2 := hcell 2 (by omega)
      have e3 := hcell 3 (by omega)
      rw [add_add] at e0 e1 e2 e3
      exact ⟨q, by simpa using e0, by simpa using e1, by simpa using e2, by simpa using e3⟩
    obtain ⟨M, hM⟩ := choose_lt each
    refine ⟨some ad, n, m, M, rfl, hl, hn, fun j hj => ?_⟩
    obtain ⟨c0, c1, c2, c3⟩ := hM j hj
    have hc0 := (hM 0 (by omega)).1
    obtain ⟨b, o, s⟩ := ad
    have := spot_none (by simpa using hc0)
    simp only at this
    subst this
    simp only [add_at] at c0 c1 c2 c3
    exact ⟨b, o, rfl, c0, by rw [Nat.add_assoc]; exact c1, by rw [Nat.add_assoc]; exact c2, by rw [Nat.add_assoc]; exact c3⟩

set_option maxRecDepth 100000 in
theorem view_J {H : Type} {enc : TypeId × Value → H} {W : World} {base : Nat} {v : Value} {d : DataW H} {p : List MemPlace} (hok : Value.okWide Try.prog W .any base 23 v)
    (h : DataW.Trod enc Try.prog W 0 (fun _ => true) true 23 v d p) : ∃ x y : Int, v = .agg #[.int .i64 x, .int .i64 y] ∧ (-9223372036854775808 ≤ x ∧ x ≤ 9223372036854775807) ∧ -9223372036854775808 ≤ y ∧ y ≤ 9223372036854775807 := by
  obtain ⟨cs, rfl, hsz, _⟩ : ∃ cs, v = .agg cs ∧ cs.size = Try.prog.cellsOf 23 ∧ Row.okWide Try.prog W .any base 23 cs := by
    simpa [Value.okWide, Try.underlying23] using hok
  rw [Try.cellsA2] at hsz
  obtain ⟨c0, c1, rfl⟩ := array2 hsz
  obtain ⟨fuel, hf⟩ := h
  obtain ⟨xs, m, _, _, _, hl, hel⟩ := DataW.trod_array Try.underlying23 hf
  match xs, hl with
  | [y0, y1], _ =>
    have g0 := hel 0 (by omega)
    have g1 := hel 1 (by omega)
    simp [Try.cellsInt, Value.cells] at g0 g1
    obtain ⟨x, ex, _, w0⟩ := DataW.trod_int Try.underlying3 g0
    obtain ⟨y, ey, _, w1⟩ := DataW.trod_int Try.underlying3 g1
    simp at ex ey
    subst ex ey
    simp only [Lit.wf, Bool.and_eq_true, decide_eq_true_eq] at w0 w1
    exact ⟨x, y, rfl, w0, w1⟩

set_option maxRecDepth 100000 in
theorem view_N {H : Type} {enc : TypeId × Value → H} {W : World} {base : Nat} {v : Value} {d : DataW H} {p : List MemPlace} (hok : Value.okWide Try.prog W .any base 3 v)
    (h : DataW.Trod enc Try.prog W 0 (fun _ => true) true 3 v d p) : ∃ x : Int, v = .int .i64 x ∧ -9223372036854775808 ≤ x ∧ x ≤ 9223372036854775807 := by
  obtain ⟨x, rfl⟩ := okWide_int Try.underlying3 hok
  obtain ⟨fuel, hf⟩ := h
  obtain ⟨y, hy, _, hwf⟩ := DataW.trod_int Try.underlying3 hf
  simp [Value.cells] at hy
  subst hy
  simp only [Lit.wf, Bool.and_eq_true, decide_eq_true_eq] at hwf
  exact ⟨x, rfl, hwf.1, hwf.2⟩

end Go.Proofs.Ytiegingpmcloeaa
