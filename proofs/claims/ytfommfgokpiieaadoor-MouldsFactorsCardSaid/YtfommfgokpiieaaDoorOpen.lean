/-
  The arguments of a statement, opened (a string, a slice of points, a point, an int), and what the listed variables give.
-/
import Derived.Test.YtfommfgokpiieaaDoorCards
import Derived.Test.YtfommfgokpiieaaDoorTie
import Derived.Test.YtfommfgokpiieaaDoorA5
import Derived.ProofKit
import Derived.SizedLaws
import Derived.OpenShut
import Derived.Deep.Slices
import Derived.Lib.SmallJoins
import Derived.LaidMore
import Derived.Lay
import Derived.SevenTiedAt
import Derived.ChangeMaps5
import Derived.Stop.Joined
namespace Go.Proofs.YtfommfgokpiieaaDoor
open Go.ChangeShapes Go.WideShapes Go.ChangeAt Go.RowKit Go.Deep Go.Joins

theorem Tryd.own : ownKnob Tryd.prog.godebug = none := by kernel_rfl
theorem Tryd.laidOut : laidOutB Tryd.prog = true := by kernel_rfl
theorem Tryd.cellsInt : Tryd.prog.cellsOf 3 = 1 := by kernel_rfl
theorem Tryd.cellsP2 : Tryd.prog.cellsOf 33 = 2 := by kernel_rfl
theorem Tryd.cellsSteps : Tryd.prog.cellsOf 75 = 8 := by kernel_rfl
theorem Tryd.bytesP2 : Tryd.prog.bytesOf 33 = 16 := by kernel_rfl
theorem reach_is : reachBytes = 140737488351232 := rfl

theorem spot_none {w : World} {ad : Addr} {v : Value} (h : w.cell? (ad.add 0) = some v) : ad.spot = none := by
  simpa [Addr.add] using World.cell?_spot h

set_option maxRecDepth 100000 in
/-- A point's two cells. -/
theorem trod_P2 {H : Type} {enc : TypeId × Value → H} {W : World} {sp : Nat → Bool} {held : Bool} {cs : List Value} {y : DataW H × List MemPlace} {fuel : Nat}
    (h : DataW.trod enc Tryd.prog W 0 sp held fuel 33 cs = some y) : ∃ q r : Int, cs = [.int .i64 q, .int .i64 r] ∧ y.1 = .agg [.lit (.int .i64 q), .lit (.int .i64 r)] := by
  obtain ⟨xs, m, _, ex, hc, hl, hel⟩ := DataW.trod_array Tryd.underlying33 h
  rw [Tryd.cellsP2] at hc
  match xs, hl with
  | [y0, y1], _ =>
    match cs, hc with
    | [v0, v1], _ =>
      have g0 := hel 0 (by omega)
      have g1 := hel 1 (by omega)
      simp [Tryd.cellsInt] at g0 g1
      obtain ⟨q, eq, e0, _⟩ := DataW.trod_int Tryd.underlying3 g0
      obtain ⟨r, er, e1, _⟩ := DataW.trod_int Tryd.underlying3 g1
      simp at eq er
      subst eq er
      refine ⟨q, r, rfl, ?_⟩
      rw [ex, e0, e1]; rfl

set_option maxRecDepth 100000 in
theorem view_L {H : Type} {enc : TypeId × Value → H} {W : World} {base : Nat} {v : Value} {d : DataW H} {p : List MemPlace} (hok : Value.okWide Tryd.prog W .any base 24 v)
    (h : DataW.Trod enc Tryd.prog W 0 (fun _ => true) true 24 v d p) (hw : ∀ k ∈ d.weights Tryd.prog 24, k ≤ reachBytes) :
    ∃ (a : Option Addr) (n cap : Nat) (X Y : Nat → Int), v = .slice a n cap ∧ n ≤ cap ∧ n ≤ 8796093022208 ∧ CellsAt W a 2 n (fun i => pcell (X i) (Y i)) := by
  obtain ⟨a, n, cap, rfl⟩ := okWide_slice Tryd.underlying24 hok
  obtain ⟨fuel, hf⟩ := h
  rcases open_slice Tryd.underlying24 hf with ⟨hcs, _⟩ | ⟨ad, len', cap', m, f, D, Pl, hcs, _, hl, _, hmm, hx, hall⟩
  · simp [Value.cells] at hcs
    obtain ⟨rfl, rfl, rfl⟩ := hcs
    exact ⟨none, 0, 0, fun _ => 0, fun _ => 0, rfl, Nat.le_refl _, (by decide), fun _ hj => absurd hj (Nat.not_lt_zero _)⟩
  · simp [Value.cells] at hcs
    obtain ⟨rfl, rfl, rfl⟩ := hcs
    simp only [Prod.mk.injEq] at hx
    obtain ⟨rfl, _⟩ := hx
    simp only [if_true] at hmm
    subst hmm
    have hn : n ≤ 8796093022208 := by
      have := hw ((n + (m - n)) * 16) (by simp [DataW.weights, Tryd.underlying24, Tryd.bytesP2])
      rw [reach_is] at this
      omega
    have each : ∀ i, i < n → ∃ q : Int × Int, W.cell? (ad.add (i * 2)) = some (.int .i64 q.1) ∧ W.cell? (ad.add (i * 2 + 1)) = some (.int .i64 q.2) := by
      intro i hi
      obtain ⟨cs', h1, h2⟩ := hall i (by omega)
      rw [Tryd.cellsP2] at h1
      obtain ⟨_, _, hcell⟩ := World.cells?_some h1
      obtain ⟨q, r, rfl, _⟩ := trod_P2 h2
      have e0 := hcell 0 (by omega)
      have e1 := hcell 1 (by omega)
      rw [add_add] at e0 e1
      exact ⟨(q, r), by simpa using e0, by simpa using e1⟩
    obtain ⟨M, hM⟩ := choose_lt each
    refine ⟨some ad, n, m, fun i => (M i).1, fun i => (M i).2, rfl, hl, hn, fun j hj => ?_⟩
    obtain ⟨c0, c1⟩ := hM j hj
    have hc0 := (hM 0 (by omega)).1
    obtain ⟨b, o, s⟩ := ad
    have := spot_none (by simpa using hc0)
    simp only at this
    subst this
    simp only [add_at] at c0 c1
    refine ⟨b, o, rfl, fun i u hu => ?_⟩
    match i, hu with
    | 0, hu => simp [pcell] at hu; subst hu; exact c0
    | 1, hu => simp [pcell] at hu; subst hu; rw [Nat.add_assoc]; exact c1

set_option maxRecDepth 100000 in
theorem view_J {H : Type} {enc : TypeId × Value → H} {W : World} {base : Nat} {v : Value} {d : DataW H} {p : List MemPlace} (hok : Value.okWide Tryd.prog W .any base 33 v)
    (h : DataW.Trod enc Tryd.prog W 0 (fun _ => true) true 33 v d p) : ∃ x y : Int, v = .agg #[.int .i64 x, .int .i64 y] ∧ (-9223372036854775808 ≤ x ∧ x ≤ 9223372036854775807) ∧ -9223372036854775808 ≤ y ∧ y ≤ 9223372036854775807 := by
  obtain ⟨cs, rfl, hsz, _⟩ : ∃ cs, v = .agg cs ∧ cs.size = Tryd.prog.cellsOf 33 ∧ Row.okWide Tryd.prog W .any base 33 cs := by
    simpa [Value.okWide, Tryd.underlying33] using hok
  rw [Tryd.cellsP2] at hsz
  obtain ⟨c0, c1, rfl⟩ := array2 hsz
  obtain ⟨fuel, hf⟩ := h
  obtain ⟨xs, m, _, _, _, hl, hel⟩ := DataW.trod_array Tryd.underlying33 hf
  match xs, hl with
  | [y0, y1], _ =>
    have g0 := hel 0 (by omega)
    have g1 := hel 1 (by omega)
    simp [Tryd.cellsInt, Value.cells] at g0 g1
    obtain ⟨x, ex, _, w0⟩ := DataW.trod_int Tryd.underlying3 g0
    obtain ⟨y, ey, _, w1⟩ := DataW.trod_int Tryd.underlying3 g1
    simp at ex ey
    subst ex ey
    simp only [Lit.wf, Bool.and_eq_true, decide_eq_true_eq] at w0 w1
    exact ⟨x, y, rfl, w0, w1⟩

set_option maxRecDepth 100000 in
theorem view_N {H : Type} {enc : TypeId × Value → H} {W : World} {base : Nat} {v : Value} {d : DataW H} {p : List MemPlace} (hok : Value.okWide Tryd.prog W .any base 3 v)
    (h : DataW.Trod enc Tryd.prog W 0 (fun _ => true) true 3 v d p) : ∃ x : Int, v = .int .i64 x ∧ -9223372036854775808 ≤ x ∧ x ≤ 9223372036854775807 := by
  obtain ⟨x, rfl⟩ := okWide_int Tryd.underlying3 hok
  obtain ⟨fuel, hf⟩ := h
  obtain ⟨y, hy, _, hwf⟩ := DataW.trod_int Tryd.underlying3 hf
  simp [Value.cells] at hy
  subst hy
  simp only [Lit.wf, Bool.and_eq_true, decide_eq_true_eq] at hwf
  exact ⟨x, rfl, hwf.1, hwf.2⟩


set_option maxRecDepth 100000 in
theorem view_S {H : Type} {enc : TypeId × Value → H} {W : World} {base : Nat} {v : Value} {d : DataW H} {p : List MemPlace} (hok : Value.okWide Tryd.prog W .any base 9 v)
    (h : DataW.Trod enc Tryd.prog W 0 (fun _ => true) true 9 v d p) : ∃ s : ByteArray, v = .string s ∧ s.size ≤ 9223372036854775807 := by
  obtain ⟨s, rfl, _, _, hs⟩ := Go.ChangeMaps.open_string Tryd.underlying9 hok h
  exact ⟨s, rfl, by unfold maxLen at hs; omega⟩

/-- What the rows list. -/
def laid3 : List (String × DataW Unit) := [("unicode/utf8.acceptRanges", Rows.laid_unicode_utf8_acceptRanges), ("comfit/moulds.steps", Rows.laid_comfit_moulds_steps), ("unicode/utf8.first", Rows.laid_unicode_utf8_first)]
theorem Tryd.gNamed : Tryd.prog.globalNamed "comfit/moulds.steps" = some 0 := by kernel_rfl
theorem Tryd.gType : (Tryd.prog.globals[0]?).map (·.type) = some 75 := by kernel_rfl

set_option maxRecDepth 100000 in
theorem steps_of_laid {W : World} (h : laidMetH Tryd.prog laid3 W) : StepsAt W := by
  rw [MakeChecks.laidMetH_plain _ _ _ (by kernel_rfl)] at h
  obtain ⟨ps, ⟨g0, t0, cs0, f0, p0, q0, hg0, ht0, hv0, hd0, ⟨g1, t1, cs1, f1, p1, q1, hg1, ht1, hv1, hd1, _⟩, _⟩, _, _⟩ := h
  obtain rfl := Option.some.inj (Tryd.gNamed.symm.trans hg1)
  obtain rfl := Option.some.inj (Tryd.gType.symm.trans ht1)
  obtain ⟨xs, m, _, ex, hc, hl, hel⟩ := DataW.trod_array Tryd.underlying75 hd1
  rw [Tryd.cellsSteps] at hc
  match xs, hl with
  | [y0, y1, y2, y3], _ =>
    obtain ⟨l1⟩ := cs1
    simp only at hc hel
    match l1, hc with
    | [v0, v1, v2, v3, v4, v5, v6, v7], _ =>
      have k0 := hel 0 (by omega)
      have k1 := hel 1 (by omega)
      have k2 := hel 2 (by omega)
      have k3 := hel 3 (by omega)
      simp [Tryd.cellsP2] at k0 k1 k2 k3
      obtain ⟨a0, b0, e0, z0⟩ := trod_P2 k0
      obtain ⟨a1, b1, e1, z1⟩ := trod_P2 k1
      obtain ⟨a2, b2, e2, z2⟩ := trod_P2 k2
      obtain ⟨a3, b3, e3, z3⟩ := trod_P2 k3
      have ez := (DataW.agg.inj (Prod.mk.inj ex).1)
      simp [z0, z1, z2, z3] at ez e0 e1 e2 e3
      have cell : ∀ j, W.cell? ⟨0, j, none⟩ = [v0, v1, v2, v3, v4, v5, v6, v7][j]? := fun j => by
        have := World.var?_cell hg1 hv1 j
        simpa using this
      obtain ⟨⟨r0, s0⟩, ⟨r1, s1⟩, ⟨r2, s2⟩, r3, s3⟩ := ez
      obtain ⟨rfl, rfl⟩ := e0
      obtain ⟨rfl, rfl⟩ := e1
      obtain ⟨rfl, rfl⟩ := e2
      obtain ⟨rfl, rfl⟩ := e3
      subst r0 s0 r1 s1 r2 s2 r3 s3
      exact ⟨cell 0, cell 1, cell 2, cell 3, cell 4, cell 5, cell 6, cell 7⟩
end Go.Proofs.YtfommfgokpiieaaDoor
