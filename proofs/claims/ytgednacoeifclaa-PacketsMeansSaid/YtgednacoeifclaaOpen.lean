/-
  The arguments of a statement, opened: a slice of ints, an int.
-/
import Derived.Test.YtgednacoeifclaaRows
import Derived.Test.YtgednacoeifclaaMem
import Derived.ProofKit
import Derived.SizedLaws
import Derived.Deep.Matrix
import Derived.Deep.Grids
import Derived.Lib.SmallJoins
namespace Go.Proofs.Ytgednacoeifclaa
open Go.ChangeShapes Go.WideShapes Go.ChangeAt Go.RowKit Go.Deep Go.Joins

theorem Try.own : ownKnob Try.prog.godebug = none := by kernel_rfl
theorem Try.laidOut : laidOutB Try.prog = true := by kernel_rfl
theorem Try.cellsInt : Try.prog.cellsOf 3 = 1 := by kernel_rfl
theorem Try.bytesInt : Try.prog.bytesOf 3 = 8 := by kernel_rfl
theorem reach_is : reachBytes = 140737488351232 := rfl

theorem spot_none {w : World} {ad : Addr} {v : Value} (h : w.cell? (ad.add 0) = some v) : ad.spot = none := by
  simpa [Addr.add] using World.cell?_spot h

set_option maxRecDepth 100000 in
/-- A slice of ints. -/
theorem trod_I {H : Type} {enc : TypeId × Value → H} {W : World} {v : Value} {y : DataW H × List MemPlace} {fuel : Nat}
    (hf : DataW.trod enc Try.prog W 0 (fun _ => true) true fuel 22 [v] = some y) (hw : ∀ k ∈ y.1.weights Try.prog 22, k ≤ reachBytes) :
    ∃ a n cap z, v = .slice a n cap ∧ n ≤ cap ∧ n * 8 ≤ 140737488355328 ∧ Ints W a n z := by
  rcases open_ints Try.underlying22 Try.underlying3 Try.cellsInt hf with ⟨hcs, _⟩ | ⟨ad, n, cap, zs, hcs, _, hl, _, hz, hx, hcell, _⟩
  · simp at hcs
    exact ⟨none, 0, 0, fun _ => 0, hcs, Nat.le_refl _, (by decide), Ints.none⟩
  · simp at hcs
    subst hx
    simp only [if_true] at hz
    have hn8 : n * 8 ≤ 140737488355328 := by
      have := hw ((zs.take n).length * 8 + (zs.drop n).length * 8) (by simp [DataW.weights, Try.underlying22, Try.bytesInt, lits, Nat.add_mul])
      rw [reach_is] at this
      simp only [List.length_take, List.length_drop] at this
      omega
    refine ⟨some ad, n, cap, fun j => zs.getD j 0, hcs, hl, hn8, fun j hj => ?_⟩
    have hc := hcell j (by omega)
    have hc0 := hcell 0 (by omega)
    obtain ⟨b, o, s⟩ := ad
    have := spot_none hc0
    simp only at this
    subst this
    rw [add_at] at hc
    exact ⟨b, o, rfl, hc⟩

set_option maxRecDepth 100000 in
theorem view_I {H : Type} {enc : TypeId × Value → H} {W : World} {base : Nat} {v : Value} {d : DataW H} {p : List MemPlace} (hok : Value.okWide Try.prog W .any base 22 v)
    (h : DataW.Trod enc Try.prog W 0 (fun _ => true) true 22 v d p) (hw : ∀ k ∈ d.weights Try.prog 22, k ≤ reachBytes) :
    ∃ a n cap z, v = .slice a n cap ∧ n ≤ cap ∧ n * 8 ≤ 140737488355328 ∧ Ints W a n z := by
  obtain ⟨a, n, cap, rfl⟩ := okWide_slice Try.underlying22 hok
  obtain ⟨fuel, hf⟩ := h
  exact trod_I (v := .slice a n cap) hf hw

set_option maxRecDepth 100000 in
theorem view_N {H : Type} {enc : TypeId × Value → H} {W : World} {base : Nat} {v : Value} {d : DataW H} {p : List MemPlace} (hok : Value.okWide Try.prog W .any base 3 v)
    (h : DataW.Trod enc Try.prog W 0 (fun _ => true) true 3 v d p) : ∃ x : Int, v = .int .i64 x ∧ -9223372036854775808 ≤ x ∧ x ≤ 9223372036854775807 := by
  obtain ⟨x, rfl⟩ := okWide_int Try.underlying3 hok
  obtain ⟨fuel, hf⟩ := h
  obtain ⟨y, hy, _, hwf⟩ := DataW.trod_int Try.underlying3 hf
  simp [Value.cells] at hy
  subst hy
  simp only [Lit.wf, Bool.and_eq_true, decide_eq_true_eq] at hwf
  exact ⟨x, rfl, hwf.1, hwf.2⟩

end Go.Proofs.Ytgednacoeifclaa
