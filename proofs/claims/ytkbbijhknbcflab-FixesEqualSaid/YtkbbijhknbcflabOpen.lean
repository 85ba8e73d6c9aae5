/-
  The arguments of a statement, opened: a works, a string, an int.
-/
import Derived.Test.YtkbbijhknbcflabRows
import Derived.Test.YtkbbijhknbcflabA3
import Derived.ProofKit
import Derived.SizedLaws
import Derived.Deep.Matrix
import Derived.Deep.Grids
import Derived.Lib.SmallJoins
namespace Go.Proofs.Ytkbbijhknbcflab
open Go.ChangeShapes Go.WideShapes Go.ChangeAt Go.RowKit Go.Deep Go.Joins

theorem Try.own : ownKnob Try.prog.godebug = none := by kernel_rfl
theorem Try.laidOut : laidOutB Try.prog = true := by kernel_rfl
theorem Try.cellsInt : Try.prog.cellsOf 3 = 1 := by kernel_rfl
theorem Try.cellsRWk : Try.prog.cellsOf 24 = 2 := by kernel_rfl
theorem Try.bytesInt : Try.prog.bytesOf 3 = 8 := by kernel_rfl
theorem reachB_is : reachBytes = 140737488351232 := rfl

theorem spot_none {w : World} {ad : Addr} {v : Value} (h : w.cell? (ad.add 0) = some v) : ad.spot = none := by
  simpa [Addr.add] using World.cell?_spot h

set_option maxRecDepth 100000 in
/-- A slice of ints. -/
theorem trod_I {H : Type} {enc : TypeId × Value → H} {W : World} {v : Value} {y : DataW H × List MemPlace} {fuel : Nat}
    (hf : DataW.trod enc Try.prog W 0 (fun _ => true) true fuel 22 [v] = some y) (hw : ∀ k ∈ y.1.weights Try.prog 22, k ≤ reachBytes) :
    ∃ a n cap z, v = .slice a n cap ∧ n ≤ cap ∧ n * 8 ≤ 140737488355328 ∧ Ints W a n z := by
  rcases open_ints Try.underlying22 Try.underlying3 Try.cellsInt hf with ⟨hcs, _⟩ | ⟨ad, n, cap, zs, hcs, _, hl, _, hz, hx, hcell, _⟩
  · simp at hcs
    exact ⟨none, 0, 0, fun _ => 0, hcs, Nat.le_refl _, (by decide), Ints.none⟩
  · simp at hcs
    subst hx
    simp only [if_true] at hz
    have hn8 : n * 8 ≤ 140737488355328 := by
      have := hw ((zs.take n).length * 8 + (zs.drop n).length * 8) (by simp [DataW.weights, Try.underlying22, Try.bytesInt, lits, Nat.add_mul])
      rw [reachB_is] at this
      simp only [List.length_take, List.length_drop] at this
      omega
    refine ⟨some ad, n, cap, fun j => zs.getD j 0, hcs, hl, hn8, fun j hj => ?_⟩
    have hc := hcell j (by omega)
    have hc0 := hcell 0 (by omega)
    obtain ⟨b, o, s⟩ := ad
    have := spot_none hc0
    simp only at this
    subst this
    rw [add_at] at hc
    exact ⟨b, o, rfl, hc⟩

set_option maxRecDepth 100000 in
theorem view_W {H : Type} {enc : TypeId × Value → H} {W : World} {base : Nat} {v : Value} {d : DataW H} {p : List MemPlace} (hok : Value.okWide Try.prog W .any base 24 v)
    (h : DataW.Trod enc Try.prog W 0 (fun _ => true) true 24 v d p) (hw : ∀ k ∈ d.weights Try.prog 24, k ≤ reachBytes) :
    ∃ aT n cT aL m cL T L, v = wkV aT n cT aL m cL ∧ n ≤ cT ∧ n * 8 ≤ 140737488355328 ∧ m ≤ cL ∧ m * 8 ≤ 140737488355328 ∧ Ints W aT n T ∧ Ints W aL m L := by
  obtain ⟨v0, v1, y0, y1, fuel, rfl, rfl, rfl, h0, h1⟩ := open_agg2 Try.underlying24 (by kernel_rfl) Try.cellsRWk hok h
  have hw' : ∀ k, k ∈ y0.1.weights Try.prog 22 ∨ k ∈ y1.1.weights Try.prog 22 → k ≤ reachBytes := fun k hk => hw k (by
    simp only [DataW.weights, Try.underlying24]
    simp only [List.map, DataW.weightsEach, List.mem_append]
    rcases hk with hk | hk
    · exact Or.inl hk
    · exact Or.inr (Or.inl hk))
  obtain ⟨aT, n, cT, T, rfl, k1, k2, k3⟩ := trod_I h0 (fun k hk => hw' k (Or.inl hk))
  obtain ⟨aL, m, cL, L, rfl, k4, k5, k6⟩ := trod_I h1 (fun k hk => hw' k (Or.inr hk))
  exact ⟨aT, n, cT, aL, m, cL, T, L, rfl, k1, k2, k4, k5, k3, k6⟩

set_option maxRecDepth 100000 in
theorem view_N {H : Type} {enc : TypeId × Value → H} {W : World} {base : Nat} {v : Value} {d : DataW H} {p : List MemPlace} (hok : Value.okWide Try.prog W .any base 3 v)
    (h : DataW.Trod enc Try.prog W 0 (fun _ => true) true 3 v d p) : ∃ x : Int, v = .int .i64 x ∧ -9223372036854775808 ≤ x ∧ x ≤ 9223372036854775807 := by
  obtain ⟨x, rfl⟩ := okWide_int Try.underlying3 hok
  obtain ⟨fuel, hf⟩ := h
  obtain ⟨y, hy, _, hwf⟩ := DataW.trod_int Try.underlying3 hf
  simp [Value.cells] at hy
  subst hy
  simp only [Lit.wf, Bool.and_eq_true, decide_eq_true_eq] at hwf
  exact ⟨x, rfl, hwf.1, hwf.2⟩

set_option maxRecDepth 100000 in
theorem view_S {H : Type} {enc : TypeId × Value → H} {W : World} {base : Nat} {v : Value} {d : DataW H} {p : List MemPlace} (hok : Value.okWide Try.prog W .any base 9 v)
    (h : DataW.Trod enc Try.prog W 0 (fun _ => true) true 9 v d p) : ∃ s : ByteArray, v = .string s ∧ s.size ≤ 9223372036854775807 := by
  obtain ⟨s, rfl, _, _, hs⟩ := Go.ChangeMaps.open_string Try.underlying9 hok h
  exact ⟨s, rfl, by unfold maxLen at hs; omega⟩
end Go.Proofs.Ytkbbijhknbcflab
