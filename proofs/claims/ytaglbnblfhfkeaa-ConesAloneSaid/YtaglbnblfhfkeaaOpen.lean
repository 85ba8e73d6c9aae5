/-
  The arguments of a statement, opened: a slice of ints, a slice of slices of ints.
-/
import Derived.Test.YtaglbnblfhfkeaaRows
import Derived.Test.YtaglbnblfhfkeaaMem
import Derived.ProofKit
import Derived.SizedLaws
import Derived.Deep.Matrix
namespace Go.Proofs.Ytaglbnblfhfkeaa
open Go.ChangeShapes Go.WideShapes Go.ChangeAt Go.RowKit Go.Deep

theorem Try.own : ownKnob Try.prog.godebug = none := by kernel_rfl
theorem Try.laidOut : laidOutB Try.prog = true := by kernel_rfl
theorem Try.cellsInt : Try.prog.cellsOf 3 = 1 := by kernel_rfl
theorem Try.cellsI : Try.prog.cellsOf 23 = 1 := by kernel_rfl
theorem Try.bytesInt : Try.prog.bytesOf 3 = 8 := by kernel_rfl
theorem Try.bytesI : Try.prog.bytesOf 23 = 24 := by kernel_rfl
theorem reach_is : reachBytes = 140737488351232 := rfl

theorem spot_none {w : World} {ad : Addr} {v : Value} (h : w.cell? (ad.add 0) = some v) : ad.spot = none := by
  simpa [Addr.add] using World.cell?_spot h

theorem weights_mem_all {H : Type} {P : Program} {e : TypeId} {n : Nat} : ∀ {l : List (DataW H)} {d : DataW H}, d ∈ l → n ∈ d.weights P e → n ∈ DataW.weightsAll P e l
  | d0 :: l, d, hd, hn => by
    simp only [DataW.weightsAll, List.mem_append]
    rcases List.mem_cons.1 hd with rfl | h
    · exact Or.inl hn
    · exact Or.inr (weights_mem_all h hn)

set_option maxRecDepth 100000 in
/-- A slice of ints that came in. -/
theorem view_I {H : Type} {enc : TypeId × Value → H} {W : World} {base : Nat} {v : Value} {d : DataW H} {p : List MemPlace} (hok : Value.okWide Try.prog W .any base 23 v)
    (h : DataW.Trod enc Try.prog W 0 (fun _ => true) true 23 v d p) (hw : ∀ k ∈ d.weights Try.prog 23, k ≤ reachBytes) :
    ∃ a n cap z, v = .slice a n cap ∧ n ≤ cap ∧ n * 8 ≤ 140737488351232 ∧ Ints W a n z := by
  obtain ⟨a, n, cap, rfl⟩ := okWide_slice Try.underlying23 hok
  obtain ⟨fuel, hf⟩ := h
  rcases open_ints Try.underlying23 Try.underlying3 Try.cellsInt hf with ⟨hcs, _⟩ | ⟨ad, len', cap', zs, hcs, _, hl, _, hz, hx, hcell, _⟩
  · simp [Value.cells] at hcs
    obtain ⟨rfl, rfl, rfl⟩ := hcs
    exact ⟨none, 0, 0, fun _ => 0, rfl, Nat.le_refl _, (by decide), Ints.none⟩
  · simp [Value.cells] at hcs
    obtain ⟨rfl, rfl, rfl⟩ := hcs
    simp only [Prod.mk.injEq] at hx
    obtain ⟨rfl, _⟩ := hx
    simp only [if_true] at hz
    have hn8 : n * 8 ≤ 140737488351232 := by
      have := hw ((zs.take n).length * 8 + (zs.drop n).length * 8) (by simp [DataW.weights, Try.underlying23, Try.bytesInt, lits, Nat.add_mul])
      rw [reach_is] at this
      simp only [List.length_take, List.length_drop] at this
      omega
    refine ⟨some ad, n, cap, fun j => zs.getD j 0, rfl, hl, hn8, fun j hj => ?_⟩
    have hc := hcell j (by omega)
    have hc0 := hcell 0 (by omega)
    obtain ⟨b, o, s⟩ := ad
    have := spot_none hc0
    simp only at this
    subst this
    rw [add_at] at hc
    exact ⟨b, o, rfl, hc⟩

set_option maxRecDepth 100000 in
/-- A slice of slices of ints that came in. -/
theorem view_II {H : Type} {enc : TypeId × Value → H} {W : World} {base : Nat} {v : Value} {d : DataW H} {p : List MemPlace} (hok : Value.okWide Try.prog W .any base 22 v)
    (h : DataW.Trod enc Try.prog W 0 (fun _ => true) true 22 v d p) (hw : ∀ k ∈ d.weights Try.prog 22, k ≤ reachBytes) :
    ∃ a R cap A L C Z, v = .slice a R cap ∧ R ≤ cap ∧ R * 24 ≤ 140737488351232 ∧ Mat W a R A L C Z := by
  obtain ⟨a, n, cap, rfl⟩ := okWide_slice Try.underlying22 hok
  obtain ⟨fuel, hf⟩ := h
  rcases open_int_rows Try.underlying22 Try.underlying23 Try.underlying3 Try.cellsI Try.cellsInt hf with ⟨hcs, _⟩ | ⟨ad, len', cap', A, L, C, Z, hcs, _, hl, _, hx, hrows⟩
  · simp [Value.cells] at hcs
    obtain ⟨rfl, rfl, rfl⟩ := hcs
    exact ⟨none, 0, 0, fun _ => none, fun _ => 0, fun _ => 0, fun _ _ => 0, rfl, Nat.le_refl _, (by decide), ⟨fun _ hj => absurd hj (Nat.not_lt_zero _), fun _ hj => absurd hj (Nat.not_lt_zero _), fun _ hj => absurd hj (Nat.not_lt_zero _)⟩⟩
  · simp [Value.cells] at hcs
    obtain ⟨rfl, rfl, rfl⟩ := hcs
    simp only [Prod.mk.injEq] at hx
    obtain ⟨rfl, _⟩ := hx
    have hn24 : n * 24 ≤ 140737488351232 := by
      have := hw ((n + (cap - n)) * 24) (by simp [DataW.weights, Try.underlying22, Try.bytesI])
      rw [reach_is] at this
      omega
    refine ⟨some ad, n, cap, A, L, C, fun j i => (Z j).getD i 0, rfl, hl, hn24, ⟨fun j hj => ?_, fun j hj => ?_, fun j hj i hi => ?_⟩⟩
    · have hc := (hrows j (by omega)).1
      have hc0 := (hrows 0 (by omega)).1
      obtain ⟨b, o, s⟩ := ad
      have := spot_none hc0
      simp only at this
      subst this
      rw [add_at] at hc
      exact ⟨b, o, rfl, hc⟩
    · obtain ⟨_, h1, _, h3, _, h5, _⟩ := hrows j (by omega)
      refine ⟨h1, ?_⟩
      cases hA : A j with
      | none => have := h5 hA; omega
      | some a' =>
        have := hw (((Z j).take (L j)).length * 8 + ((Z j).drop (L j)).length * 8) (by
          simp only [DataW.weights, Try.underlying22]
          refine List.mem_cons_of_mem _ (List.mem_append_left _ (weights_mem_all (d := intRow .i64 (A j) (L j) (Z j)) (List.mem_map.2 ⟨j, List.mem_range.2 hj, rfl⟩) ?_))
          simp [hA, intRow, DataW.weights, Try.underlying23, Try.bytesInt, lits, Nat.add_mul])
        rw [reach_is] at this
        simp only [List.length_take, List.length_drop] at this
        omega
    · obtain ⟨_, h1, _, h3, _, h5, h6⟩ := hrows j (by omega)
      cases hA : A j with
      | none => have := h5 hA; omega
      | some a' =>
        have hc := (h6 a' hA).2 i (by omega)
        have hc0 := (h6 a' hA).2 0 (by omega)
        obtain ⟨b, o, s⟩ := a'
        have := spot_none hc0
        simp only at this
        subst this
        rw [add_at] at hc
        exact ⟨b, o, rfl, hc⟩

end Go.Proofs.Ytaglbnblfhfkeaa
