import Derived.Test.YtkbbijhknbcflaaX1
import Derived.Laws.IdiomStrings
/-
  opposite and exchange.
-/
namespace Go.Proofs.Ytkbbijhknbcflaa
open Go.RowKit Go.Shelf

def ops : List UInt8 := [116, 102, 38, 124, 60, 91, 109, 103]
theorem opp_none {x : UInt8} (h : ops.contains x = false) : opp x = x := by
  simp only [ops, List.contains_cons, List.contains_nil, Bool.or_false, Bool.or_eq_false_iff, beq_eq_false_iff_ne] at h
  obtain ⟨h1, h2, h3, h4, h5, h6, h7, h8⟩ := h
  simp [opp, h1, h2, h3, h4, h5, h6, h7, h8]
set_option maxRecDepth 100000 in
theorem opposite_any (x : UInt8) (w : World) : Calls Try.prog 45 #[.int .u8 (x.toNat : Int)] w fun e w' => e = .returned (.int .u8 ((opp x).toNat : Int)) ∧ w = w' := by
  have HI := Lib.hid (fun W => index_any ops x W)
  by_cases hc : ops.contains x = true
  · have hx : x = 116 ∨ x = 102 ∨ x = 38 ∨ x = 124 ∨ x = 60 ∨ x = 91 ∨ x = 109 ∨ x = 103 := by simpa [ops] using hc
    clear hc
    rcases hx with rfl | rfl | rfl | rfl | rfl | rfl | rfl | rfl
    all_goals
      go_enter Try.func45, Try.ntmps45
      go_wp2_with fail
      refine (HI.out _).mono ?_
      rintro e w1 ⟨rfl, rfl⟩
      go_wp2
      go_ret
      exact ⟨rfl, rfl⟩
  · have hc' : ops.contains x = false := by simpa using hc
    have hx := indexByte_neg hc'
    rw [hx] at HI
    rw [opp_none hc']
    clear hc hc' hx
    generalize x.toNat = y at *
    go_enter Try.func45, Try.ntmps45
    go_wp2_with fail
    refine (HI.out _).mono ?_
    rintro e w1 ⟨rfl, rfl⟩
    go_wp2
    go_ret
    exact ⟨rfl, rfl⟩
end Go.Proofs.Ytkbbijhknbcflaa
