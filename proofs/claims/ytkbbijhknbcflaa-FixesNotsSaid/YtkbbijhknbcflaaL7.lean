import Derived.Test.YtkbbijhknbcflaaL0
import Derived.Test.YtkbbijhknbcflaaR9
import Derived.Test.YtkbbijhknbcflaaX6
/-
  The law FixesNots.
-/
namespace Go.Proofs.Ytkbbijhknbcflaa
open Go.RowKit Go.Shelf

/-- Nothing that was there has turned. -/
structure BInv (w wr : World) : Prop where
  bel : Below w.heap.size w wr
theorem BInv.start (w : World) : BInv w w := ⟨Below.refl _ _⟩
theorem BInv.keep {w wr wr' : World} (h : BInv w wr) (hb : Below wr.heap.size wr wr') : BInv w wr' := ⟨band h.bel hb⟩

set_option maxHeartbeats 4000000 in
set_option maxRecDepth 100000 in
theorem nots_form (W : World) (l : List UInt8) (hl : l.length ≤ 9223372036854775807) (hB : ¬ isB l) :
    Calls Try.prog 4 #[.string (st l)] W fun e W' => SomeB true W e W' := by
  have HTx := Lib.hid (fun W' => text_any l W' hl)
  have HN := Lib.hid (fun W' => not_form (l.take 50) W' (by rw [List.length_take]; omega) (fun h => hB ((isB_cut l).1 h)))
  have HRIs := Lib.hid (fun W' => ris_any false l W' (by omega) (by simp [hB]))
  have hnil : (st []).toList = [] := by first | rfl | decide | simp [st]
  generalize st (l.take 50) = S5 at *
  generalize st l = S at *
  clear hB hl
  have HI0 := Lib.hid (BInv.start W)
  go_enter Try.func4, Try.ntmps4
  go_wp2_with fail
  refine (HTx.out _).mono ?_
  rintro e wq ⟨rfl, rfl⟩
  go_wp2_with fail
  refine (HN.out _).mono ?_
  rintro e w1 ⟨rfl, hb⟩
  have HI1 := Lib.hid (HI0.out.keep hb)
  clear hb
  go_wp2_with fail
  refine (HRIs.out _).mono ?_
  rintro e w2 ⟨rfl, hb⟩
  have HI2 := Lib.hid (HI1.out.keep hb)
  clear hb
  go_wp2_with fail
  refine (awake_any _).mono ?_
  rintro e w3 ⟨rfl, hb⟩
  have HI3 := Lib.hid (HI2.out.keep hb)
  clear hb
  go_wp2
  go_ret
  exact ⟨rfl, HI3.out.bel⟩

set_option maxHeartbeats 4000000 in
set_option maxRecDepth 100000 in
theorem nots_good (W : World) (l : List UInt8) (hl : l.length ≤ 9223372036854775807) (h40 : l.length ≤ 40) (F : Fm) (hF : isF (fun _ => false) l F) :
    Calls Try.prog 4 #[.string (st l)] W fun e W' => SomeB true W e W' := by
  have HTx := Lib.hid (fun W' => text_any l W' hl)
  rw [show l.take 50 = l from List.take_of_length_le (by omega)] at HTx
  have HRIs := Lib.hid (fun W' => ris_any true l W' (by omega) ⟨fun _ => rfl, fun _ => ⟨h40, F, hF⟩⟩)
  obtain ⟨v, er, hv⟩ : ∃ (v : ByteArray) (er : Int), ((str (neg F)).length ≤ 40 ∧ v = st (str (neg F)) ∧ er = 0) ∨ (40 < (str (neg F)).length ∧ v = st [] ∧ er = 3) := by
    by_cases h : (str (neg F)).length ≤ 40
    · exact ⟨_, _, Or.inl ⟨h, rfl, rfl⟩⟩
    · exact ⟨_, _, Or.inr ⟨by omega, rfl, rfl⟩⟩
  have HN : Hid (∀ W', Calls Try.prog 16 #[.string (st l)] W' fun e w' => TextOut v er W' e w') := by
    intro W'
    have := not_good F W' (by rw [← hF.1]; exact h40) hF.2
    rw [← hF.1] at this
    rcases hv with ⟨h, rfl, rfl⟩ | ⟨h, rfl, rfl⟩
    · rw [if_pos h, if_pos h] at this; exact this
    · rw [if_neg (by omega), if_neg (by omega)] at this; exact this
  have HR := Lib.hid (fun W' => rnot_l l (str (neg F)) v er W' h40 (by rw [hF.1]; exact gd_of hF.2) (by rw [hF.1]; exact xch_str hF.2) hv)
  generalize st l = S at *
  clear hv hF hl h40
  have HI0 := Lib.hid (BInv.start W)
  go_enter Try.func4, Try.ntmps4
  go_wp2_with fail
  refine (HTx.out _).mono ?_
  rintro e wq ⟨rfl, rfl⟩
  go_wp2_with fail
  refine (HN.out _).mono ?_
  rintro e w1 ⟨rfl, hb⟩
  have HI1 := Lib.hid (HI0.out.keep hb)
  clear hb
  go_wp2_with fail
  refine (HRIs.out _).mono ?_
  rintro e w2 ⟨rfl, hb⟩
  have HI2 := Lib.hid (HI1.out.keep hb)
  clear hb
  go_wp2_with fail
  refine (HR.out _).mono ?_
  rintro e w3 ⟨rfl, hb⟩
  have HI3 := Lib.hid (HI2.out.keep hb)
  clear hb
  go_wp2_with fail
  refine (awake_any _).mono ?_
  rintro e w4 ⟨rfl, hb⟩
  have HI4 := Lib.hid (HI3.out.keep hb)
  clear hb
  go_wp2
  go_ret
  exact ⟨rfl, HI4.out.bel⟩

theorem nots_core (W : World) (s : ByteArray) (hs : s.size ≤ 9223372036854775807) :
    Calls Try.prog 4 #[.string s] W fun e W' => SomeB true W e W' := by
  have hl : s.data.toList.length ≤ 9223372036854775807 := hs
  rw [st_of s]
  generalize s.data.toList = l at *
  by_cases hB : isB l
  · obtain ⟨h40, F, hF⟩ := hB
    exact nots_good W l hl h40 F hF
  · exact nots_form W l hl hB
end Go.Proofs.Ytkbbijhknbcflaa
