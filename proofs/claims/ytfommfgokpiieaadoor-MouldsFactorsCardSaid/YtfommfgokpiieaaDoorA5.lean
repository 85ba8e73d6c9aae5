import Derived.Test.YtfommfgokpiieaaDoorA4
namespace Go.Proofs.YtfommfgokpiieaaDoor
open Go.RowKit

set_option maxHeartbeats 2000000 in
set_option maxRecDepth 100000 in
theorem out_any (s : ByteArray) (l : List UInt8) (w : World) (hl : s.data.toList = l) (hs : s.size ≤ 9223372036854775807) (hS : StepsAt w) :
    Calls Tryd.prog 30 #[.string s] w fun r w' => r = .returned (.bool (outB l)) ∧ Below w.heap.size w w' := by
  have HV := Lib.hid (valid_any s w hs)
  have HN : Hid (l.length = s.size) := by simp only [Hid]; rw [← hl]; rfl
  have HL := Lib.hid hl
  have HS := Lib.hid hS
  rw [hl] at HV
  clear hl hS
  cases hw : wordB l
  · have HO : Hid (outB l = false) := by simp [Hid, outB, hw]
    rw [hw] at HV
    clear hw
    go_enter Tryd.func30, Tryd.ntmps30
    go_wp2_with fail
    refine HV.out.mono ?_
    rintro r w2 ⟨rfl, hb⟩
    have HB := Lib.hid hb
    clear hb
    go_wp2
    go_ret
    exact ⟨by rw [HO.out]; rfl, HB.out⟩
  · have HW := Lib.hid hw
    rw [hw] at HV
    have hn24 : s.size ≤ 24 := by have := (wordB_iff.1 hw).1; rw [HN.out] at this; exact this
    clear hw
    by_cases h4 : 4 ≤ s.size
    · have H4 : Hid (4 ≤ l.length) := by simp only [Hid]; rw [HN.out]; exact h4
      have HE := Lib.hid (fun W hW => end_any s l W HL.out HW.out hW)
      have HM := Lib.hid (fun W hW => meets_any s l W HL.out HW.out H4.out hW)
      have HA := Lib.hid (fun W hW => area_any s l W HL.out HW.out H4.out hW)
      have hX0 : Hid (outB l = (decide (px l l.length = 0 ∧ py l l.length = 0) && (freeB l l.length && decide (0 < ar l l.length)))) := by
        simp only [Hid]; unfold outB; rw [HW.out]; simp [H4.out]
      obtain ⟨X, hX⟩ : ∃ X, px l l.length = X := ⟨_, rfl⟩
      obtain ⟨Y, hY⟩ : ∃ Y, py l l.length = Y := ⟨_, rfl⟩
      obtain ⟨F, hF⟩ : ∃ F, freeB l l.length = F := ⟨_, rfl⟩
      obtain ⟨A, hA⟩ : ∃ A, ar l l.length = A := ⟨_, rfl⟩
      rw [hX, hY, hF, hA] at hX0
      rw [hX, hY] at HE
      rw [hF] at HM
      rw [hA] at HA
      clear hX hY hF hA
      by_cases hx : X = 0
      · subst hx
        by_cases hy : Y = 0
        · subst hy
          have he := equalIn_pt 0 0 0 0 true (by decide)
          cases F
          · have HO : Hid (outB l = false) := by rw [hX0]; simp [Hid]
            clear hX0
            go_enter Tryd.func30, Tryd.ntmps30
            go_wp2_with fail
            refine HV.out.mono ?_
            rintro r w2 ⟨rfl, hb⟩
            have HB := Lib.hid hb
            clear hb
            go_wp2_with fail
            refine (HE.out _ (HS.out.keep HB.out)).mono ?_
            rintro r w3 ⟨rfl, hb⟩
            have HB3 := Lib.hid (band HB.out hb)
            clear hb
            go_wp2_with fail
            refine (HM.out _ (HS.out.keep HB3.out)).mono ?_
            rintro r w4 ⟨rfl, hb⟩
            have HB4 := Lib.hid (band HB3.out hb)
            clear hb
            go_wp2
            go_ret
            exact ⟨by rw [HO.out]; rfl, HB4.out⟩
          · by_cases ha : 0 < A
            · have HO : Hid (outB l = true) := by rw [hX0]; simp [Hid, ha]
              clear hX0
              go_enter Tryd.func30, Tryd.ntmps30
              go_wp2_with fail
              refine HV.out.mono ?_
              rintro r w2 ⟨rfl, hb⟩
              have HB := Lib.hid hb
              clear hb
              go_wp2_with fail
              refine (HE.out _ (HS.out.keep HB.out)).mono ?_
              rintro r w3 ⟨rfl, hb⟩
              have HB3 := Lib.hid (band HB.out hb)
              clear hb
              go_wp2_with fail
              refine (HM.out _ (HS.out.keep HB3.out)).mono ?_
              rintro r w4 ⟨rfl, hb⟩
              have HB4 := Lib.hid (band HB3.out hb)
              clear hb
              go_wp2_with fail
              refine (HA.out _ (HS.out.keep HB4.out)).mono ?_
              rintro r w5 ⟨rfl, hb⟩
              have HB5 := Lib.hid (band HB4.out hb)
              clear hb
              go_wp2
              go_ret
              exact ⟨by rw [HO.out]; rfl, HB5.out⟩
            · have HO : Hid (outB l = false) := by rw [hX0]; simp [Hid, ha]
              have HD : Hid (decide (0 < A) = false) := decide_eq_false ha
              clear hX0
              go_enter Tryd.func30, Tryd.ntmps30
              go_wp2_with fail
              refine HV.out.mono ?_
              rintro r w2 ⟨rfl, hb⟩
              have HB := Lib.hid hb
              clear hb
              go_wp2_with fail
              refine (HE.out _ (HS.out.keep HB.out)).mono ?_
              rintro r w3 ⟨rfl, hb⟩
              have HB3 := Lib.hid (band HB.out hb)
              clear hb
              go_wp2_with fail
              refine (HM.out _ (HS.out.keep HB3.out)).mono ?_
              rintro r w4 ⟨rfl, hb⟩
              have HB4 := Lib.hid (band HB3.out hb)
              clear hb
              go_wp2_with fail
              refine (HA.out _ (HS.out.keep HB4.out)).mono ?_
              rintro r w5 ⟨rfl, hb⟩
              have HB5 := Lib.hid (band HB4.out hb)
              clear hb
              go_wp2
              go_ret
              exact ⟨by rw [HO.out, ← HD.out]; rfl, HB5.out⟩
        · have HO : Hid (outB l = false) := by rw [hX0]; simp [Hid, hy]
          have he := equalIn_pt 0 Y 0 0 false (by simp [hy])
          clear hX0
          go_enter Tryd.func30, Tryd.ntmps30
          go_wp2_with fail
          refine HV.out.mono ?_
          rintro r w2 ⟨rfl, hb⟩
          have HB := Lib.hid hb
          clear hb
          go_wp2_with fail
          refine (HE.out _ (HS.out.keep HB.out)).mono ?_
          rintro r w3 ⟨rfl, hb⟩
          have HB3 := Lib.hid (band HB.out hb)
          clear hb
          go_wp2
          go_ret
          exact ⟨by rw [HO.out]; rfl, HB3.out⟩
      · have HO : Hid (outB l = false) := by rw [hX0]; simp [Hid, hx]
        have he := equalIn_pt X Y 0 0 false (by simp [hx])
        clear hX0
        go_enter Tryd.func30, Tryd.ntmps30
        go_wp2_with fail
        refine HV.out.mono ?_
        rintro r w2 ⟨rfl, hb⟩
        have HB := Lib.hid hb
        clear hb
        go_wp2_with fail
        refine (HE.out _ (HS.out.keep HB.out)).mono ?_
        rintro r w3 ⟨rfl, hb⟩
        have HB3 := Lib.hid (band HB.out hb)
        clear hb
        go_wp2
        go_ret
        exact ⟨by rw [HO.out]; rfl, HB3.out⟩
    · have HO : Hid (outB l = false) := by
        have : ¬ 4 ≤ l.length := by rw [HN.out]; exact h4
        simp [Hid, outB, this]
      go_enter Tryd.func30, Tryd.ntmps30
      go_wp2_with fail
      refine HV.out.mono ?_
      rintro r w2 ⟨rfl, hb⟩
      have HB := Lib.hid hb
      clear hb
      go_wp2
      go_ret
      exact ⟨by rw [HO.out]; rfl, HB.out⟩

theorem is_any (s : ByteArray) (l : List UInt8) (r : Bool) (w : World) (hl : s.data.toList = l) (hs : s.size ≤ 9223372036854775807) (hr : outB l = r) (hS : StepsAt w) :
    Calls Tryd.prog 7 #[.string s] w fun e w' => e = .returned (.bool r) ∧ Below w.heap.size w w' := by
  have HO := Lib.hid (out_any s l w hl hs hS)
  rw [hr] at HO
  clear hl hr hS
  go_enter Tryd.func7, Tryd.ntmps7
  go_wp2_with fail
  refine HO.out.mono ?_
  rintro r w2 ⟨rfl, hb⟩
  have HB := Lib.hid hb
  clear hb
  go_wp2
  go_ret
  exact ⟨rfl, HB.out⟩

/-- Area of an outline, and of what is none. -/
theorem area_good (s : ByteArray) (l : List UInt8) (A : Int) (w : World) (hl : s.data.toList = l) (hr : outB l = true) (hA : ar l l.length = A) (hS : StepsAt w) :
    Calls Tryd.prog 10 #[.string s] w fun e w' => e = .returned (.tuple #[.int .i64 A, .int .i64 0]) ∧ Below w.heap.size w w' := by
  have ho := outB_iff.1 hr
  have hs : s.size ≤ 24 := by have := (wordB_iff.1 ho.1).1; rw [← hl] at this; exact this
  have HI := Lib.hid (is_any s l true w hl (by omega) hr hS)
  have HA := Lib.hid (fun W hW => area_any s l W hl ho.1 ho.2.1 hW)
  rw [hA] at HA
  have HS := Lib.hid hS
  clear hl hr hS hA ho
  go_enter Tryd.func10, Tryd.ntmps10
  go_wp2_with fail
  refine HI.out.mono ?_
  rintro r w2 ⟨rfl, hb⟩
  have HB := Lib.hid hb
  clear hb
  go_wp2_with fail
  refine (HA.out _ (HS.out.keep HB.out)).mono ?_
  rintro r w3 ⟨rfl, hb⟩
  have HB3 := Lib.hid (band HB.out hb)
  clear hb
  go_wp2
  go_ret2
  exact ⟨rfl, HB3.out⟩
theorem area_bad (s : ByteArray) (l : List UInt8) (w : World) (hl : s.data.toList = l) (hs : s.size ≤ 9223372036854775807) (hr : outB l = false) (hS : StepsAt w) :
    Calls Tryd.prog 10 #[.string s] w fun e w' => e = .returned (.tuple #[.int .i64 0, .int .i64 2]) ∧ Below w.heap.size w w' := by
  have HI := Lib.hid (is_any s l false w hl hs hr hS)
  clear hl hr hS
  go_enter Tryd.func10, Tryd.ntmps10
  go_wp2_with fail
  refine HI.out.mono ?_
  rintro r w2 ⟨rfl, hb⟩
  have HB := Lib.hid hb
  clear hb
  go_wp2
  go_ret2
  exact ⟨rfl, HB.out⟩

theorem awake_any (w : World) (hS : StepsAt w) : Calls Tryd.prog 12 #[] w fun e w' => e = .returned (.bool true) ∧ Below w.heap.size w w' := by
  have HA := Lib.hid (area_good ⟨#[114, 117, 108, 100]⟩ sq 1 w rfl sq_out sq_ar hS)
  clear hS
  go_enter Tryd.func12, Tryd.ntmps12
  go_wp2_with fail
  refine HA.out.mono ?_
  rintro r w2 ⟨rfl, hb⟩
  have HB := Lib.hid hb
  clear hb
  go_wp2
  go_ret
  exact ⟨rfl, HB.out⟩
end Go.Proofs.YtfommfgokpiieaaDoor
