import Derived.Test.YtfommfgokpiieabDoorT1
import Derived.Test.YtfommfgokpiieabDoorX5
namespace Go.Proofs.YtfommfgokpiieabDoor
open Go.RowKit

set_option maxHeartbeats 8000000 in
set_option maxRecDepth 100000 in
theorem mirrors_core (W : World) (s : ByteArray) (hs : s.size ≤ 9223372036854775807) (hS : StepsAt W) :
    Calls Tryd.prog 5 #[.string s] W fun e W' => SomeIs true W e W' := by
  obtain ⟨l, hl⟩ : ∃ l, s.data.toList = l := ⟨_, rfl⟩
  have HT := Lib.hid (fun W' => text_any s W' hs)
  have HAw := Lib.hid (fun W' h => awake_any W' h)
  have HI := Lib.hid (fun W' => ris_any s l W' hl hs)
  have HS := Lib.hid hS
  cases ho : outB l
  · have HM := Lib.hid (fun W' hS' => fMirror_bad (s.extract 0 (min s.size 30)) (l.take 30) W' (text_list s l hl) (by rw [text_size]; omega) (by rw [take_out]; exact ho) hS')
    have HQ := Lib.hid (fun W' hS' => fQuarter_bad (s.extract 0 (min s.size 30)) (l.take 30) W' (text_list s l hl) (by rw [text_size]; omega) (by rw [take_out]; exact ho) hS')
    rw [ho] at HI
    clear hS ho hl
    generalize s.extract 0 (min s.size 30) = t at HT HM HQ
    go_enter Tryd.func5, Tryd.ntmps5
    go_wp2_with fail
    refine (HT.out _).mono ?_
    rintro e w1 ⟨rfl, rfl⟩
    go_wp2_with fail
    refine (HM.out _ HS.out).mono ?_
    rintro e w2 ⟨rfl, hb⟩
    have HBa := Lib.hid hb
    clear hb
    go_wp2_with fail
    refine (HT.out _).mono ?_
    rintro e w3 ⟨rfl, rfl⟩
    go_wp2_with fail
    refine (HQ.out _ (HS.out.keep HBa.out)).mono ?_
    rintro e w4 ⟨rfl, hb⟩
    have HBb := Lib.hid (band HBa.out hb)
    clear hb
    go_wp2_with fail
    refine (HI.out _).mono ?_
    rintro e w5 ⟨rfl, hb⟩
    have HBc := Lib.hid (band HBb.out hb)
    clear hb
    go_wp2_with fail
    refine (HAw.out _ (HS.out.keep HBc.out)).mono ?_
    rintro e w6 ⟨rfl, hb⟩
    have HBd := Lib.hid (band HBc.out hb)
    clear hb
    go_wp2
    go_ret
    exact ⟨rfl, HBd.out⟩
  · have hw := (outB_iff.1 ho).1
    have hs24 : s.size ≤ 24 := by have := (wordB_iff.1 hw).1; rw [← hl] at this; exact this
    have HTx : s.extract 0 (min s.size 30) = s := text_id s (by omega)
    rw [HTx] at HT
    have HM := Lib.hid (fun W' hS' => fMirror_good s l W' hl ho hS')
    have HQ := Lib.hid (fun W' hS' => fQuarter_good s l W' hl ho hS')
    have HRM := Lib.hid (fun W' => mirror_r s l W' hl hw)
    have HRQ := Lib.hid (fun W' => quarter_r s l W' hl hw)
    rw [ho] at HI
    generalize firstL (mirL l) = a at HM HRM
    generalize firstL (quaL l) = b at HQ HRQ
    clear hS ho hw hl HTx
    go_enter Tryd.func5, Tryd.ntmps5
    go_wp2_with fail
    refine (HT.out _).mono ?_
    rintro e w1 ⟨rfl, rfl⟩
    go_wp2_with fail
    refine (HM.out _ HS.out).mono ?_
    rintro e w2 ⟨rfl, hb⟩
    have HBa := Lib.hid hb
    clear hb
    go_wp2_with fail
    refine (HT.out _).mono ?_
    rintro e w3 ⟨rfl, rfl⟩
    go_wp2_with fail
    refine (HQ.out _ (HS.out.keep HBa.out)).mono ?_
    rintro e w4 ⟨rfl, hb⟩
    have HBb := Lib.hid (band HBa.out hb)
    clear hb
    go_wp2_with fail
    refine (HI.out _).mono ?_
    rintro e w5 ⟨rfl, hb⟩
    have HBc := Lib.hid (band HBb.out hb)
    clear hb
    go_wp2_with fail
    refine (HRM.out _).mono ?_
    rintro e w6 ⟨rfl, hb⟩
    have HBd := Lib.hid (band HBc.out hb)
    clear hb
    go_wp2_with fail
    refine (HRQ.out _).mono ?_
    rintro e w7 ⟨rfl, hb⟩
    have HBe := Lib.hid (band HBd.out hb)
    clear hb
    go_wp2_with fail
    refine (HAw.out _ (HS.out.keep HBe.out)).mono ?_
    rintro e w8 ⟨rfl, hb⟩
    have HBf := Lib.hid (band HBe.out hb)
    clear hb
    go_wp2
    go_ret
    exact ⟨rfl, HBf.out⟩
end Go.Proofs.YtfommfgokpiieabDoor
