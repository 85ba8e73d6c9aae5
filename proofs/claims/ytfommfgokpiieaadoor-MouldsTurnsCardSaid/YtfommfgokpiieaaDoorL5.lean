import Derived.Test.YtfommfgokpiieaaDoorT1
import Derived.Test.YtfommfgokpiieaaDoorB4
import Derived.Test.YtfommfgokpiieaaDoorF1
import Derived.Test.YtfommfgokpiieaaDoorX2
namespace Go.Proofs.YtfommfgokpiieaaDoor
open Go.RowKit

theorem fFirst_good (s : ByteArray) (l : List UInt8) (w : World) (hl : s.data.toList = l) (hr : outB l = true) (hS : StepsAt w) :
    Calls Tryd.prog 19 #[.string s] w fun e w' => e = .returned (.tuple #[.string (firstN s s.size), .int .i64 0]) ∧ Below w.heap.size w w' := by
  have hs : s.size ≤ 24 := by have := (wordB_iff.1 (outB_iff.1 hr).1).1; rw [← hl] at this; exact this
  have HI := Lib.hid (is_any s l true w hl (by omega) hr hS)
  have HF := Lib.hid (fun W => wfirst_any s W hs)
  clear hl hr hS
  generalize firstN s s.size = t at HF ⊢
  go_enter Tryd.func19, Tryd.ntmps19
  go_wp2_with fail
  refine HI.out.mono ?_
  rintro e w2 ⟨rfl, hb⟩
  have HB := Lib.hid hb
  clear hb
  go_wp2_with fail
  refine (HF.out _).mono ?_
  rintro e w3 ⟨rfl, hb⟩
  have HB3 := Lib.hid (band HB.out hb)
  clear hb
  go_wp2
  go_ret2
  exact ⟨rfl, HB3.out⟩
theorem fFirst_bad (s : ByteArray) (l : List UInt8) (w : World) (hl : s.data.toList = l) (hs : s.size ≤ 9223372036854775807) (hr : outB l = false) (hS : StepsAt w) :
    Calls Tryd.prog 19 #[.string s] w fun e w' => e = .returned (.tuple #[.string ⟨#[]⟩, .int .i64 2]) ∧ Below w.heap.size w w' := by
  have HI := Lib.hid (is_any s l false w hl (by omega) hr hS)
  clear hl hr hS
  go_enter Tryd.func19, Tryd.ntmps19
  go_wp2_with fail
  refine HI.out.mono ?_
  rintro e w2 ⟨rfl, hb⟩
  have HB := Lib.hid hb
  clear hb
  go_wp2
  go_ret2
  exact ⟨rfl, HB.out⟩

set_option maxHeartbeats 8000000 in
set_option maxRecDepth 100000 in
theorem turns_core (W : World) (s : ByteArray) (hs : s.size ≤ 9223372036854775807) (hS : StepsAt W) :
    Calls Tryd.prog 5 #[.string s] W fun e W' => SomeIs true W e W' := by
  obtain ⟨l, hl⟩ : ∃ l, s.data.toList = l := ⟨_, rfl⟩
  have HT := Lib.hid (fun W' => text_any s W' hs)
  have HAw := Lib.hid (fun W' h => awake_any W' h)
  have HWd := Lib.hid (fun W' => word_r s l W' hl hs)
  have HS := Lib.hid hS
  cases hw : wordB l
  · have ho : outB l = false := by simp [outB, hw]
    have HF := Lib.hid (fun W' hS' => fFirst_bad (s.extract 0 (min s.size 30)) (l.take 30) W' (text_list s l hl) (by rw [text_size]; omega) (by rw [take_out]; exact ho) hS')
    have HB1 := Lib.hid (fun W' => fBack_bad (s.extract 0 (min s.size 30)) (l.take 30) W' (text_list s l hl) (by rw [text_size]; omega) (by rw [take_word]; exact hw))
    rw [hw] at HWd
    clear hS ho hw hl
    generalize s.extract 0 (min s.size 30) = t at HT HF HB1
    go_enter Tryd.func5, Tryd.ntmps5
    go_wp2_with fail
    refine (HT.out _).mono ?_
    rintro e w1 ⟨rfl, rfl⟩
    go_wp2_with fail
    refine (HF.out _ HS.out).mono ?_
    rintro e w2 ⟨rfl, hb⟩
    have HBa := Lib.hid hb
    clear hb
    go_wp2_with fail
    refine (HT.out _).mono ?_
    rintro e w3 ⟨rfl, rfl⟩
    go_wp2_with fail
    refine (HB1.out _).mono ?_
    rintro e w4 ⟨rfl, hb⟩
    have HBb := Lib.hid (band HBa.out hb)
    clear hb
    go_wp2_with fail
    refine (HWd.out _).mono ?_
    rintro e w5 ⟨rfl, rfl⟩
    go_wp2_with fail
    refine (HAw.out _ (HS.out.keep HBb.out)).mono ?_
    rintro e w6 ⟨rfl, hb⟩
    have HBc := Lib.hid (band HBb.out hb)
    clear hb
    go_wp2
    go_ret
    exact ⟨rfl, HBc.out⟩
  have hs24 : s.size ≤ 24 := by have := (wordB_iff.1 hw).1; rw [← hl] at this; exact this
  rw [hw] at HWd
  have HB1 := Lib.hid (fun W' => fBack_good s l W' hl hw)
  have HB2 := Lib.hid (fun W' => back_r s l W' hl hw)
  have HTx : s.extract 0 (min s.size 30) = s := text_id s (by omega)
  rw [HTx] at HT
  obtain ⟨t, ht⟩ : ∃ t : ByteArray, t = ⟨(backL l).toArray⟩ := ⟨_, rfl⟩
  rw [← ht] at HB1 HB2
  cases ho : outB l
  · have HF := Lib.hid (fun W' hS' => fFirst_bad s l W' hl (by omega) ho hS')
    have HI := Lib.hid (fun W' => ris_any s l W' hl (by omega))
    rw [ho] at HI
    clear hS ho hw hl HTx ht
    go_enter Tryd.func5, Tryd.ntmps5
    go_wp2_with fail
    refine (HT.out _).mono ?_
    rintro e w1 ⟨rfl, rfl⟩
    go_wp2_with fail
    refine (HF.out _ HS.out).mono ?_
    rintro e w2 ⟨rfl, hb⟩
    have HBa := Lib.hid hb
    clear hb
    go_wp2_with fail
    refine (HT.out _).mono ?_
    rintro e w3 ⟨rfl, rfl⟩
    go_wp2_with fail
    refine (HB1.out _).mono ?_
    rintro e w4 ⟨rfl, hb⟩
    have HBb := Lib.hid (band HBa.out hb)
    clear hb
    go_wp2_with fail
    refine (HWd.out _).mono ?_
    rintro e w5 ⟨rfl, rfl⟩
    go_wp2_with fail
    refine (HB2.out _).mono ?_
    rintro e w6 ⟨rfl, hb⟩
    have HBc := Lib.hid (band HBb.out hb)
    clear hb
    go_wp2_with fail
    refine (HAw.out _ (HS.out.keep HBc.out)).mono ?_
    rintro e w7 ⟨rfl, hb⟩
    have HBd := Lib.hid (band HBc.out hb)
    clear hb
    go_wp2_with fail
    refine (HI.out _).mono ?_
    rintro e w8 ⟨rfl, hb⟩
    have HBe := Lib.hid (band HBd.out hb)
    clear hb
    go_wp2
    go_ret
    exact ⟨rfl, HBe.out⟩
  · have HF := Lib.hid (fun W' hS' => fFirst_good s l W' hl ho hS')
    have HI := Lib.hid (fun W' => ris_any s l W' hl (by omega))
    rw [ho] at HI
    have HR := Lib.hid (fun W' => first_r s W' hs24)
    generalize firstN s s.size = f at HF HR
    clear hS ho hw hl HTx ht
    go_enter Tryd.func5, Tryd.ntmps5
    go_wp2_with fail
    refine (HT.out _).mono ?_
    rintro e w1 ⟨rfl, rfl⟩
    go_wp2_with fail
    refine (HF.out _ HS.out).mono ?_
    rintro e w2 ⟨rfl, hb⟩
    have HBa := Lib.hid hb
    clear hb
    go_wp2_with fail
    refine (HT.out _).mono ?_
    rintro e w3 ⟨rfl, rfl⟩
    go_wp2_with fail
    refine (HB1.out _).mono ?_
    rintro e w4 ⟨rfl, hb⟩
    have HBb := Lib.hid (band HBa.out hb)
    clear hb
    go_wp2_with fail
    refine (HWd.out _).mono ?_
    rintro e w5 ⟨rfl, rfl⟩
    go_wp2_with fail
    refine (HB2.out _).mono ?_
    rintro e w6 ⟨rfl, hb⟩
    have HBc := Lib.hid (band HBb.out hb)
    clear hb
    go_wp2_with fail
    refine (HAw.out _ (HS.out.keep HBc.out)).mono ?_
    rintro e w7 ⟨rfl, hb⟩
    have HBd := Lib.hid (band HBc.out hb)
    clear hb
    go_wp2_with fail
    refine (HI.out _).mono ?_
    rintro e w8 ⟨rfl, hb⟩
    have HBe := Lib.hid (band HBd.out hb)
    clear hb
    go_wp2_with fail
    refine (HR.out _).mono ?_
    rintro e w9 ⟨rfl, hb⟩
    have HBf := Lib.hid (band HBe.out hb)
    clear hb
    go_wp2
    go_ret
    exact ⟨rfl, HBf.out⟩
end Go.Proofs.YtfommfgokpiieaaDoor
