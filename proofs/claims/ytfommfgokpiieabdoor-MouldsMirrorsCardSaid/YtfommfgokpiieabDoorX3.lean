import Derived.Test.YtfommfgokpiieabDoorX2
import Derived.Test.YtfommfgokpiieabDoorF1
namespace Go.Proofs.YtfommfgokpiieabDoor
open Go.RowKit

/-- The outline mirrored, turned by a quarter: their letters. -/
def mirL (l : List UInt8) : List UInt8 := backL (l.map (rep [108, 117, 114, 100]))
def quaL (l : List UInt8) : List UInt8 := l.map (rep [117, 108, 100, 114])
theorem mirL_len (l : List UInt8) : (mirL l).length = l.length := by simp [mirL, backL]
theorem quaL_len (l : List UInt8) : (quaL l).length = l.length := by simp [quaL]
theorem rep_L1 {b : UInt8} (h : isL b = true) : isL (rep [108, 117, 114, 100] b) = true := by
  rcases isL_or h with rfl | rfl | rfl | rfl <;> decide
theorem rep_L2 {b : UInt8} (h : isL b = true) : isL (rep [117, 108, 100, 114] b) = true := by
  rcases isL_or h with rfl | rfl | rfl | rfl <;> decide
theorem ex_mir {b : UInt8} (h : isL b = true) : exF [117, 100] [100, 117] b 2 = bk (rep [108, 117, 114, 100] b) := by
  rcases isL_or h with rfl | rfl | rfl | rfl <;> decide
theorem ex_qua {b : UInt8} (h : isL b = true) : exF [114, 117, 108, 100] [117, 108, 100, 114] b 4 = rep [117, 108, 100, 114] b := by
  rcases isL_or h with rfl | rfl | rfl | rfl <;> decide
theorem word_map {l : List UInt8} {f : UInt8 → UInt8} (hf : ∀ b, isL b = true → isL (f b) = true) (h : wordB l = true) : wordB (l.map f) = true := by
  obtain ⟨h1, h2⟩ := wordB_iff.1 h
  refine wordB_iff.2 ⟨by rw [List.length_map]; exact h1, fun b hb => ?_⟩
  obtain ⟨a, ha, rfl⟩ := List.mem_map.1 hb
  exact hf a (h2 a ha)
theorem mirL_word {l : List UInt8} (h : wordB l = true) : wordB (mirL l) = true := backL_word (word_map (fun _ => rep_L1) h)
theorem quaL_word {l : List UInt8} (h : wordB l = true) : wordB (quaL l) = true := word_map (fun _ => rep_L2) h

set_option maxHeartbeats 2000000 in
theorem mirrored_any (s : ByteArray) (l : List UInt8) (w : World) (hl : s.data.toList = l) (hw : wordB l = true) :
    Calls Tryd.prog 35 #[.string s] w fun e w' => e = .returned (.string ⟨(mirL l).toArray⟩) ∧ Below w.heap.size w w' := by
  obtain ⟨h1, h2⟩ := wordB_iff.1 hw
  have hs : s.size ≤ 24 := by rw [← hl] at h1; exact h1
  have HR := Lib.hid (replaced_any s ⟨#[108, 117, 114, 100]⟩ l [108, 117, 114, 100] w hl hs h2 rfl rfl)
  have HK := Lib.hid (fun W => wback_any ⟨(l.map (rep [108, 117, 114, 100])).toArray⟩ (l.map (rep [108, 117, 114, 100])) W (by simp) (word_map (fun _ => rep_L1) hw))
  have HM : Hid (mirL l = backL (l.map (rep [108, 117, 114, 100]))) := rfl
  clear hl hw h1 h2
  generalize l.map (rep [108, 117, 114, 100]) = m at HR HK HM
  generalize backL m = u at HK HM
  obtain ⟨t, ht⟩ : ∃ t : ByteArray, t = ⟨m.toArray⟩ := ⟨_, rfl⟩
  rw [← ht] at HR HK
  clear ht
  go_enter Tryd.func35, Tryd.ntmps35
  go_wp2_with fail
  refine HR.out.mono ?_
  rintro e w2 ⟨rfl, hb⟩
  have HB := Lib.hid hb
  clear hb
  go_wp2_with fail
  refine (HK.out _).mono ?_
  rintro e w3 ⟨rfl, hb⟩
  have HB3 := Lib.hid (band HB.out hb)
  clear hb
  go_wp2
  go_ret
  exact ⟨by rw [HM.out]; rfl, HB3.out⟩

set_option maxHeartbeats 2000000 in
theorem quarter_any (s : ByteArray) (l : List UInt8) (w : World) (hl : s.data.toList = l) (hw : wordB l = true) :
    Calls Tryd.prog 37 #[.string s] w fun e w' => e = .returned (.string ⟨(quaL l).toArray⟩) ∧ Below w.heap.size w w' := by
  obtain ⟨h1, h2⟩ := wordB_iff.1 hw
  have hs : s.size ≤ 24 := by rw [← hl] at h1; exact h1
  have HR : Hid (Calls Tryd.prog 47 #[.string s, .string ⟨#[114, 117, 108, 100]⟩, .string ⟨#[117, 108, 100, 114]⟩] w fun e w' => e = .returned (.string ⟨(quaL l).toArray⟩) ∧ Below w.heap.size w w') := replaced_any s ⟨#[117, 108, 100, 114]⟩ l [117, 108, 100, 114] w hl hs h2 rfl rfl
  clear hl hw h1 h2
  generalize quaL l = u at HR ⊢
  go_enter Tryd.func37, Tryd.ntmps37
  go_wp2_with fail
  refine HR.out.mono ?_
  rintro e w2 ⟨rfl, hb⟩
  have HB := Lib.hid hb
  clear hb
  go_wp2
  go_ret
  exact ⟨rfl, HB.out⟩

/-- Mirror, Quarter: of an outline, and of what is none. -/
def firstL (l : List UInt8) : ByteArray := firstN ⟨l.toArray⟩ l.length
theorem firstL_is (l : List UInt8) : firstN ⟨l.toArray⟩ (⟨l.toArray⟩ : ByteArray).size = firstL l := by unfold firstL; rw [mk_size]

set_option maxHeartbeats 2000000 in
theorem fMirror_good (s : ByteArray) (l : List UInt8) (w : World) (hl : s.data.toList = l) (hr : outB l = true) (hS : StepsAt w) :
    Calls Tryd.prog 17 #[.string s] w fun e w' => e = .returned (.tuple #[.string (firstL (mirL l)), .int .i64 0]) ∧ Below w.heap.size w w' := by
  have hw := (outB_iff.1 hr).1
  have hs : s.size ≤ 24 := by have := (wordB_iff.1 hw).1; rw [← hl] at this; exact this
  have HI := Lib.hid (is_any s l true w hl (by omega) hr hS)
  have HM := Lib.hid (fun W => mirrored_any s l W hl hw)
  have hlen : l.length ≤ 24 := (wordB_iff.1 hw).1
  have HF0 := fun W => wfirst_any ⟨(mirL l).toArray⟩ W (by rw [mk_size, mirL_len]; exact hlen)
  rw [firstL_is] at HF0
  have HF := Lib.hid HF0
  clear hl hr hS hw HF0 hlen
  generalize firstL (mirL l) = f at HF ⊢
  obtain ⟨t, ht⟩ : ∃ t : ByteArray, t = ⟨(mirL l).toArray⟩ := ⟨_, rfl⟩
  rw [← ht] at HM HF
  clear ht
  go_enter Tryd.func17, Tryd.ntmps17
  go_wp2_with fail
  refine HI.out.mono ?_
  rintro e w2 ⟨rfl, hb⟩
  have HB := Lib.hid hb
  clear hb
  go_wp2_with fail
  refine (HM.out _).mono ?_
  rintro e w3 ⟨rfl, hb⟩
  have HB3 := Lib.hid (band HB.out hb)
  clear hb
  go_wp2_with fail
  refine (HF.out _).mono ?_
  rintro e w4 ⟨rfl, hb⟩
  have HB4 := Lib.hid (band HB3.out hb)
  clear hb
  go_wp2
  go_ret2
  exact ⟨rfl, HB4.out⟩
set_option maxHeartbeats 2000000 in
theorem fQuarter_good (s : ByteArray) (l : List UInt8) (w : World) (hl : s.data.toList = l) (hr : outB l = true) (hS : StepsAt w) :
    Calls Tryd.prog 18 #[.string s] w fun e w' => e = .returned (.tuple #[.string (firstL (quaL l)), .int .i64 0]) ∧ Below w.heap.size w w' := by
  have hw := (outB_iff.1 hr).1
  have hs : s.size ≤ 24 := by have := (wordB_iff.1 hw).1; rw [← hl] at this; exact this
  have HI := Lib.hid (is_any s l true w hl (by omega) hr hS)
  have HM := Lib.hid (fun W => quarter_any s l W hl hw)
  have hlen : l.length ≤ 24 := (wordB_iff.1 hw).1
  have HF0 := fun W => wfirst_any ⟨(quaL l).toArray⟩ W (by rw [mk_size, quaL_len]; exact hlen)
  rw [firstL_is] at HF0
  have HF := Lib.hid HF0
  clear hl hr hS hw HF0 hlen
  generalize firstL (quaL l) = f at HF ⊢
  obtain ⟨t, ht⟩ : ∃ t : ByteArray, t = ⟨(quaL l).toArray⟩ := ⟨_, rfl⟩
  rw [← ht] at HM HF
  clear ht
  go_enter Tryd.func18, Tryd.ntmps18
  go_wp2_with fail
  refine HI.out.mono ?_
  rintro e w2 ⟨rfl, hb⟩
  have HB := Lib.hid hb
  clear hb
  go_wp2_with fail
  refine (HM.out _).mono ?_
  rintro e w3 ⟨rfl, hb⟩
  have HB3 := Lib.hid (band HB.out hb)
  clear hb
  go_wp2_with fail
  refine (HF.out _).mono ?_
  rintro e w4 ⟨rfl, hb⟩
  have HB4 := Lib.hid (band HB3.out hb)
  clear hb
  go_wp2
  go_ret2
  exact ⟨rfl, HB4.out⟩
theorem fMirror_bad (s : ByteArray) (l : List UInt8) (w : World) (hl : s.data.toList = l) (hs : s.size ≤ 9223372036854775807) (hr : outB l = false) (hS : StepsAt w) :
    Calls Tryd.prog 17 #[.string s] w fun e w' => e = .returned (.tuple #[.string ⟨#[]⟩, .int .i64 2]) ∧ Below w.heap.size w w' := by
  have HI := Lib.hid (is_any s l false w hl (by omega) hr hS)
  clear hl hr hS
  go_enter Tryd.func17, Tryd.ntmps17
  go_wp2_with fail
  refine HI.out.mono ?_
  rintro e w2 ⟨rfl, hb⟩
  have HB := Lib.hid hb
  clear hb
  go_wp2
  go_ret2
  exact ⟨rfl, HB.out⟩
theorem fQuarter_bad (s : ByteArray) (l : List UInt8) (w : World) (hl : s.data.toList = l) (hs : s.size ≤ 9223372036854775807) (hr : outB l = false) (hS : StepsAt w) :
    Calls Tryd.prog 18 #[.string s] w fun e w' => e = .returned (.tuple #[.string ⟨#[]⟩, .int .i64 2]) ∧ Below w.heap.size w w' := by
  have HI := Lib.hid (is_any s l false w hl (by omega) hr hS)
  clear hl hr hS
  go_enter Tryd.func18, Tryd.ntmps18
  go_wp2_with fail
  refine HI.out.mono ?_
  rintro e w2 ⟨rfl, hb⟩
  have HB := Lib.hid hb
  clear hb
  go_wp2
  go_ret2
  exact ⟨rfl, HB.out⟩
end Go.Proofs.YtfommfgokpiieabDoor
