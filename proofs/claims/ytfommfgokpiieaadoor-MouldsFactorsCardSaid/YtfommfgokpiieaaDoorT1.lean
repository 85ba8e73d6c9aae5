import Derived.Test.YtfommfgokpiieaaDoorA5
namespace Go.Proofs.YtfommfgokpiieaaDoor
open Go.RowKit

/-- The beginning of a string that a law hands on. -/
theorem text_any (s : ByteArray) (w : World) (hs : s.size ≤ 9223372036854775807) :
    Calls Tryd.prog 8 #[.string s] w fun e w' => e = .returned (.string (s.extract 0 (min s.size 30))) ∧ w = w' := by
  have E : Hid ((min (s.size : Int) 30).toNat = min s.size 30) := by simp only [Hid]; omega
  have h1 : min (s.size : Int) 30 ≤ s.size := by omega
  have h2 : 0 ≤ min (s.size : Int) 30 := by omega
  go_enter Tryd.func8, Tryd.ntmps8
  go_wp2
  go_ret
  exact ⟨by rw [← E.out]; rfl, rfl⟩
theorem text_list (s : ByteArray) (l : List UInt8) (hl : s.data.toList = l) : (s.extract 0 (min s.size 30)).data.toList = l.take 30 := by
  have hlen : l.length = s.size := by rw [← hl]; rfl
  subst hl
  simp [List.extract_eq_take_drop]
  rw [← hlen, Array.length_toList, Nat.min_comm]
theorem text_size (s : ByteArray) : (s.extract 0 (min s.size 30)).size = min s.size 30 := by
  simp [ByteArray.size_extract]
theorem text_id (s : ByteArray) (h : s.size ≤ 30) : s.extract 0 (min s.size 30) = s := by
  rw [show min s.size 30 = s.size by omega]
  simp
/-- A string is a word, an outline just if its beginning is. -/
theorem take_word (l : List UInt8) : wordB (l.take 30) = wordB l := by
  by_cases h : l.length ≤ 30
  · rw [List.take_of_length_le h]
  · have h1 : wordB l = false := by
      cases e : wordB l
      · rfl
      · have := (wordB_iff.1 e).1; omega
    have h2 : wordB (l.take 30) = false := by
      cases e : wordB (l.take 30)
      · rfl
      · have := (wordB_iff.1 e).1; rw [List.length_take] at this; omega
    rw [h1, h2]
theorem take_out (l : List UInt8) : outB (l.take 30) = outB l := by
  by_cases h : l.length ≤ 30
  · rw [List.take_of_length_le h]
  · have h1 : outB l = false := by
      cases e : outB l
      · rfl
      · have := (wordB_iff.1 (outB_iff.1 e).1).1; omega
    have h2 : outB (l.take 30) = false := by
      cases e : outB (l.take 30)
      · rfl
      · have := (wordB_iff.1 (outB_iff.1 e).1).1; rw [List.length_take] at this; omega
    rw [h1, h2]
end Go.Proofs.YtfommfgokpiieaaDoor
