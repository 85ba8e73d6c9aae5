import Derived.Test.YtfommfgokpiieaaDoorProg
import Derived.Test.YtfommfgokpiieaaDoorMem2
import Derived.WalkSpells
import Derived.WalkLawsBesides
import Derived.BigQuiet
import Derived.Deep.QuietTactic
import Derived.Deep.RegionHeld3
import Derived.Ground.NamesProg
import Derived.Shelf.Lay
import Derived.Shelf.Small.Strs
import Derived.Shelf.Strings.SlTrimAscii
namespace Go.Proofs.YtfommfgokpiieaaDoor
open Go.RowKit Go.Shelf

shelf_lay Lays.n160 Nm 160 at Tryd as Tryd.lays160
shelf_lay Lays.n137 Nm 137 at Tryd as Tryd.lays137

theorem letters_has (b : UInt8) : [114, 117, 108, 100].contains b = isL b := by
  simp only [List.contains, List.elem, isL]
  cases h1 : b == 114 <;> cases h2 : b == 117 <;> cases h3 : b == 108 <;> cases h4 : b == 100 <;> rfl
theorem dw_nil (p : UInt8 → Bool) : ∀ l : List UInt8, l.dropWhile p = [] ↔ ∀ x ∈ l, p x = true
  | [] => by simp
  | a :: l => by
    rw [List.dropWhile_cons]
    cases h : p a
    · simp [h]
    · simp [h, dw_nil p l]
theorem dw_bad (p : UInt8 → Bool) : ∀ l : List UInt8, (∃ x ∈ l, p x = false) → ∃ x ∈ l.dropWhile p, p x = false
  | [], h => by obtain ⟨x, hx, _⟩ := h; cases hx
  | a :: l, h => by
    rw [List.dropWhile_cons]
    cases ha : p a
    · exact ⟨a, by simp, ha⟩
    · simp only [if_true]
      obtain ⟨x, hx, hp⟩ := h
      rcases List.mem_cons.1 hx with rfl | hx
      · rw [ha] at hp; cases hp
      · exact dw_bad p l ⟨x, hx, hp⟩
theorem trim_yes {l : List UInt8} (h : ∀ b ∈ l, isL b = true) : Lib.trimS l [114, 117, 108, 100] = [] := by
  have e : l.reverse.dropWhile ([114, 117, 108, 100].contains ·) = [] := by
    rw [dw_nil]
    intro b hb
    rw [letters_has]; exact h b (by simpa using hb)
  simp only [Lib.trimS, Lib.trimLeftS, Lib.trimRightS, e]
  rfl
theorem trim_no {l : List UInt8} (h : ¬ ∀ b ∈ l, isL b = true) : Lib.trimS l [114, 117, 108, 100] ≠ [] := by
  intro he
  simp only [Lib.trimS, Lib.trimLeftS, Lib.trimRightS] at he
  rw [dw_nil] at he
  obtain ⟨b, hb, hn⟩ : ∃ b ∈ l, isL b = false := by simpa using h
  obtain ⟨x, hx, hp⟩ := dw_bad ([114, 117, 108, 100].contains ·) l.reverse ⟨b, by simpa using hb, by rw [letters_has]; exact hn⟩
  have := he x (by simpa using hx)
  rw [this] at hp; cases hp

set_option maxHeartbeats 1000000 in
theorem trim_any (s : ByteArray) (w : World) (hs : s.size ≤ 9223372036854775807) :
    Calls Tryd.prog 56 #[.string s, .string ⟨#[114, 117, 108, 100]⟩] w fun e w' => e = .returned (.string ⟨(Lib.trimS s.data.toList [114, 117, 108, 100]).toArray⟩) ∧ Below w.heap.size w w' :=
  Any.strings_Trim_laid Tryd.lays160 (by kernel_rfl) s ⟨#[114, 117, 108, 100]⟩ w hs (by decide) (ascii_of_all (by decide))

theorem index_any (b : UInt8) (w : World) (h : isL b = true) :
    Calls Tryd.prog 65 #[.string ⟨#[114, 117, 108, 100]⟩, .int .u8 b.toNat] w fun e w' => e = .returned (.int .i64 (li b : Nat)) ∧ w = w' := by
  refine (Any.strings_IndexByte Tryd.lays137 ⟨#[114, 117, 108, 100]⟩ b.toNat w).mono ?_
  rintro e w' ⟨rfl, rfl⟩
  refine ⟨?_, rfl⟩
  rcases isL_or h with rfl | rfl | rfl | rfl <;> rfl

theorem below_drewN {B : Nat} {a w : World} (h : Below B a w) (n : Nat) : Below B a (w.drewN n) := ⟨h.os, h.tape, h.output, h.size, h.block⟩
theorem size_list (s : ByteArray) : s.data.toList.length = s.size := rfl

set_option maxHeartbeats 1000000 in
theorem valid_any (s : ByteArray) (w : World) (hs : s.size ≤ 9223372036854775807) :
    Calls Tryd.prog 40 #[.string s] w fun e w' => e = .returned (.bool (wordB s.data.toList)) ∧ Below w.heap.size w w' := by
  by_cases h24 : s.size ≤ 24
  · by_cases hL : ∀ b ∈ s.data.toList, isL b = true
    · have HT := Lib.hid (trim_any s w hs)
      have H := Lib.hid (trim_yes hL)
      have HW : Hid (wordB s.data.toList = true) := wordB_iff.2 ⟨h24, hL⟩
      clear hL
      go_enter Tryd.func40, Tryd.ntmps40
      go_wp2_with fail
      refine HT.out.mono ?_
      rintro e w' ⟨rfl, hb⟩
      rw [H.out]
      have HB := Lib.hid hb
      clear hb
      go_wp2
      go_ret
      exact ⟨by rw [HW.out]; rfl, HB.out⟩
    · have HT := Lib.hid (trim_any s w hs)
      have hne := trim_no hL
      have HW : Hid (wordB s.data.toList = false) := by
        simp only [Hid]; cases h : wordB s.data.toList
        · rfl
        · exact absurd (wordB_iff.1 h).2 hL
      clear hL
      generalize Lib.trimS s.data.toList [114, 117, 108, 100] = t at HT hne
      go_enter Tryd.func40, Tryd.ntmps40
      go_wp2_with fail
      refine HT.out.mono ?_
      rintro e w' ⟨rfl, hb⟩
      have HB := Lib.hid hb
      clear hb
      obtain ⟨x, t, rfl⟩ := List.exists_cons_of_ne_nil hne
      go_wp2
      go_ret
      exact ⟨by rw [HW.out]; rfl, HB.out⟩
  · have HW : Hid (wordB s.data.toList = false) := by
      simp only [Hid]; cases h : wordB s.data.toList
      · rfl
      · exact absurd (wordB_iff.1 h).1 h24
    go_enter Tryd.func40, Tryd.ntmps40
    go_wp2
    go_ret
    exact ⟨by rw [HW.out]; rfl, Below.refl _ _⟩
end Go.Proofs.YtfommfgokpiieaaDoor
