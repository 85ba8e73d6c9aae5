import Derived.Test.YtfommfgokpiieaaDoorB2
namespace Go.Proofs.YtfommfgokpiieaaDoor
open Go.RowKit

/-- The back of a word. -/
def bk (b : UInt8) : UInt8 := rep [108, 100, 114, 117] b
def backL (l : List UInt8) : List UInt8 := (l.map bk).reverse
theorem backL_len (l : List UInt8) : (backL l).length = l.length := by simp [backL]
theorem bk_L {b : UInt8} (h : isL b = true) : isL (bk b) = true := by
  rcases isL_or h with rfl | rfl | rfl | rfl <;> decide
theorem bk_bk {b : UInt8} (h : isL b = true) : bk (bk b) = b := by
  rcases isL_or h with rfl | rfl | rfl | rfl <;> decide
theorem bk_s {b : UInt8} (h : isL b = true) : sx (bk b) = -sx b ∧ sy (bk b) = -sy b := by
  rcases isL_or h with rfl | rfl | rfl | rfl <;> decide
theorem lt_reverse (l : List UInt8) {k : Nat} (hk : k < l.length) : lt l.reverse k = lt l (l.length - 1 - k) := by
  unfold lt
  rw [List.getD_eq_getElem?_getD, List.getD_eq_getElem?_getD, List.getElem?_reverse hk]
theorem backL_word {l : List UInt8} (h : wordB l = true) : wordB (backL l) = true := by
  obtain ⟨h1, h2⟩ := wordB_iff.1 h
  refine wordB_iff.2 ⟨by rw [backL_len]; exact h1, fun b hb => ?_⟩
  simp only [backL, List.mem_reverse, List.mem_map] at hb
  obtain ⟨a, ha, rfl⟩ := hb
  exact bk_L (h2 a ha)
theorem backL_backL {l : List UInt8} (h : ∀ b ∈ l, isL b = true) : backL (backL l) = l := by
  unfold backL
  rw [List.map_reverse, List.reverse_reverse, List.map_map]
  conv => rhs; rw [← List.map_id l]
  apply List.map_congr_left
  intro b hb
  exact bk_bk (h b hb)
theorem backL_append (l m : List UInt8) : backL (l ++ m) = backL m ++ backL l := by simp [backL]

set_option maxHeartbeats 2000000 in
set_option maxRecDepth 100000 in
theorem wback_any (s : ByteArray) (l : List UInt8) (w : World) (hl : s.data.toList = l) (hw : wordB l = true) :
    Calls Tryd.prog 41 #[.string s] w fun e w' => e = .returned (.string ⟨(backL l).toArray⟩) ∧ Below w.heap.size w w' := by
  obtain ⟨h1, h2⟩ := wordB_iff.1 hw
  have hs : s.size ≤ 24 := by rw [← hl] at h1; exact h1
  have HR := Lib.hid (replaced_any s ⟨#[108, 100, 114, 117]⟩ l [108, 100, 114, 117] w hl hs h2 rfl rfl)
  have HLen : Hid (l.length = s.size) := by simp only [Hid]; rw [← hl]; rfl
  clear hl hw h1 h2
  obtain ⟨m, hm⟩ : ∃ m : List UInt8, m = l.map (rep [108, 100, 114, 117]) := ⟨_, rfl⟩
  have HM : Hid (backL l = m.reverse) := by simp only [Hid]; rw [hm]; rfl
  have HML : Hid (m.length = s.size) := by simp only [Hid]; rw [hm, List.length_map]; exact HLen.out
  rw [← hm] at HR
  have HSz : Hid ((⟨m.toArray⟩ : ByteArray).size = s.size) := by simp only [Hid]; rw [← HML.out]; simp [ByteArray.size]
  clear hm
  go_enter Tryd.func41, Tryd.ntmps41
  go_wp2_with fail
  refine HR.out.mono ?_
  rintro e w2 ⟨rfl, hb⟩
  have HB := Lib.hid hb
  clear hb
  obtain ⟨cap, w3, hcv, hB1, hb1⟩ := conv_bytes 46 Tryd.underlying46 ⟨m.toArray⟩ m w2 (by simp)
  rw [HSz.out] at hcv hB1
  have HB1 := Lib.hid hB1
  have HB3 := Lib.hid (band HB.out hb1)
  have HRev := Lib.hid (reverse_any w2.heap.size cap s.size (fun j => lt m j) w3 (by omega) hB1)
  clear hb1 hB1
  go_wp2_with fail
  refine HRev.out.mono ?_
  rintro e w4 ⟨rfl, hB4, hb4⟩
  have hcb := conv_back 46 Tryd.underlying46 w2.heap.size s.size cap _ m.reverse w4 hB4 (by rw [List.length_reverse, HML.out]) (fun j hj => by rw [lt_reverse m (by rw [HML.out]; exact hj), HML.out])
  have HB4 : Hid (Below w.heap.size w w4) := HB3.out.trans (hb4.mono HB.out.size)
  clear hB4 hb4 hcv
  go_wp2
  go_ret
  exact ⟨by rw [HM.out]; rfl, HB4.out⟩

end Go.Proofs.YtfommfgokpiieaaDoor
