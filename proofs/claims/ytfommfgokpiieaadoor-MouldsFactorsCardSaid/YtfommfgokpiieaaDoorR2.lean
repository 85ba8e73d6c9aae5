import Derived.Test.YtfommfgokpiieaaDoorR1
namespace Go.Proofs.YtfommfgokpiieaaDoor
open Go.RowKit

/-- Twice what is to the left, as the document reckons it. -/
def ra (l : List UInt8) : Nat → Int
  | 0 => 0
  | k + 1 => ra l k + (px l k * sy (lt l k) - py l k * sx (lt l k))
theorem sxy (b : UInt8) : sx b * sy b = 0 := by
  unfold sx sy
  by_cases h1 : b = 114
  · subst h1; decide
  · by_cases h2 : b = 108
    · subst h2; decide
    · simp [h1, h2]
theorem ra_is (l : List UInt8) : ∀ k, ra l k = 2 * ar l k - px l k * py l k
  | 0 => by simp [ra, ar, px, py]
  | k + 1 => by
    have h := ra_is l k
    have hz := sxy (lt l k)
    simp only [ra, ar, px, py]
    rw [h]
    grind
theorem ra_bd (l : List UInt8) : ∀ k : Nat, k ≤ 30 → -(60 * (k : Int)) ≤ ra l k ∧ ra l k ≤ 60 * k
  | 0, _ => by simp [ra]
  | k + 1, h => by
    have h1 := ra_bd l k (by omega)
    have a1 := px_bd l k
    have a2 := py_bd l k
    have b1 := sx_bd (lt l k)
    have b2 := sy_bd (lt l k)
    have m1 := mul_bd (M := 30) (a := px l k) (b := sy (lt l k)) (by omega) (by omega) b2.1 b2.2
    have m2 := mul_bd (M := 30) (a := py l k) (b := sx (lt l k)) (by omega) (by omega) b1.1 b1.2
    simp only [ra]
    omega

/-- A part of a word: its letters, its points. -/
theorem lt_drop (l : List UInt8) (i k : Nat) : lt (l.drop i) k = lt l (i + k) := by
  unfold lt
  simp [List.getD_eq_getElem?_getD, List.getElem?_drop]
theorem px_drop (l : List UInt8) (i : Nat) : ∀ k, px (l.drop i) k = px l (i + k) - px l i
  | 0 => by simp [px]
  | k + 1 => by rw [show i + (k + 1) = (i + k) + 1 from rfl]; simp only [px]; rw [px_drop l i k, lt_drop]; omega
theorem py_drop (l : List UInt8) (i : Nat) : ∀ k, py (l.drop i) k = py l (i + k) - py l i
  | 0 => by simp [py]
  | k + 1 => by rw [show i + (k + 1) = (i + k) + 1 from rfl]; simp only [py]; rw [py_drop l i k, lt_drop]; omega
theorem lt_take (l : List UInt8) {m k : Nat} (h : k < m) : lt (l.take m) k = lt l k := by
  unfold lt
  simp [List.getD_eq_getElem?_getD, h]
theorem px_take (l : List UInt8) (m : Nat) : ∀ k, k ≤ m → px (l.take m) k = px l k
  | 0, _ => rfl
  | k + 1, h => by simp only [px]; rw [px_take l m k (by omega), lt_take l (by omega)]
theorem py_take (l : List UInt8) (m : Nat) : ∀ k, k ≤ m → py (l.take m) k = py l k
  | 0, _ => rfl
  | k + 1, h => by simp only [py]; rw [py_take l m k (by omega), lt_take l (by omega)]
theorem extract_list (s : ByteArray) (l : List UInt8) (hl : s.data.toList = l) (i j : Nat) : (s.extract i j).data.toList = (l.take j).drop i := by
  subst hl
  simp [List.extract_eq_take_drop]
  rw [List.drop_take]
theorem extract_size (s : ByteArray) (i j : Nat) (hj : j ≤ s.size) : (s.extract i j).size = j - i := by
  simp [ByteArray.size_extract]; omega
/-- The sum of a part of a word. -/
theorem sum_part (s : ByteArray) (l : List UInt8) (i j : Nat) (w : World) (hl : s.data.toList = l) (hs : s.size ≤ 1000) (hij : i ≤ j) (hj : j ≤ s.size) :
    Calls Tryd.prog 33 #[.string (s.extract i j)] w fun e w' => e = .returned (pV (px l j - px l i) (py l j - py l i)) ∧ Below w.heap.size w w' := by
  have he := extract_size s i j hj
  refine sum_r _ _ _ _ w (extract_list s l hl i j) (by omega) ?_ ?_
  · rw [he, px_drop, px_take l j i hij, show i + (j - i) = j by omega, px_take l j j (Nat.le_refl _)]
  · rw [he, py_drop, py_take l j i hij, show i + (j - i) = j by omega, py_take l j j (Nat.le_refl _)]

def SomeIs (r : Bool) (w : World) (e : Ending) (w' : World) : Prop := e = .returned (.bool r) ∧ Below w.heap.size w w'

set_option maxHeartbeats 8000000 in
set_option maxRecDepth 100000 in
theorem ris_any (s : ByteArray) (l : List UInt8) (w : World) (hl : s.data.toList = l) (hs : s.size ≤ 9223372036854775807) :
    Calls Tryd.prog 11 #[.string s] w fun e w' => SomeIs (outB l) w e w' := by
  have HN : Hid (l.length = s.size) := by simp only [Hid]; rw [← hl]; rfl
  have HWd := Lib.hid (word_r s l w hl hs)
  cases hw : wordB l
  · have HO : Hid (outB l = false) := by simp [Hid, outB, hw]
    rw [hw] at HWd
    clear hw hl
    go_enter Tryd.func11, Tryd.ntmps11
    go_wp2_with fail
    refine HWd.out.mono ?_
    rintro r w2 ⟨rfl, rfl⟩
    go_wp2
    go_ret
    exact ⟨by rw [HO.out]; rfl, Below.refl _ _⟩
  rw [hw] at HWd
  have hn24 : s.size ≤ 24 := by have := (wordB_iff.1 hw).1; rw [HN.out] at this; exact this
  have HW := Lib.hid hw
  by_cases h4 : 4 ≤ s.size
  rotate_left
  · have HO : Hid (outB l = false) := by
      have : ¬ 4 ≤ l.length := by rw [HN.out]; exact h4
      simp [Hid, outB, this]
    clear hw hl
    go_enter Tryd.func11, Tryd.ntmps11
    go_wp2_with fail
    refine HWd.out.mono ?_
    rintro r w2 ⟨rfl, rfl⟩
    go_wp2
    go_ret
    exact ⟨by rw [HO.out]; rfl, Below.refl _ _⟩
  have H4 : Hid (4 ≤ l.length) := by simp only [Hid]; rw [HN.out]; exact h4
  obtain ⟨X, hX⟩ : ∃ X, px l s.size = X := ⟨_, rfl⟩
  obtain ⟨Y, hY⟩ : ∃ Y, py l s.size = Y := ⟨_, rfl⟩
  have HX := Lib.hid hX
  have HY := Lib.hid hY
  have HSm := Lib.hid (fun W => sum_r s l X Y W hl (by omega) hX hY)
  have HPart := Lib.hid (fun i j W h1 h2 => sum_part s l i j W hl (by omega) h1 h2)
  have HSt := Lib.hid (fun (k : Nat) (hk : k < s.size) => lt_at s l hl k hk)
  clear hX hY hw hl
  by_cases h0 : X = 0 ∧ Y = 0
  rotate_left
  · have HO : Hid (outB l = false) := by
      simp only [Hid]; cases e : outB l
      · rfl
      · have := (outB_iff.1 e).2.2.1
        rw [HN.out, HX.out, HY.out] at this
        exact absurd this h0
    have he := equalIn_pt X Y 0 0 false (by
      cases e : (X == 0 && Y == 0)
      · rfl
      · simp at e; exact absurd e h0)
    clear h0
    go_enter Tryd.func11, Tryd.ntmps11
    go_wp2_with fail
    refine HWd.out.mono ?_
    rintro r w2 ⟨rfl, rfl⟩
    go_wp2_with fail
    refine (HSm.out _).mono ?_
    rintro r w3 ⟨rfl, hb⟩
    have HB := Lib.hid hb
    clear hb
    go_wp2
    go_ret
    exact ⟨by rw [HO.out]; rfl, HB.out⟩
  obtain ⟨rfl, rfl⟩ := h0
  have he := equalIn_pt 0 0 0 0 true (by decide)
  go_enter Tryd.func11, Tryd.ntmps11
  go_wp2_with fail
  refine HWd.out.mono ?_
  rintro r w2 ⟨rfl, rfl⟩
  go_wp2_with fail
  refine (HSm.out _).mono ?_
  rintro r w3 ⟨rfl, hb⟩
  have HB := Lib.hid hb
  clear hb
  go_wp2
  clear he
  go_loopw [3, 25] (fun v i wr => ∃ k : Nat, k ≤ s.size ∧ i = .int .i64 k ∧ v = .int .i64 (ra l k) ∧ Below w.heap.size w wr ∧ Hid (∀ i, i < k → ∀ j, i < j → j < s.size → px l i ≠ px l j ∨ py l i ≠ py l j)) (fun _ i _ => s.size - (intOf i).toNat)
  case atStart => exact ⟨0, Nat.zero_le _, rfl, rfl, HB.out, fun i hi => absurd hi (Nat.not_lt_zero _)⟩
  case round =>
    obtain ⟨k, hk, rfl, rfl, hb, hr⟩ := hrel
    obtain ⟨wo, hwo⟩ : ∃ wo : World, wo = wr := ⟨_, rfl⟩
    subst hwo
    have HBo := Lib.hid hb
    clear hb
    by_cases hlt : k < s.size
    rotate_left
    · have e : s.size = k := by omega
      have HF : Hid (freeB l l.length = true) := by
        simp only [Hid]; rw [freeB_iff, HN.out]
        intro j hj i hi
        exact hr.out i (by omega) j hi hj
      have HO : Hid (outB l = decide (0 < ra l k)) := by
        simp only [Hid]
        have h1 := ra_is l s.size
        rw [HX.out, HY.out] at h1
        unfold outB
        rw [HW.out, HF.out, HN.out, HX.out, HY.out, ← e]
        simp [h4]
        omega
      have hge : (s.size : Int) ≤ k := by omega
      clear e
      go_wp2
      go_ret
      exact ⟨by rw [HO.out]; rfl, HBo.out⟩
    have HI0 : Hid (Below wo.heap.size wo wo) := Below.refl _ _
    go_wp2
    go_loopw [5] (fun i wr => ∃ j : Nat, k < j ∧ j ≤ s.size ∧ i = .int .i64 j ∧ Below wo.heap.size wo wr ∧ Hid (∀ m, k < m → m < j → px l k ≠ px l m ∨ py l k ≠ py l m)) (fun i _ => s.size - (intOf i).toNat)
    case atStart => exact ⟨k + 1, by omega, by omega, by go_num, Below.refl _ _, fun m h1 h2 => by omega⟩
    case round =>
      obtain ⟨j, hkj, hj, rfl, hb, hr2⟩ := hrel
      have HBi := Lib.hid hb
      clear hb
      by_cases hltj : j < s.size
      · have HP := Lib.hid (fun W => HPart.out k j W (by omega) (by omega))
        have c1 : (k : Int) ≤ j := by omega
        have c2 : (j : Int) ≤ s.size := by omega
        by_cases hd : px l j - px l k = 0 ∧ py l j - py l k = 0
        · have HO : Hid (outB l = false) := by
            simp only [Hid]; cases e : outB l
            · rfl
            · have hf := (outB_iff.1 e).2.2.2.1
              rw [freeB_iff] at hf
              rcases hf j (by rw [HN.out]; exact hltj) k hkj with h | h <;> omega
          have he := equalIn_pt (px l j - px l k) (py l j - py l k) 0 0 true (by simp [hd.1, hd.2])
          have HBz := Lib.hid (HBo.out.trans (HBi.out.mono HBo.out.size))
          clear hd
          go_wp2_with fail
          refine (HP.out _).mono ?_
          rintro r w4 ⟨rfl, hb⟩
          have HB4 := Lib.hid (band HBz.out hb)
          clear hb
          go_wp2
          go_ret
          exact ⟨by rw [HO.out]; rfl, HB4.out⟩
        · have hn : Hid (∀ m, k < m → m < j + 1 → px l k ≠ px l m ∨ py l k ≠ py l m) := by
            intro m h1 h2
            by_cases e : m = j
            · subst e
              by_cases hx : px l k = px l m
              · right; intro hy; exact hd ⟨by omega, by omega⟩
              · exact .inl hx
            · exact hr2.out m h1 (by omega)
          have he := equalIn_pt (px l j - px l k) (py l j - py l k) 0 0 false (by
            cases e : (px l j - px l k == 0 && py l j - py l k == 0)
            · rfl
            · simp at e; exact absurd ⟨by omega, by omega⟩ hd)
          clear hd
          go_wp2_with fail
          refine (HP.out _).mono ?_
          rintro r w4 ⟨rfl, hb⟩
          have HB4 := Lib.hid (band HBi.out hb)
          clear hb
          go_wp2
          clear he
          go_roundw
          case rel => exact ⟨j + 1, by omega, by omega, by go_num, HB4.out, hn⟩
          case measure => simp [intOf]; omega
      · have hn : Hid (∀ i, i < k + 1 → ∀ j, i < j → j < s.size → px l i ≠ px l j ∨ py l i ≠ py l j) := by
          intro i hi m h1 h2
          by_cases e : i = k
          · subst e; exact hr2.out m h1 (by omega)
          · exact hr.out i (by omega) m h1 h2
        have hge : (s.size : Int) ≤ j := by omega
        have HP0 := Lib.hid (fun W => HPart.out 0 k W (by omega) (by omega))
        have HRa : Hid (ra l (k + 1) = ra l k + (px l k * sy s[k] - py l k * sx s[k])) := by simp only [Hid, ra]; rw [HSt.out k hlt]
        have HS := Lib.hid (step_r s[k])
        have b0 := ra_bd l k (by omega)
        have b1 := px_bd l k
        have b2 := py_bd l k
        have b3 := sx_bd s[k]
        have b4 := sy_bd s[k]
        obtain ⟨m1, m2⟩ := mul_bd (M := 30) (a := px l k) (b := sy s[k]) (by omega) (by omega) b4.1 b4.2
        obtain ⟨m3, m4⟩ := mul_bd (M := 30) (a := py l k) (b := sx s[k]) (by omega) (by omega) b3.1 b3.2
        have hp0 : px l 0 = 0 := rfl
        have hp1 : py l 0 = 0 := rfl
        simp only [hp0, hp1, Int.sub_zero] at HP0
        obtain ⟨b0, b0'⟩ := b0
        have c2 : (k : Int) ≤ s.size := by omega
        have HBz := Lib.hid (HBo.out.trans (HBi.out.mono HBo.out.size))
        clear b1 b2 b3 b4 hp0 hp1
        generalize sx s[k] = SX at *
        generalize sy s[k] = SY at *
        generalize px l k = PX at *
        generalize py l k = PY at *
        go_wp2_with fail
        refine (HS.out _).mono ?_
        rintro r w4 ⟨rfl, rfl⟩
        go_wp2_with fail
        refine (HP0.out _).mono ?_
        rintro r w5 ⟨rfl, hb⟩
        have HB5 := Lib.hid ((band HBz.out hb).trans ((one_le w5 (.cells #[.int .i64 PX, .int .i64 PY] 33)).mono (band HBz.out hb).size))
        clear hb
        go_wp2
        go_roundw
        case rel => exact ⟨k + 1, by omega, by go_num, by rw [HRa.out], HB5.out, hn⟩
        case measure => simp [intOf]; omega
end Go.Proofs.YtfommfgokpiieaaDoor
