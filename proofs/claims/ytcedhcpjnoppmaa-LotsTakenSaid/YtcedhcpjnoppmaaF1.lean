import Derived.Test.YtcedhcpjnoppmaaM1
namespace Go.Proofs.Ytcedhcpjnoppmaa
open Go.RowKit Go.Maps

/-- Those that are no longer to come. -/
def dn (lf : Int → Bool) (f : Int → Int) (z : Int) : Int := if lf z then 0 else f z

theorem dn_bd {lf : Int → Bool} {f : Int → Int} {M : Int} (h : ∀ z, 0 ≤ f z ∧ f z ≤ M) (z : Int) : 0 ≤ dn lf f z ∧ dn lf f z ≤ M := by
  have := h z
  unfold dn; split <;> omega

theorem fu_box {Y O M : Int} {f : Int → Int} (hY : 0 ≤ Y) (hO : Y ≤ O) (h12 : O ≤ 12) (h : ∀ z, 0 ≤ f z ∧ f z ≤ M) (z : Int) : 0 ≤ fu Y O f z ∧ fu Y O f z ≤ 12 * M := by
  have h1 := h z
  have h2 := h (z - 1)
  have hM : 0 ≤ M := by omega
  have a1 : f z * (O - Y) ≤ M * (O - Y) := Int.mul_le_mul_of_nonneg_right h1.2 (by omega)
  have a2 : f (z - 1) * Y ≤ M * Y := Int.mul_le_mul_of_nonneg_right h2.2 hY
  have e : M * (O - Y) + M * Y = M * O := by rw [← Int.mul_add]; congr 1; omega
  have e2 : M * O ≤ M * 12 := Int.mul_le_mul_of_nonneg_left h12 hM
  have b1 := Int.mul_nonneg h1.1 (show 0 ≤ O - Y by omega)
  have b2 := Int.mul_nonneg h2.1 hY
  unfold fu; omega

theorem dn_set {lf : Int → Bool} {f : Int → Int} {j : Nat} (hl : lf j = true) (z : Int) : dn (fun z => lf z && !(z == (j : Int))) f z = if z = (j : Int) then f j else dn lf f z := by
  unfold dn
  by_cases e : z = (j : Int)
  · subst e; simp
  · simp [e]

theorem dn_left {lf : Int → Bool} {f : Int → Int} {z : Int} (hl : lf z = true) : dn lf f z = 0 := by simp [dn, hl]
theorem dn_end {lf : Int → Bool} {f : Int → Int} (hl : ∀ z, lf z = false) (z : Int) : dn lf f z = f z := by simp [dn, hl]

/-- One key's two stores. -/
theorem fu_two {Y O : Int} {lf : Int → Bool} {f g1 : Int → Int} {j : Nat} (hl : lf j = true)
    (h1 : ∀ z, g1 z = if z = (j : Int) then fu Y O (dn lf f) j + f j * (O - Y) else fu Y O (dn lf f) z) (z : Int) :
    (if z = ((j + 1 : Nat) : Int) then g1 ((j : Int) + 1) + f j * Y else g1 z) = fu Y O (dn (fun z => lf z && !(z == (j : Int))) f) z := by
  have d0 := dn_left (f := f) hl
  have e0 : fu Y O (dn (fun z => lf z && !(z == (j : Int))) f) z = (if z = (j : Int) then f j else dn lf f z) * (O - Y) + (if z - 1 = (j : Int) then f j else dn lf f (z - 1)) * Y := by
    simp only [fu, dn_set hl]
  rw [e0]
  by_cases c1 : z = ((j + 1 : Nat) : Int)
  · rw [if_pos c1, h1, if_neg (by omega), if_neg (by omega), if_pos (by omega)]
    have : z = (j : Int) + 1 := by omega
    subst this
    simp only [fu]
    rw [show (j : Int) + 1 - 1 = j by omega, d0]; simp
  · rw [if_neg c1, h1]
    by_cases c2 : z = (j : Int)
    · subst c2
      rw [if_pos rfl, if_pos rfl, if_neg (by omega)]
      simp only [fu]; rw [d0]; simp; omega
    · rw [if_neg c2, if_neg c2, if_neg (by omega)]; rfl

def FurOut (Y O : Int) (f : Int → Int) (i n : Nat) (w : World) (e : Ending) (w' : World) : Prop :=
  ∃ b', e = .returned (.map (some b')) ∧ w.heap.size ≤ b' ∧ WaysAt w' b' (2 * n) (i + 1) (fu Y O f) ∧ Below w.heap.size w w'

/-- What holds ahead of each round. -/
structure FurAt (Y O : Int) (f : Int → Int) (i b n : Nat) (w : World) (wr : World) (lf : Int → Bool) (cnt : Nat) : Prop where
  rng : RangesAt wr b (w.heap.size + 1 + 1) n i f lf cnt
  out : ∃ n', n' + 2 * cnt ≤ 2 * n ∧ WaysAt wr (w.heap.size + 1) n' (i + 1) (fu Y O (dn lf f))
  bel : Below w.heap.size w wr
  size : w.heap.size + 3 ≤ wr.heap.size
  box : wr.heap[w.heap.size]? = some (.cells #[.int .i64 Y, .int .i64 O] 34)

theorem fur_start {Y O : Int} {f : Int → Int} {i b n : Nat} {w w0 : World} {lf : Int → Bool} {cnt : Nat} (hb : b < w.heap.size)
    (hr : RangesAt w0 b (w.heap.size + 1 + 1) n i f lf cnt) (hz : ∀ z, lf z = false → f z = 0) (hc : cnt ≤ n)
    (hg : ((w.alloc (.cells #[.int .i64 Y, .int .i64 O] 34)).alloc (.map #[] 0)).grownBy w0 none) (hs : w0.heap.size = w.heap.size + 3) : FurAt Y O f i b n w w0 lf cnt where
  rng := hr
  out := ⟨0, by omega, by
    have h := (ways_made (w.alloc (.cells #[.int .i64 Y, .int .i64 O] 34)) (i + 1)).kept hg (by simp)
    rw [show (w.alloc (.cells #[.int .i64 Y, .int .i64 O] 34)).heap.size = w.heap.size + 1 by simp] at h
    refine h.congr fun z => ?_
    have e : ∀ z, dn lf f z = 0 := fun z => by
      unfold dn
      cases e : lf z
      · simp [hz z e]
      · simp
    simp [fu, e]⟩
  bel := (((Below.refl _ _).alloc (Nat.le_refl _) _).alloc (by simp) _).grown hg (by simp; omega) (fun _ h => by cases h)
  size := by omega
  box := by rw [hg.block w.heap.size (by simp; omega) (by simp)]; exact heap_two1 w _ _

theorem fur_next {Y O : Int} {f : Int → Int} {i b n : Nat} {w wr w1 : World} {lf : Int → Bool} {cnt : Nat} (h : FurAt Y O f i b n w wr lf cnt) (hg : wr.grownBy w1 (some (w.heap.size + 1 + 1))) :
    (∃ n', n' + 2 * cnt ≤ 2 * n ∧ WaysAt w1 (w.heap.size + 1) n' (i + 1) (fu Y O (dn lf f))) ∧ Below w.heap.size w w1 ∧ w.heap.size + 3 ≤ w1.heap.size ∧ w1.heap[w.heap.size]? = some (.cells #[.int .i64 Y, .int .i64 O] 34) := by
  obtain ⟨n', h1, h2⟩ := h.out
  have hs := h.size
  refine ⟨⟨n', h1, h2.kept hg (by simp)⟩, h.bel.grown hg (by omega) (fun k hk => by cases hk; omega), by have := hg.size; omega, ?_⟩
  rw [hg.block w.heap.size (by omega) (by simp; omega)]; exact h.box

set_option maxHeartbeats 4000000 in
set_option maxRecDepth 100000 in
theorem further_any (b n i : Nat) (f : Int → Int) (Y O : Int) (w : World) (hY : 0 ≤ Y) (hO : Y ≤ O) (h12 : O ≤ 12) (hi : i ≤ 12) (hn : n ≤ 100000) (hf : ∀ z, 0 ≤ f z ∧ f z ≤ 743008370688) (hw : WaysAt w b n i f) :
    Calls Try.prog 77 #[.map (some b), chV Y O] w fun e w' => FurOut Y O f i n w e w' := by
  have HW := Lib.hid hw
  have HF := Lib.hid hf
  have Hn := Lib.hid hn
  have Hlt := Lib.hid hw.lt
  have hmm := @run_makeMap Try.prog
  clear hw hf hn
  go_enter Try.func77, Try.ntmps77
  go_wp2_with (at_range; refine wpList_range_ways _ rfl _ rfl b n i f rfl ((HW.out.alloc _).alloc _) ?_; intro w0 lf0 cnt0 hr0 hz0 hc0 hg0 hs0)
  have e2 : ((w.alloc (.cells #[.int .i64 Y, .int .i64 O] 34)).alloc (.map #[] 0)).heap.size = w.heap.size + 1 + 1 := by simp
  rw [e2] at hr0 hs0 ⊢
  clear e2
  go_frame
  go_loopw [6, 7] (fun _ _ wr => ∃ lf cnt, FurAt Y O f i b n w wr lf cnt) (fun _ _ wr => wr.rangeLeft b (w.heap.size + 1 + 1))
  case atStart =>
    refine ⟨lf0, cnt0, fur_start Hlt.out ?_ hz0 hc0 hg0 ?_⟩
    · exact hr0
    · omega
  case round =>
    obtain ⟨lf, cnt, hA⟩ := hrel
    have HA := Lib.hid hA
    clear hA
    go_wp2_with (at_next; refine wpList_next_ways _ rfl _ rfl b (w.heap.size + 1 + 1) n i f lf cnt rfl HA.out.rng ?_ ?_)
    · intro hl
      have HD : Hid (FurOut Y O f i n w (.returned (.map (some (w.heap.size + 1)))) wr) := by
        obtain ⟨n', h1, h2⟩ := HA.out.out
        exact ⟨_, rfl, by omega, (h2.congr fun z => by simp only [fu]; rw [dn_end hl, dn_end hl]).mono (by omega), HA.out.bel⟩
      go_wp2
      go_ret
      exact HD.out
    · intro j c w1 cnt1 hcc hj hl hr1 hlt hg1 hs1 hen
      subst hcc
      obtain ⟨⟨n', hn', hW1⟩, bel1, sz1, box1⟩ := fur_next HA.out hg1
      have HL := Lib.hid hl
      have HJ := Lib.hid hj
      have hj12 : j ≤ 12 := by omega
      have hj12' : (j : Int) ≤ 12 := by omega
      have c0 : w1.cell? ⟨w.heap.size, 0, none⟩ = some (.int .i64 Y) := block_cell box1 0
      have c1 : w1.cell? ⟨w.heap.size, 1, none⟩ = some (.int .i64 O) := block_cell box1 1
      have hb := part_bd hY hO h12 (HF.out j).1 (HF.out j).2
      have hg0' := fu_box (f := dn lf f) hY hO h12 (dn_bd HF.out) j
      have Hn' := Lib.hid hn'
      have HW1 := Lib.hid hW1
      have HR1 := Lib.hid hr1
      have HBEL := Lib.hid bel1
      have HBOX := Lib.hid box1
      clear hl hj hn' hW1 hr1 bel1 box1
      obtain ⟨e1, e2, e3, e4, e5, e6⟩ := hb
      obtain ⟨e7, e8⟩ := hg0'
      go_wp2_with (first
        | (at_lookup; refine wpList_lookup_ways _ rfl _ _ rfl (w.heap.size + 1) n' (i + 1) _ rfl HW1.out j (by have := HJ.out; omega) rfl ?_)
        | (at_mapUpdate; refine wpList_update_ways _ rfl _ _ _ rfl (w.heap.size + 1) n' (i + 1) _ rfl HW1.out (by have := Hn'.out; have := Hn.out; unfold maxLen; omega) j (by have := HJ.out; omega) (by omega) rfl _ (by omega) rfl ?_))
      intro w2 hW2 hg2
      obtain ⟨g1, hg1'⟩ : ∃ g1 : Int → Int, ∀ z, g1 z = if z = (j : Int) then fu Y O (dn lf f) j + f j * (O - Y) else fu Y O (dn lf f) z := ⟨_, fun _ => rfl⟩
      have HG1 := Lib.hid hg1'
      have HW2 : Hid (WaysAt w2 (w.heap.size + 1) (n' + 1) (i + 1) g1) := hW2.congr fun z => (HG1.out z).symm
      have hgb := fu_box (f := dn lf f) hY hO h12 (dn_bd HF.out) ((j : Int) + 1)
      have hge : g1 ((j : Int) + 1) = fu Y O (dn lf f) ((j : Int) + 1) := by rw [HG1.out, if_neg (by omega)]
      rw [← hge] at hgb
      obtain ⟨e9, e10⟩ := hgb
      have hlt2 : w.heap.size < w1.heap.size := by omega
      have hs2 := hg2.size
      have box2 : w2.heap[w.heap.size]? = some (.cells #[.int .i64 Y, .int .i64 O] 34) := by rw [hg2.block w.heap.size hlt2 (by simp)]; exact HBOX.out
      have c02 : w2.cell? ⟨w.heap.size, 0, none⟩ = some (.int .i64 Y) := block_cell box2 0
      have c12 : w2.cell? ⟨w.heap.size, 1, none⟩ = some (.int .i64 O) := block_cell box2 1
      have HBOX2 := Lib.hid box2
      have HR2 := Lib.hid (HR1.out.kept hg2 (by simp; have := Hlt.out; omega) (by simp))
      have HB2 := Lib.hid (HBEL.out.grown hg2 (by omega) (fun k hk => by cases hk; omega))
      clear box2 hW2 hg2 hg1' hge HW1 HBEL HBOX HR1 c0 c1
      go_wp2_with (first
        | (at_lookup; refine wpList_lookup_ways _ rfl _ _ rfl (w.heap.size + 1) (n' + 1) (i + 1) _ rfl HW2.out ((j : Int) + 1) (by have := HJ.out; omega) rfl ?_)
        | (at_mapUpdate; refine wpList_update_ways _ rfl _ _ _ rfl (w.heap.size + 1) (n' + 1) (i + 1) _ rfl HW2.out (by have := Hn'.out; have := Hn.out; unfold maxLen; omega) (j + 1) (by have := HJ.out; omega) (by omega) rfl _ (by omega) rfl ?_))
      intro w3 hW3 hg3
      have hnew : FurAt Y O f i b n w w3 (fun z => lf z && !(z == (j : Int))) cnt1 := by
        refine ⟨HR2.out.kept hg3 (by simp; have := Hlt.out; omega) (by simp), ⟨n' + 1 + 1, by have := Hn'.out; omega, hW3.congr fun z => fu_two HL.out HG1.out z⟩, HB2.out.grown hg3 (by omega) (fun k hk => by cases hk; omega), by have := hg3.size; omega, ?_⟩
        rw [hg3.block w.heap.size (by omega) (by simp)]; exact HBOX2.out
      have HN := Lib.hid hnew
      clear hnew hW3 hg3 HW2
      go_wp2
      go_roundw
      case rel => exact ⟨_, cnt1, HN.out⟩
      case measure => rw [HN.out.rng.left_eq, HA.out.rng.left_eq]; exact hlt

end Go.Proofs.Ytcedhcpjnoppmaa
