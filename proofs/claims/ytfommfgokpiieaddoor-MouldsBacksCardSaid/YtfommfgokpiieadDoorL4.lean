import Derived.Test.YtfommfgokpiieadDoorT1
import Derived.Test.YtfommfgokpiieadDoorR2
import Derived.Test.YtfommfgokpiieadDoorB4
namespace Go.Proofs.YtfommfgokpiieadDoor
open Go.RowKit

def sumX (l : List UInt8) : Int := (l.map sx).sum
def sumY (l : List UInt8) : Int := (l.map sy).sum
theorem px_cons (b : UInt8) (l : List UInt8) (k : Nat) : px (b :: l) (k + 1) = sx b + px l k := by
  have h := px_drop (b :: l) 1 k
  simp only [List.drop_succ_cons, List.drop_zero] at h
  have h1 : px (b :: l) 1 = sx b := by simp [px, lt]
  rw [h1] at h
  rw [Nat.add_comm k 1]; omega
theorem py_cons (b : UInt8) (l : List UInt8) (k : Nat) : py (b :: l) (k + 1) = sy b + py l k := by
  have h := py_drop (b :: l) 1 k
  simp only [List.drop_succ_cons, List.drop_zero] at h
  have h1 : py (b :: l) 1 = sy b := by simp [py, lt]
  rw [h1] at h
  rw [Nat.add_comm k 1]; omega
theorem px_len : ∀ l : List UInt8, px l l.length = sumX l
  | [] => rfl
  | b :: l => by rw [List.length_cons, px_cons, px_len l]; simp [sumX]
theorem py_len : ∀ l : List UInt8, py l l.length = sumY l
  | [] => rfl
  | b :: l => by rw [List.length_cons, py_cons, py_len l]; simp [sumY]
theorem sum_back : ∀ l : List UInt8, (∀ b ∈ l, isL b = true) → sumX (backL l) = -sumX l ∧ sumY (backL l) = -sumY l
  | [], _ => ⟨rfl, rfl⟩
  | b :: l, h => by
    have ih := sum_back l (fun x hx => h x (List.mem_cons_of_mem _ hx))
    have hb := bk_s (h b (List.mem_cons_self ..))
    have e : backL (b :: l) = backL l ++ [bk b] := by simp [backL]
    rw [e]
    unfold sumX sumY at *
    simp only [List.map_append, List.sum_append, List.map_cons, List.map_nil, List.sum_cons, List.sum_nil]
    omega
theorem back_sum {l : List UInt8} (h : ∀ b ∈ l, isL b = true) : px (backL l) l.length = -px l l.length ∧ py (backL l) l.length = -py l l.length := by
  have h1 := sum_back l h
  have e := backL_len l
  constructor
  · rw [px_len l, ← h1.1, ← px_len, e]
  · rw [py_len l, ← h1.2, ← py_len, e]

theorem u64_pos (j : Int) : 0 ≤ IntKind.u64.wrap j := by
  unfold IntKind.wrap
  simp [IntKind.signed, IntKind.bits]
  omega
theorem conv (m : Int) (h0 : 0 < m) (h1 : m ≤ 1000) (j : Int) : ∃ d : Nat, (d : Int) < m ∧ wrap64 ((IntKind.u64.wrap j).tmod m) = d := by
  have hp := u64_pos j
  generalize IntKind.u64.wrap j = u at *
  have e : u.tmod m = u % m := Int.tmod_eq_emod_of_nonneg hp
  have h2 := Int.emod_nonneg u (show m ≠ 0 by omega)
  have h3 := Int.emod_lt_of_pos u h0
  refine ⟨(u % m).toNat, by omega, ?_⟩
  rw [e, show ((u % m).toNat : Int) = u % m by omega]
  exact IntWalk.wrap64_in _ (by omega)

theorem backs_bad (W : World) (s : ByteArray) (k : Int) (hs : s.size ≤ 9223372036854775807) (h : wordB s.data.toList = false) (hS : StepsAt W) :
    Calls Tryd.prog 4 #[.string s, .int .i64 k] W fun e W' => SomeIs true W e W' := by
  have HT := Lib.hid (text_any s W hs)
  have HBk := Lib.hid (fBack_bad (s.extract 0 (min s.size 30)) (s.data.toList.take 30) W (text_list s _ rfl) (by rw [text_size]; omega) (by rw [take_word]; exact h))
  have HAw := Lib.hid (fun W' h => awake_any W' h)
  have HS := Lib.hid hS
  clear h hS
  generalize s.extract 0 (min s.size 30) = t at HT HBk
  go_enter Tryd.func4, Tryd.ntmps4
  go_wp2_with fail
  refine HT.out.mono ?_
  rintro e w1 ⟨rfl, rfl⟩
  go_wp2_with fail
  refine HBk.out.mono ?_
  rintro e w2 ⟨rfl, hb⟩
  have HB := Lib.hid hb
  clear hb
  go_wp2_with fail
  refine (HAw.out _ (HS.out.keep HB.out)).mono ?_
  rintro e w3 ⟨rfl, hb⟩
  have HB3 := Lib.hid (band HB.out hb)
  clear hb
  go_wp2
  go_ret
  exact ⟨rfl, HB3.out⟩

theorem bytes_eta (s : ByteArray) : (⟨s.data.toList.toArray⟩ : ByteArray) = s := by cases s; simp

set_option maxHeartbeats 8000000 in
set_option maxRecDepth 100000 in
theorem backs_good (W : World) (s : ByteArray) (k : Int) (h : wordB s.data.toList = true) (hS : StepsAt W) :
    Calls Tryd.prog 4 #[.string s, .int .i64 k] W fun e W' => SomeIs true W e W' := by
  obtain ⟨hw1, hw2⟩ := wordB_iff.1 h
  have hs : s.size ≤ 24 := hw1
  obtain ⟨d, hd1, hd2⟩ := conv ((s.size : Int) + 1) (by omega) (by omega) k
  have hd : d ≤ s.size := by omega
  obtain ⟨l, hl⟩ : ∃ l, s.data.toList = l := ⟨_, rfl⟩
  rw [hl] at h hw1 hw2
  have HT0 := text_any s W (by omega)
  rw [text_id s (by omega)] at HT0
  have HT := Lib.hid HT0
  have HB1 := Lib.hid (fun W' => fBack_good s l W' hl h)
  have HWd0 := fun W' => word_r s l W' hl (by omega)
  rw [h] at HWd0
  have HWd := Lib.hid HWd0
  have HB2a := fun W' => fBack_good ⟨(backL l).toArray⟩ (backL l) W' (by simp) (backL_word h)
  rw [backL_backL hw2, ← hl, bytes_eta, hl] at HB2a
  have HB2 := Lib.hid HB2a
  have hx1 : wordB (l.take d) = true := wordB_iff.2 ⟨by rw [List.length_take]; omega, fun b hb => hw2 b (List.mem_of_mem_take hb)⟩
  have hx2 : wordB (l.drop d) = true := wordB_iff.2 ⟨by rw [List.length_drop]; omega, fun b hb => hw2 b (List.mem_of_mem_drop hb)⟩
  have HB3 := Lib.hid (fun W' => fBack_good (s.extract 0 d) (l.take d) W' (by rw [extract_list s l hl]; simp) hx1)
  have HB4 := Lib.hid (fun W' => fBack_good (s.extract d s.size) (l.drop d) W' (by rw [extract_list s l hl, List.take_of_length_le (by rw [← hl]; exact Nat.le_refl _)]) hx2)
  have hlen : l.length = s.size := by rw [← hl]; rfl
  have HSm1 := Lib.hid (fun W' => sum_r s l _ _ W' hl (by omega) rfl rfl)
  have hbs : (⟨(backL l).toArray⟩ : ByteArray).size = s.size := by rw [← hlen, ← backL_len l]; simp [ByteArray.size]
  have hq := back_sum hw2
  have HSm2 := Lib.hid (fun W' => sum_r ⟨(backL l).toArray⟩ (backL l) (-px l s.size) (-py l s.size) W' (by simp) (by omega) (by rw [hbs, ← hlen]; exact hq.1) (by rw [hbs, ← hlen]; exact hq.2))
  have hcat : backL (l.drop d) ++ backL (l.take d) = backL l := by rw [← backL_append, List.take_append_drop]
  have HCat : Hid ((⟨(backL (l.drop d)).toArray⟩ ++ ⟨(backL (l.take d)).toArray⟩ : ByteArray) = ⟨(backL l).toArray⟩) := by
    simp only [Hid]; rw [← hcat]
    apply ByteArray.ext
    simp
  have b1 := px_bd l s.size
  have b2 := py_bd l s.size
  obtain ⟨b1, b1'⟩ := b1
  obtain ⟨b2, b2'⟩ := b2
  have HSz := Lib.hid hbs
  have HAw := Lib.hid (fun W' h => awake_any W' h)
  have HS := Lib.hid hS
  have HD := Lib.hid hd2
  have hdI : (d : Int) ≤ s.size := by omega
  have hs0 : (0 : Int) ≤ s.size := by omega
  clear h hS hw1 hw2 hl HT0 HWd0 HB2a hx1 hx2 hlen hbs hq hcat hd2 hd1
  obtain ⟨sb, hsb⟩ : ∃ sb : ByteArray, sb = ⟨(backL l).toArray⟩ := ⟨_, rfl⟩
  obtain ⟨sx1, hsx1⟩ : ∃ sb : ByteArray, sb = ⟨(backL (l.take d)).toArray⟩ := ⟨_, rfl⟩
  obtain ⟨sy1, hsy1⟩ : ∃ sb : ByteArray, sb = ⟨(backL (l.drop d)).toArray⟩ := ⟨_, rfl⟩
  rw [← hsb] at HB1 HB2 HSm2 HCat HSz
  rw [← hsx1] at HB3 HCat
  rw [← hsy1] at HB4 HCat
  clear hsb hsx1 hsy1
  generalize px l s.size = PX at *
  generalize py l s.size = PY at *
  go_enter Tryd.func4, Tryd.ntmps4
  go_wp2_with fail
  refine HT.out.mono ?_
  rintro e w1 ⟨rfl, rfl⟩
  go_wp2_with fail
  refine (HB1.out _).mono ?_
  rintro e w2 ⟨rfl, hb⟩
  have HBa := Lib.hid hb
  clear hb
  go_wp2_with fail
  refine (HWd.out _).mono ?_
  rintro e w3 ⟨rfl, rfl⟩
  go_wp2_with fail
  refine (HB2.out _).mono ?_
  rintro e w4 ⟨rfl, hb⟩
  have HBb := Lib.hid (band HBa.out hb)
  clear hb
  have e1 := HD.out
  go_wp2_with fail
  refine (HB3.out _).mono ?_
  rintro e w5 ⟨rfl, hb⟩
  have HBc := Lib.hid (band HBb.out hb)
  clear hb
  go_wp2_with fail
  refine (HB4.out _).mono ?_
  rintro e w6 ⟨rfl, hb⟩
  have HBd := Lib.hid (band HBc.out hb)
  clear hb
  go_wp2_with fail
  refine (HSm1.out _).mono ?_
  rintro e w7 ⟨rfl, hb⟩
  have HBe := Lib.hid (band HBd.out hb)
  clear hb
  go_wp2_with fail
  refine (HSm2.out _).mono ?_
  rintro e w8 ⟨rfl, hb⟩
  have HBf := Lib.hid (band HBe.out hb)
  clear hb
  have g1 : ((sb.size : Int) == (s.size : Int)) = true := by rw [HSz.out]; simp
  have g2 : ((PX + -PX) == 0) = true := by rw [Int.add_right_neg]; rfl
  have g3 : ((PY + -PY) == 0) = true := by rw [Int.add_right_neg]; rfl
  have g4 : ¬ 9223372036854775807 < sy1.size + sx1.size := by
    have := congrArg ByteArray.size HCat.out
    rw [ByteArray.size_append, HSz.out] at this
    omega
  have g5 : (sy1 ++ sx1).toList = sb.toList := by rw [HCat.out]
  clear e1
  go_wp2_with fail
  refine (HAw.out _ ?_).mono ?_
  · exact HS.out.keep (HBf.out.trans ((two_le w8 _ _).mono HBf.out.size))
  rintro e w9 ⟨rfl, hb⟩
  have HBg := Lib.hid (band (HBf.out.trans ((two_le w8 _ _).mono HBf.out.size)) hb)
  clear hb g1 g2 g3 g4 g5
  go_wp2
  go_ret
  exact ⟨rfl, HBg.out⟩

theorem backs_core (W : World) (s : ByteArray) (hs : s.size ≤ 9223372036854775807) (k : Int) (_hk : -9223372036854775808 ≤ k ∧ k ≤ 9223372036854775807) (hS : StepsAt W) :
    Calls Tryd.prog 4 #[.string s, .int .i64 k] W fun e W' => SomeIs true W e W' := by
  cases h : wordB s.data.toList
  · exact backs_bad W s k hs h hS
  · exact backs_good W s k h hS
end Go.Proofs.YtfommfgokpiieadDoor
