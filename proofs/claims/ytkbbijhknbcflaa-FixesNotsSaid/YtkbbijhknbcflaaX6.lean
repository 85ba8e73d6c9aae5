import Derived.Test.YtkbbijhknbcflaaX5
import Derived.Test.YtkbbijhknbcflaaX4
import Derived.Laws.Concat
/-
  The document's Not.
-/
namespace Go.Proofs.Ytkbbijhknbcflaa
open Go.RowKit Go.Shelf

theorem dropx_at {l : List UInt8} {i : Nat} {x : UInt8} {t : List UInt8} (h : l.drop i = x :: t) : l[i]? = some x ∧ l.drop (i + 1) = t ∧ i < l.length := by
  have h1 : l[i]? = some x := by
    have := congrArg (fun q => q[0]?) h
    simpa using this
  have h2 : l.drop (i + 1) = t := by
    have := congrArg List.tail h
    simpa using this
  exact ⟨h1, h2, (List.getElem?_eq_some_iff.1 h1).1⟩
theorem stx_at {l : List UInt8} {i : Nat} {x : UInt8} (h : l[i]? = some x) (hi : i < (st l).size) : (st l)[i] = x := by
  have := (List.getElem?_eq_some_iff.1 h).2
  exact this
theorem stx_cut {l : List UInt8} {i : Nat} {x : UInt8} (h : l[i]? = some x) : (st l).extract i (i + 1) = st [x] := by
  rw [st_of ((st l).extract i (i + 1)), extract_data, st_data]
  congr 1
  rw [show i + 1 - i = 1 by omega, List.take_one, List.head?_drop, h]; rfl

set_option maxHeartbeats 4000000 in
set_option maxRecDepth 100000 in
theorem rnot_l (l R : List UInt8) (v : ByteArray) (er : Int) (w : World) (hl : l.length ≤ 40) (hg : Gd l) (h1 : xch l = (false, R)) (hv : (R.length ≤ 40 ∧ v = st R ∧ er = 0) ∨ (40 < R.length ∧ v = st [] ∧ er = 3)) :
    Calls Try.prog 19 #[.string (st l)] w fun e w' => TextOut v er w e w' := by
  have hs : (st l).size = l.length := st_size l
  have hs40 : (st l).size ≤ 40 := by omega
  have HAt := Lib.hid (fun i x t (h : l.drop i = x :: t) => dropx_at h)
  have HGet := Lib.hid (fun i x (h : l[i]? = some x) (hi : i < (st l).size) => stx_at h hi)
  have HCut := Lib.hid (fun i x (h : l[i]? = some x) => stx_cut h)
  have HEnd : Hid (∀ i, (st l).size ≤ i → l.drop i = []) := fun i hi => List.drop_eq_nil_of_le (by omega)
  have HLt : Hid (∀ i, i < (st l).size → l.drop i ≠ []) := fun i hi => by
    intro h
    have := congrArg List.length h
    rw [List.length_drop] at this
    simp at this; omega
  have HSz : Hid ((st l).size = l.length) := hs
  generalize hS : st l = S at *
  have HS := Lib.hid hS
  clear hS hs hl
  have hfold : (false, R) = (l.drop 0).foldl xst (false, []) := h1.symm
  have HG := Lib.hid (show Gd (l.drop 0) from hg)
  have HF := Lib.hid hfold
  have HV := Lib.hid hv
  clear hg hfold h1 hv
  go_enter Try.func19, Try.ntmps19
  go_wp2
  go_loopw [4, 5] (fun s4 s5 wr => ∃ (i : Nat) (o : List UInt8), s5 = .int .i64 i ∧ i ≤ S.size ∧ s4 = .string (st o) ∧ Gd (l.drop i) ∧ (false, R) = (l.drop i).foldl xst (false, o) ∧ o.length ≤ 2 * i ∧ wr = w) (fun _ s5 _ => S.size - (intOf s5).toNat)
  case atStart => exact ⟨0, [], rfl, Nat.zero_le _, rfl, HG.out, HF.out, Nat.le_refl _, rfl⟩
  case round =>
    obtain ⟨i, o, rfl, hi, rfl, hgd, hfo, ho, hw⟩ := hrel
    obtain rfl : w = wr := hw.symm
    clear HG HF
    by_cases hlt : i < S.size
    · have hos : (st o).size ≤ 80 := by rw [st_size]; omega
      have HA := Lib.hid (fun (q : List UInt8) => st_append o q)
      have HOl := Lib.hid ho
      clear ho
      generalize hd : l.drop i = d at hgd hfo
      cases hgd with
      | nil => exact absurd hd (HLt.out i hlt)
      | un k t hk hg' =>
        obtain ⟨a1, d1, b1⟩ := HAt.out _ _ _ hd
        obtain ⟨a2, d2, b2⟩ := HAt.out _ _ _ d1
        have hsz := HSz.out
        have hc := HGet.out _ _ a1 hlt
        have hcut := HCut.out _ _ a2
        have hi1 : i + 1 < S.size := by omega
        have hi2 : ((i : Int) + 1 + 1) ≤ (S.size : Int) := by omega
        have HF2 : Hid ((false, R) = (l.drop (i + 1 + 1)).foldl xst (false, o ++ [dig k])) := by rw [Hid, d2, ← fold_un hk]; exact hfo
        have HG2 : Hid (Gd (l.drop (i + 1 + 1))) := by rw [Hid, d2]; exact hg'
        have hO1 := HA.out [dig k]
        have hz1 : (st [dig k]).size = 1 := rfl
        have HO1 := Lib.hid hO1
        clear hfo hg' a1 d1 b1 a2 d2 b2 hsz hd hO1 hk
        generalize st [dig k] = E at *
        generalize st o = O at *
        go_wp2
        go_roundw
        case rel => exact ⟨i + 1 + 1, o ++ [dig k], by go_num, by omega, by rw [← HO1.out], HG2.out, HF2.out, by have := HOl.out; rw [List.length_append, List.length_singleton]; omega, by simp⟩
        case measure => simp [intOf]; omega
      | dg kd t hk hg' =>
        obtain ⟨a1, d1, b1⟩ := HAt.out _ _ _ hd
        have hsz := HSz.out
        have hc := HGet.out _ _ a1 hlt
        have hcut := HCut.out _ _ a1
        have hi2 : ((i : Int) + 1) ≤ (S.size : Int) := by omega
        have HF2 : Hid ((false, R) = (l.drop (i + 1)).foldl xst (false, (o ++ [45]) ++ [dig kd])) := by rw [Hid, d1, ← fold_dg hk]; exact hfo
        have HG2 : Hid (Gd (l.drop (i + 1))) := by rw [Hid, d1]; exact hg'
        have HD := Lib.hid (fun W => rdigit_any (dig kd) W)
        rw [dgV_dig hk] at HD
        have HM8 := Lib.hid (mt_dig hk)
        have h45 : (((dig kd).toNat : Int) == 45) = false := by rcases cases4 hk with rfl | rfl | rfl | rfl <;> decide
        have hO1 := HA.out [45]
        have HO1 : Hid (st o ++ (⟨#[45]⟩ : ByteArray) = st (o ++ [45])) := hO1
        generalize hx : dig kd = x at *
        clear hfo hg' a1 d1 b1 hsz hd hO1 hx hk
        go_wp2_with fail
        refine (HD.out _).mono ?_
        rintro e wq ⟨rfl, hw⟩
        obtain rfl : w = wq := hw.symm
        go_wp2
        rw [HO1.out]
        go_loopw [4, 35] (fun s4 s35 wr => ∃ k : Nat, k ≤ 8 ∧ s35 = .int .i64 k ∧ s4 = .string (st ((o ++ [45]) ++ mt x k)) ∧ wr = w) (fun _ s35 _ => 8 - (intOf s35).toNat)
        case atStart => exact ⟨0, by decide, rfl, by simp [mt], rfl⟩
        case round =>
          obtain ⟨k, hk, rfl, rfl, hw⟩ := hrel
          obtain rfl : w = wr := hw.symm
          clear hw
          have hml := mt_len x k
          have hos9 : (st ((o ++ [45]) ++ mt x k)).size ≤ 100 := by have := HOl.out; rw [st_size]; simp; omega
          have HA9 := Lib.hid (fun (q : List UInt8) => st_append ((o ++ [45]) ++ mt x k) q)
          have HY := Lib.hid (fun (h : ops.getD k 0 = x) => mt_yes h)
          have HN := Lib.hid (fun (h : ¬ ops.getD k 0 = x) => mt_no h)
          clear hml
          generalize hP : (o ++ [45]) ++ mt x k = P at *
          have HP := Lib.hid hP
          clear hP
          by_cases hk8 : k < 8
          · have hkk : k = 0 ∨ k = 1 ∨ k = 2 ∨ k = 3 ∨ k = 4 ∨ k = 5 ∨ k = 6 ∨ k = 7 := by omega
            clear hk hk8
            rcases hkk with rfl | rfl | rfl | rfl | rfl | rfl | rfl | rfl
            · by_cases hx : x = 116
              · have K : ((x.toNat : Int) == (((⟨#[116, 102, 38, 124, 60, 91, 109, 103]⟩ : ByteArray)[0]).toNat : Int)) = true := by rw [hx]; rfl
                have hX : (⟨#[102, 116, 124, 38, 91, 60, 103, 109]⟩ : ByteArray).extract 0 1 = ⟨#[102]⟩ := by rfl
                have hO9 := HA9.out [102]
                have HM : Hid (st P ++ (⟨#[102]⟩ : ByteArray) = st ((o ++ [45]) ++ mt x (0 + 1))) := by rw [Hid, HY.out hx.symm, ← List.append_assoc, HP.out]; exact hO9
                clear hO9 hx
                generalize st P = O9 at *
                go_wp2
                go_roundw
                case rel => exact ⟨0 + 1, by decide, by go_num, by rw [← HM.out], by simp⟩
                case measure => simp [intOf]
              · have K : ((x.toNat : Int) == (((⟨#[116, 102, 38, 124, 60, 91, 109, 103]⟩ : ByteArray)[0]).toNat : Int)) = false := by
                  have : x.toNat ≠ 116 := fun h => hx (UInt8.toNat_inj.1 h)
                  show ((x.toNat : Int) == (116 : Int)) = false
                  simp; omega
                have HM : Hid (P = (o ++ [45]) ++ mt x (0 + 1)) := by rw [Hid, HN.out (fun h => hx h.symm), HP.out]
                clear hx
                go_wp2
                go_roundw
                case rel => exact ⟨0 + 1, by decide, by go_num, by rw [← HM.out], by simp⟩
                case measure => simp [intOf]
            · by_cases hx : x = 102
              · have K : ((x.toNat : Int) == (((⟨#[116, 102, 38, 124, 60, 91, 109, 103]⟩ : ByteArray)[1]).toNat : Int)) = true := by rw [hx]; rfl
                have hX : (⟨#[102, 116, 124, 38, 91, 60, 103, 109]⟩ : ByteArray).extract 1 2 = ⟨#[116]⟩ := by rfl
                have hO9 := HA9.out [116]
                have HM : Hid (st P ++ (⟨#[116]⟩ : ByteArray) = st ((o ++ [45]) ++ mt x (1 + 1))) := by rw [Hid, HY.out hx.symm, ← List.append_assoc, HP.out]; exact hO9
                clear hO9 hx
                generalize st P = O9 at *
                go_wp2
                go_roundw
                case rel => exact ⟨1 + 1, by decide, by go_num, by rw [← HM.out], by simp⟩
                case measure => simp [intOf]
              · have K : ((x.toNat : Int) == (((⟨#[116, 102, 38, 124, 60, 91, 109, 103]⟩ : ByteArray)[1]).toNat : Int)) = false := by
                  have : x.toNat ≠ 102 := fun h => hx (UInt8.toNat_inj.1 h)
                  show ((x.toNat : Int) == (102 : Int)) = false
                  simp; omega
                have HM : Hid (P = (o ++ [45]) ++ mt x (1 + 1)) := by rw [Hid, HN.out (fun h => hx h.symm), HP.out]
                clear hx
                go_wp2
                go_roundw
                case rel => exact ⟨1 + 1, by decide, by go_num, by rw [← HM.out], by simp⟩
                case measure => simp [intOf]
            · by_cases hx : x = 38
              · have K : ((x.toNat : Int) == (((⟨#[116, 102, 38, 124, 60, 91, 109, 103]⟩ : ByteArray)[2]).toNat : Int)) = true := by rw [hx]; rfl
                have hX : (⟨#[102, 116, 124, 38, 91, 60, 103, 109]⟩ : ByteArray).extract 2 3 = ⟨#[124]⟩ := by rfl
                have hO9 := HA9.out [124]
                have HM : Hid (st P ++ (⟨#[124]⟩ : ByteArray) = st ((o ++ [45]) ++ mt x (2 + 1))) := by rw [Hid, HY.out hx.symm, ← List.append_assoc, HP.out]; exact hO9
                clear hO9 hx
                generalize st P = O9 at *
                go_wp2
                go_roundw
                case rel => exact ⟨2 + 1, by decide, by go_num, by rw [← HM.out], by simp⟩
                case measure => simp [intOf]
              · have K : ((x.toNat : Int) == (((⟨#[116, 102, 38, 124, 60, 91, 109, 103]⟩ : ByteArray)[2]).toNat : Int)) = false := by
                  have : x.toNat ≠ 38 := fun h => hx (UInt8.toNat_inj.1 h)
                  show ((x.toNat : Int) == (38 : Int)) = false
                  simp; omega
                have HM : Hid (P = (o ++ [45]) ++ mt x (2 + 1)) := by rw [Hid, HN.out (fun h => hx h.symm), HP.out]
                clear hx
                go_wp2
                go_roundw
                case rel => exact ⟨2 + 1, by decide, by go_num, by rw [← HM.out], by simp⟩
                case measure => simp [intOf]
            · by_cases hx : x = 124
              · have K : ((x.toNat : Int) == (((⟨#[116, 102, 38, 124, 60, 91, 109, 103]⟩ : ByteArray)[3]).toNat : Int)) = true := by rw [hx]; rfl
                have hX : (⟨#[102, 116, 124, 38, 91, 60, 103, 109]⟩ : ByteArray).extract 3 4 = ⟨#[38]⟩ := by rfl
                have hO9 := HA9.out [38]
                have HM : Hid (st P ++ (⟨#[38]⟩ : ByteArray) = st ((o ++ [45]) ++ mt x (3 + 1))) := by rw [Hid, HY.out hx.symm, ← List.append_assoc, HP.out]; exact hO9
                clear hO9 hx
                generalize st P = O9 at *
                go_wp2
                go_roundw
                case rel => exact ⟨3 + 1, by decide, by go_num, by rw [← HM.out], by simp⟩
                case measure => simp [intOf]
              · have K : ((x.toNat : Int) == (((⟨#[116, 102, 38, 124, 60, 91, 109, 103]⟩ : ByteArray)[3]).toNat : Int)) = false := by
                  have : x.toNat ≠ 124 := fun h => hx (UInt8.toNat_inj.1 h)
                  show ((x.toNat : Int) == (124 : Int)) = false
                  simp; omega
                have HM : Hid (P = (o ++ [45]) ++ mt x (3 + 1)) := by rw [Hid, HN.out (fun h => hx h.symm), HP.out]
                clear hx
                go_wp2
                go_roundw
                case rel => exact ⟨3 + 1, by decide, by go_num, by rw [← HM.out], by simp⟩
                case measure => simp [intOf]
            · by_cases hx : x = 60
              · have K : ((x.toNat : Int) == (((⟨#[116, 102, 38, 124, 60, 91, 109, 103]⟩ : ByteArray)[4]).toNat : Int)) = true := by rw [hx]; rfl
                have hX : (⟨#[102, 116, 124, 38, 91, 60, 103, 109]⟩ : ByteArray).extract 4 5 = ⟨#[91]⟩ := by rfl
                have hO9 := HA9.out [91]
                have HM : Hid (st P ++ (⟨#[91]⟩ : ByteArray) = st ((o ++ [45]) ++ mt x (4 + 1))) := by rw [Hid, HY.out hx.symm, ← List.append_assoc, HP.out]; exact hO9
                clear hO9 hx
                generalize st P = O9 at *
                go_wp2
                go_roundw
                case rel => exact ⟨4 + 1, by decide, by go_num, by rw [← HM.out], by simp⟩
                case measure => simp [intOf]
              · have K : ((x.toNat : Int) == (((⟨#[116, 102, 38, 124, 60, 91, 109, 103]⟩ : ByteArray)[4]).toNat : Int)) = false := by
                  have : x.toNat ≠ 60 := fun h => hx (UInt8.toNat_inj.1 h)
                  show ((x.toNat : Int) == (60 : Int)) = false
                  simp; omega
                have HM : Hid (P = (o ++ [45]) ++ mt x (4 + 1)) := by rw [Hid, HN.out (fun h => hx h.symm), HP.out]
                clear hx
                go_wp2
                go_roundw
                case rel => exact ⟨4 + 1, by decide, by go_num, by rw [← HM.out], by simp⟩
                case measure => simp [intOf]
            · by_cases hx : x = 91
              · have K : ((x.toNat : Int) == (((⟨#[116, 102, 38, 124, 60, 91, 109, 103]⟩ : ByteArray)[5]).toNat : Int)) = true := by rw [hx]; rfl
                have hX : (⟨#[102, 116, 124, 38, 91, 60, 103, 109]⟩ : ByteArray).extract 5 6 = ⟨#[60]⟩ := by rfl
                have hO9 := HA9.out [60]
                have HM : Hid (st P ++ (⟨#[60]⟩ : ByteArray) = st ((o ++ [45]) ++ mt x (5 + 1))) := by rw [Hid, HY.out hx.symm, ← List.append_assoc, HP.out]; exact hO9
                clear hO9 hx
                generalize st P = O9 at *
                go_wp2
                go_roundw
                case rel => exact ⟨5 + 1, by decide, by go_num, by rw [← HM.out], by simp⟩
                case measure => simp [intOf]
              · have K : ((x.toNat : Int) == (((⟨#[116, 102, 38, 124, 60, 91, 109, 103]⟩ : ByteArray)[5]).toNat : Int)) = false := by
                  have : x.toNat ≠ 91 := fun h => hx (UInt8.toNat_inj.1 h)
                  show ((x.toNat : Int) == (91 : Int)) = false
                  simp; omega
                have HM : Hid (P = (o ++ [45]) ++ mt x (5 + 1)) := by rw [Hid, HN.out (fun h => hx h.symm), HP.out]
                clear hx
                go_wp2
                go_roundw
                case rel => exact ⟨5 + 1, by decide, by go_num, by rw [← HM.out], by simp⟩
                case measure => simp [intOf]
            · by_cases hx : x = 109
              · have K : ((x.toNat : Int) == (((⟨#[116, 102, 38, 124, 60, 91, 109, 103]⟩ : ByteArray)[6]).toNat : Int)) = true := by rw [hx]; rfl
                have hX : (⟨#[102, 116, 124, 38, 91, 60, 103, 109]⟩ : ByteArray).extract 6 7 = ⟨#[103]⟩ := by rfl
                have hO9 := HA9.out [103]
                have HM : Hid (st P ++ (⟨#[103]⟩ : ByteArray) = st ((o ++ [45]) ++ mt x (6 + 1))) := by rw [Hid, HY.out hx.symm, ← List.append_assoc, HP.out]; exact hO9
                clear hO9 hx
                generalize st P = O9 at *
                go_wp2
                go_roundw
                case rel => exact ⟨6 + 1, by decide, by go_num, by rw [← HM.out], by simp⟩
                case measure => simp [intOf]
              · have K : ((x.toNat : Int) == (((⟨#[116, 102, 38, 124, 60, 91, 109, 103]⟩ : ByteArray)[6]).toNat : Int)) = false := by
                  have : x.toNat ≠ 109 := fun h => hx (UInt8.toNat_inj.1 h)
                  show ((x.toNat : Int) == (109 : Int)) = false
                  simp; omega
                have HM : Hid (P = (o ++ [45]) ++ mt x (6 + 1)) := by rw [Hid, HN.out (fun h => hx h.symm), HP.out]
                clear hx
                go_wp2
                go_roundw
                case rel => exact ⟨6 + 1, by decide, by go_num, by rw [← HM.out], by simp⟩
                case measure => simp [intOf]
            · by_cases hx : x = 103
              · have K : ((x.toNat : Int) == (((⟨#[116, 102, 38, 124, 60, 91, 109, 103]⟩ : ByteArray)[7]).toNat : Int)) = true := by rw [hx]; rfl
                have hX : (⟨#[102, 116, 124, 38, 91, 60, 103, 109]⟩ : ByteArray).extract 7 8 = ⟨#[109]⟩ := by rfl
                have hO9 := HA9.out [109]
                have HM : Hid (st P ++ (⟨#[109]⟩ : ByteArray) = st ((o ++ [45]) ++ mt x (7 + 1))) := by rw [Hid, HY.out hx.symm, ← List.append_assoc, HP.out]; exact hO9
                clear hO9 hx
                generalize st P = O9 at *
                go_wp2
                go_roundw
                case rel => exact ⟨7 + 1, by decide, by go_num, by rw [← HM.out], by simp⟩
                case measure => simp [intOf]
              · have K : ((x.toNat : Int) == (((⟨#[116, 102, 38, 124, 60, 91, 109, 103]⟩ : ByteArray)[7]).toNat : Int)) = false := by
                  have : x.toNat ≠ 103 := fun h => hx (UInt8.toNat_inj.1 h)
                  show ((x.toNat : Int) == (103 : Int)) = false
                  simp; omega
                have HM : Hid (P = (o ++ [45]) ++ mt x (7 + 1)) := by rw [Hid, HN.out (fun h => hx h.symm), HP.out]
                clear hx
                go_wp2
                go_roundw
                case rel => exact ⟨7 + 1, by decide, by go_num, by rw [← HM.out], by simp⟩
                case measure => simp [intOf]
          · have hk' : k = 8 := by omega
            subst hk'
            clear hk hk8 HY HN
            have hPe : P = o ++ [45] := by rw [← HP.out, HM8.out, List.append_nil]
            have hO3 := HA9.out [x]
            rw [hPe] at hO3
            subst hPe
            have hz1 : (st [x]).size = 1 := rfl
            have HO3 := Lib.hid hO3
            clear hO3
            generalize st [x] = E at *
            generalize st (o ++ [45]) = O3 at *
            go_wp2_with fail
            refine (HD.out _).mono ?_
            rintro e wq ⟨rfl, hw⟩
            obtain rfl : w = wq := hw.symm
            go_wp2
            go_roundw
            case rel => exact ⟨i + 1, (o ++ [45]) ++ [x], by go_num, by omega, by rw [← HO3.out], HG2.out, HF2.out, by have := HOl.out; simp; omega, by simp⟩
            case measure => simp [intOf]; omega
      | le kd t hk hg' =>
        obtain ⟨a1, d1, b1⟩ := HAt.out _ _ _ hd
        have hsz := HSz.out
        have hc := HGet.out _ _ a1 hlt
        have hcut := HCut.out _ _ a1
        have hi2 : ((i : Int) + 1) ≤ (S.size : Int) := by omega
        have HF2 : Hid ((false, R) = (l.drop (i + 1)).foldl xst (false, o ++ [lett kd])) := by rw [Hid, d1, ← fold_le hk]; exact hfo
        have HG2 : Hid (Gd (l.drop (i + 1))) := by rw [Hid, d1]; exact hg'
        have HD := Lib.hid (fun W => rdigit_any (lett kd) W)
        rw [dgV_lett hk] at HD
        have HL := Lib.hid (fun W => rletter_any (lett kd) W)
        rw [ltV_lett hk] at HL
        have HM8 := Lib.hid (mt_lett hk)
        have h45 : (((lett kd).toNat : Int) == 45) = false := by rcases cases3 hk with rfl | rfl | rfl <;> decide
        generalize hx : lett kd = x at *
        clear hfo hg' a1 d1 b1 hsz hd hx hk
        go_wp2_with fail
        refine (HD.out _).mono ?_
        rintro e wq ⟨rfl, hw⟩
        obtain rfl : w = wq := hw.symm
        go_wp2
        go_loopw [4, 35] (fun s4 s35 wr => ∃ k : Nat, k ≤ 8 ∧ s35 = .int .i64 k ∧ s4 = .string (st (o ++ mt x k)) ∧ wr = w) (fun _ s35 _ => 8 - (intOf s35).toNat)
        case atStart => exact ⟨0, by decide, rfl, by simp [mt], rfl⟩
        case round =>
          obtain ⟨k, hk, rfl, rfl, hw⟩ := hrel
          obtain rfl : w = wr := hw.symm
          clear hw
          have hml := mt_len x k
          have hos9 : (st (o ++ mt x k)).size ≤ 100 := by have := HOl.out; rw [st_size]; simp; omega
          have HA9 := Lib.hid (fun (q : List UInt8) => st_append (o ++ mt x k) q)
          have HY := Lib.hid (fun (h : ops.getD k 0 = x) => mt_yes h)
          have HN := Lib.hid (fun (h : ¬ ops.getD k 0 = x) => mt_no h)
          clear hml
          generalize hP : o ++ mt x k = P at *
          have HP := Lib.hid hP
          clear hP
          by_cases hk8 : k < 8
          · have hkk : k = 0 ∨ k = 1 ∨ k = 2 ∨ k = 3 ∨ k = 4 ∨ k = 5 ∨ k = 6 ∨ k = 7 := by omega
            clear hk hk8
            rcases hkk with rfl | rfl | rfl | rfl | rfl | rfl | rfl | rfl
            · by_cases hx : x = 116
              · have K : ((x.toNat : Int) == (((⟨#[116, 102, 38, 124, 60, 91, 109, 103]⟩ : ByteArray)[0]).toNat : Int)) = true := by rw [hx]; rfl
                have hX : (⟨#[102, 116, 124, 38, 91, 60, 103, 109]⟩ : ByteArray).extract 0 1 = ⟨#[102]⟩ := by rfl
                have hO9 := HA9.out [102]
                have HM : Hid (st P ++ (⟨#[102]⟩ : ByteArray) = st (o ++ mt x (0 + 1))) := by rw [Hid, HY.out hx.symm, ← List.append_assoc, HP.out]; exact hO9
                clear hO9 hx
                generalize st P = O9 at *
                go_wp2
                go_roundw
                case rel => exact ⟨0 + 1, by decide, by go_num, by rw [← HM.out], by simp⟩
                case measure => simp [intOf]
              · have K : ((x.toNat : Int) == (((⟨#[116, 102, 38, 124, 60, 91, 109, 103]⟩ : ByteArray)[0]).toNat : Int)) = false := by
                  have : x.toNat ≠ 116 := fun h => hx (UInt8.toNat_inj.1 h)
                  show ((x.toNat : Int) == (116 : Int)) = false
                  simp; omega
                have HM : Hid (P = o ++ mt x (0 + 1)) := by rw [Hid, HN.out (fun h => hx h.symm), HP.out]
                clear hx
                go_wp2
                go_roundw
                case rel => exact ⟨0 + 1, by decide, by go_num, by rw [← HM.out], by simp⟩
                case measure => simp [intOf]
            · by_cases hx : x = 102
              · have K : ((x.toNat : Int) == (((⟨#[116, 102, 38, 124, 60, 91, 109, 103]⟩ : ByteArray)[1]).toNat : Int)) = true := by rw [hx]; rfl
                have hX : (⟨#[102, 116, 124, 38, 91, 60, 103, 109]⟩ : ByteArray).extract 1 2 = ⟨#[116]⟩ := by rfl
                have hO9 := HA9.out [116]
                have HM : Hid (st P ++ (⟨#[116]⟩ : ByteArray) = st (o ++ mt x (1 + 1))) := by rw [Hid, HY.out hx.symm, ← List.append_assoc, HP.out]; exact hO9
                clear hO9 hx
                generalize st P = O9 at *
                go_wp2
                go_roundw
                case rel => exact ⟨1 + 1, by decide, by go_num, by rw [← HM.out], by simp⟩
                case measure => simp [intOf]
              · have K : ((x.toNat : Int) == (((⟨#[116, 102, 38, 124, 60, 91, 109, 103]⟩ : ByteArray)[1]).toNat : Int)) = false := by
                  have : x.toNat ≠ 102 := fun h => hx (UInt8.toNat_inj.1 h)
                  show ((x.toNat : Int) == (102 : Int)) = false
                  simp; omega
                have HM : Hid (P = o ++ mt x (1 + 1)) := by rw [Hid, HN.out (fun h => hx h.symm), HP.out]
                clear hx
                go_wp2
                go_roundw
                case rel => exact ⟨1 + 1, by decide, by go_num, by rw [← HM.out], by simp⟩
                case measure => simp [intOf]
            · by_cases hx : x = 38
              · have K : ((x.toNat : Int) == (((⟨#[116, 102, 38, 124, 60, 91, 109, 103]⟩ : ByteArray)[2]).toNat : Int)) = true := by rw [hx]; rfl
                have hX : (⟨#[102, 116, 124, 38, 91, 60, 103, 109]⟩ : ByteArray).extract 2 3 = ⟨#[124]⟩ := by rfl
                have hO9 := HA9.out [124]
                have HM : Hid (st P ++ (⟨#[124]⟩ : ByteArray) = st (o ++ mt x (2 + 1))) := by rw [Hid, HY.out hx.symm, ← List.append_assoc, HP.out]; exact hO9
                clear hO9 hx
                generalize st P = O9 at *
                go_wp2
                go_roundw
                case rel => exact ⟨2 + 1, by decide, by go_num, by rw [← HM.out], by simp⟩
                case measure => simp [intOf]
              · have K : ((x.toNat : Int) == (((⟨#[116, 102, 38, 124, 60, 91, 109, 103]⟩ : ByteArray)[2]).toNat : Int)) = false := by
                  have : x.toNat ≠ 38 := fun h => hx (UInt8.toNat_inj.1 h)
                  show ((x.toNat : Int) == (38 : Int)) = false
                  simp; omega
                have HM : Hid (P = o ++ mt x (2 + 1)) := by rw [Hid, HN.out (fun h => hx h.symm), HP.out]
                clear hx
                go_wp2
                go_roundw
                case rel => exact ⟨2 + 1, by decide, by go_num, by rw [← HM.out], by simp⟩
                case measure => simp [intOf]
            · by_cases hx : x = 124
              · have K : ((x.toNat : Int) == (((⟨#[116, 102, 38, 124, 60, 91, 109, 103]⟩ : ByteArray)[3]).toNat : Int)) = true := by rw [hx]; rfl
                have hX : (⟨#[102, 116, 124, 38, 91, 60, 103, 109]⟩ : ByteArray).extract 3 4 = ⟨#[38]⟩ := by rfl
                have hO9 := HA9.out [38]
                have HM : Hid (st P ++ (⟨#[38]⟩ : ByteArray) = st (o ++ mt x (3 + 1))) := by rw [Hid, HY.out hx.symm, ← List.append_assoc, HP.out]; exact hO9
                clear hO9 hx
                generalize st P = O9 at *
                go_wp2
                go_roundw
                case rel => exact ⟨3 + 1, by decide, by go_num, by rw [← HM.out], by simp⟩
                case measure => simp [intOf]
              · have K : ((x.toNat : Int) == (((⟨#[116, 102, 38, 124, 60, 91, 109, 103]⟩ : ByteArray)[3]).toNat : Int)) = false := by
                  have : x.toNat ≠ 124 := fun h => hx (UInt8.toNat_inj.1 h)
                  show ((x.toNat : Int) == (124 : Int)) = false
                  simp; omega
                have HM : Hid (P = o ++ mt x (3 + 1)) := by rw [Hid, HN.out (fun h => hx h.symm), HP.out]
                clear hx
                go_wp2
                go_roundw
                case rel => exact ⟨3 + 1, by decide, by go_num, by rw [← HM.out], by simp⟩
                case measure => simp [intOf]
            · by_cases hx : x = 60
              · have K : ((x.toNat : Int) == (((⟨#[116, 102, 38, 124, 60, 91, 109, 103]⟩ : ByteArray)[4]).toNat : Int)) = true := by rw [hx]; rfl
                have hX : (⟨#[102, 116, 124, 38, 91, 60, 103, 109]⟩ : ByteArray).extract 4 5 = ⟨#[91]⟩ := by rfl
                have hO9 := HA9.out [91]
                have HM : Hid (st P ++ (⟨#[91]⟩ : ByteArray) = st (o ++ mt x (4 + 1))) := by rw [Hid, HY.out hx.symm, ← List.append_assoc, HP.out]; exact hO9
                clear hO9 hx
                generalize st P = O9 at *
                go_wp2
                go_roundw
                case rel => exact ⟨4 + 1, by decide, by go_num, by rw [← HM.out], by simp⟩
                case measure => simp [intOf]
              · have K : ((x.toNat : Int) == (((⟨#[116, 102, 38, 124, 60, 91, 109, 103]⟩ : ByteArray)[4]).toNat : Int)) = false := by
                  have : x.toNat ≠ 60 := fun h => hx (UInt8.toNat_inj.1 h)
                  show ((x.toNat : Int) == (60 : Int)) = false
                  simp; omega
                have HM : Hid (P = o ++ mt x (4 + 1)) := by rw [Hid, HN.out (fun h => hx h.symm), HP.out]
                clear hx
                go_wp2
                go_roundw
                case rel => exact ⟨4 + 1, by decide, by go_num, by rw [← HM.out], by simp⟩
                case measure => simp [intOf]
            · by_cases hx : x = 91
              · have K : ((x.toNat : Int) == (((⟨#[116, 102, 38, 124, 60, 91, 109, 103]⟩ : ByteArray)[5]).toNat : Int)) = true := by rw [hx]; rfl
                have hX : (⟨#[102, 116, 124, 38, 91, 60, 103, 109]⟩ : ByteArray).extract 5 6 = ⟨#[60]⟩ := by rfl
                have hO9 := HA9.out [60]
                have HM : Hid (st P ++ (⟨#[60]⟩ : ByteArray) = st (o ++ mt x (5 + 1))) := by rw [Hid, HY.out hx.symm, ← List.append_assoc, HP.out]; exact hO9
                clear hO9 hx
                generalize st P = O9 at *
                go_wp2
                go_roundw
                case rel => exact ⟨5 + 1, by decide, by go_num, by rw [← HM.out], by simp⟩
                case measure => simp [intOf]
              · have K : ((x.toNat : Int) == (((⟨#[116, 102, 38, 124, 60, 91, 109, 103]⟩ : ByteArray)[5]).toNat : Int)) = false := by
                  have : x.toNat ≠ 91 := fun h => hx (UInt8.toNat_inj.1 h)
                  show ((x.toNat : Int) == (91 : Int)) = false
                  simp; omega
                have HM : Hid (P = o ++ mt x (5 + 1)) := by rw [Hid, HN.out (fun h => hx h.symm), HP.out]
                clear hx
                go_wp2
                go_roundw
                case rel => exact ⟨5 + 1, by decide, by go_num, by rw [← HM.out], by simp⟩
                case measure => simp [intOf]
            · by_cases hx : x = 109
              · have K : ((x.toNat : Int) == (((⟨#[116, 102, 38, 124, 60, 91, 109, 103]⟩ : ByteArray)[6]).toNat : Int)) = true := by rw [hx]; rfl
                have hX : (⟨#[102, 116, 124, 38, 91, 60, 103, 109]⟩ : ByteArray).extract 6 7 = ⟨#[103]⟩ := by rfl
                have hO9 := HA9.out [103]
                have HM : Hid (st P ++ (⟨#[103]⟩ : ByteArray) = st (o ++ mt x (6 + 1))) := by rw [Hid, HY.out hx.symm, ← List.append_assoc, HP.out]; exact hO9
                clear hO9 hx
                generalize st P = O9 at *
                go_wp2
                go_roundw
                case rel => exact ⟨6 + 1, by decide, by go_num, by rw [← HM.out], by simp⟩
                case measure => simp [intOf]
              · have K : ((x.toNat : Int) == (((⟨#[116, 102, 38, 124, 60, 91, 109, 103]⟩ : ByteArray)[6]).toNat : Int)) = false := by
                  have : x.toNat ≠ 109 := fun h => hx (UInt8.toNat_inj.1 h)
                  show ((x.toNat : Int) == (109 : Int)) = false
                  simp; omega
                have HM : Hid (P = o ++ mt x (6 + 1)) := by rw [Hid, HN.out (fun h => hx h.symm), HP.out]
                clear hx
                go_wp2
                go_roundw
                case rel => exact ⟨6 + 1, by decide, by go_num, by rw [← HM.out], by simp⟩
                case measure => simp [intOf]
            · by_cases hx : x = 103
              · have K : ((x.toNat : Int) == (((⟨#[116, 102, 38, 124, 60, 91, 109, 103]⟩ : ByteArray)[7]).toNat : Int)) = true := by rw [hx]; rfl
                have hX : (⟨#[102, 116, 124, 38, 91, 60, 103, 109]⟩ : ByteArray).extract 7 8 = ⟨#[109]⟩ := by rfl
                have hO9 := HA9.out [109]
                have HM : Hid (st P ++ (⟨#[109]⟩ : ByteArray) = st (o ++ mt x (7 + 1))) := by rw [Hid, HY.out hx.symm, ← List.append_assoc, HP.out]; exact hO9
                clear hO9 hx
                generalize st P = O9 at *
                go_wp2
                go_roundw
                case rel => exact ⟨7 + 1, by decide, by go_num, by rw [← HM.out], by simp⟩
                case measure => simp [intOf]
              · have K : ((x.toNat : Int) == (((⟨#[116, 102, 38, 124, 60, 91, 109, 103]⟩ : ByteArray)[7]).toNat : Int)) = false := by
                  have : x.toNat ≠ 103 := fun h => hx (UInt8.toNat_inj.1 h)
                  show ((x.toNat : Int) == (103 : Int)) = false
                  simp; omega
                have HM : Hid (P = o ++ mt x (7 + 1)) := by rw [Hid, HN.out (fun h => hx h.symm), HP.out]
                clear hx
                go_wp2
                go_roundw
                case rel => exact ⟨7 + 1, by decide, by go_num, by rw [← HM.out], by simp⟩
                case measure => simp [intOf]
          · have hk' : k = 8 := by omega
            subst hk'
            clear hk hk8 HY HN
            have hPe : P = o := by rw [← HP.out, HM8.out, List.append_nil]
            have hO3 := HA9.out [x]
            rw [hPe] at hO3
            subst hPe
            have hz1 : (st [x]).size = 1 := rfl
            have HO3 := Lib.hid hO3
            clear hO3
            generalize st [x] = E at *
            generalize st P = O3 at *
            go_wp2_with fail
            refine (HD.out _).mono ?_
            rintro e wq ⟨rfl, hw⟩
            obtain rfl : w = wq := hw.symm
            go_wp2_with fail
            refine (HL.out _).mono ?_
            rintro e wq ⟨rfl, hw⟩
            obtain rfl : w = wq := hw.symm
            go_wp2
            go_roundw
            case rel => exact ⟨i + 1, P ++ [x], by go_num, by omega, by rw [← HO3.out], HG2.out, HF2.out, by have := HOl.out; simp; omega, by simp⟩
            case measure => simp [intOf]; omega
      | op x t hk hg' =>
        obtain ⟨a1, d1, b1⟩ := HAt.out _ _ _ hd
        have hsz := HSz.out
        have hc := HGet.out _ _ a1 hlt
        have hcut := HCut.out _ _ a1
        have hi2 : ((i : Int) + 1) ≤ (S.size : Int) := by omega
        have HF2 : Hid ((false, R) = (l.drop (i + 1)).foldl xst (false, o ++ [opp x])) := by rw [Hid, d1, ← fold_op hk]; exact hfo
        have HG2 : Hid (Gd (l.drop (i + 1))) := by rw [Hid, d1]; exact hg'
        have HD := Lib.hid (fun W => rdigit_any x W)
        rw [(dgV_op hk).1] at HD
        have HL := Lib.hid (fun W => rletter_any x W)
        rw [(dgV_op hk).2] at HL
        have HM8 := Lib.hid (mt_op hk)
        have h45 : ((x.toNat : Int) == 45) = false := by rcases ops_cases hk with rfl | rfl | rfl | rfl | rfl | rfl | rfl | rfl <;> decide
        clear hfo hg' a1 d1 b1 hsz hd hk
        go_wp2_with fail
        refine (HD.out _).mono ?_
        rintro e wq ⟨rfl, hw⟩
        obtain rfl : w = wq := hw.symm
        go_wp2
        go_loopw [4, 35] (fun s4 s35 wr => ∃ k : Nat, k ≤ 8 ∧ s35 = .int .i64 k ∧ s4 = .string (st (o ++ mt x k)) ∧ wr = w) (fun _ s35 _ => 8 - (intOf s35).toNat)
        case atStart => exact ⟨0, by decide, rfl, by simp [mt], rfl⟩
        case round =>
          obtain ⟨k, hk, rfl, rfl, hw⟩ := hrel
          obtain rfl : w = wr := hw.symm
          clear hw
          have hml := mt_len x k
          have hos9 : (st (o ++ mt x k)).size ≤ 100 := by have := HOl.out; rw [st_size]; simp; omega
          have HA9 := Lib.hid (fun (q : List UInt8) => st_append (o ++ mt x k) q)
          have HY := Lib.hid (fun (h : ops.getD k 0 = x) => mt_yes h)
          have HN := Lib.hid (fun (h : ¬ ops.getD k 0 = x) => mt_no h)
          clear hml
          generalize hP : o ++ mt x k = P at *
          have HP := Lib.hid hP
          clear hP
          by_cases hk8 : k < 8
          · have hkk : k = 0 ∨ k = 1 ∨ k = 2 ∨ k = 3 ∨ k = 4 ∨ k = 5 ∨ k = 6 ∨ k = 7 := by omega
            clear hk hk8
            rcases hkk with rfl | rfl | rfl | rfl | rfl | rfl | rfl | rfl
            · by_cases hx : x = 116
              · have K : ((x.toNat : Int) == (((⟨#[116, 102, 38, 124, 60, 91, 109, 103]⟩ : ByteArray)[0]).toNat : Int)) = true := by rw [hx]; rfl
                have hX : (⟨#[102, 116, 124, 38, 91, 60, 103, 109]⟩ : ByteArray).extract 0 1 = ⟨#[102]⟩ := by rfl
                have hO9 := HA9.out [102]
                have HM : Hid (st P ++ (⟨#[102]⟩ : ByteArray) = st (o ++ mt x (0 + 1))) := by rw [Hid, HY.out hx.symm, ← List.append_assoc, HP.out]; exact hO9
                clear hO9 hx
                generalize st P = O9 at *
                go_wp2
                go_roundw
                case rel => exact ⟨0 + 1, by decide, by go_num, by rw [← HM.out], by simp⟩
                case measure => simp [intOf]
              · have K : ((x.toNat : Int) == (((⟨#[116, 102, 38, 124, 60, 91, 109, 103]⟩ : ByteArray)[0]).toNat : Int)) = false := by
                  have : x.toNat ≠ 116 := fun h => hx (UInt8.toNat_inj.1 h)
                  show ((x.toNat : Int) == (116 : Int)) = false
                  simp; omega
                have HM : Hid (P = o ++ mt x (0 + 1)) := by rw [Hid, HN.out (fun h => hx h.symm), HP.out]
                clear hx
                go_wp2
                go_roundw
                case rel => exact ⟨0 + 1, by decide, by go_num, by rw [← HM.out], by simp⟩
                case measure => simp [intOf]
            · by_cases hx : x = 102
              · have K : ((x.toNat : Int) == (((⟨#[116, 102, 38, 124, 60, 91, 109, 103]⟩ : ByteArray)[1]).toNat : Int)) = true := by rw [hx]; rfl
                have hX : (⟨#[102, 116, 124, 38, 91, 60, 103, 109]⟩ : ByteArray).extract 1 2 = ⟨#[116]⟩ := by rfl
                have hO9 := HA9.out [116]
                have HM : Hid (st P ++ (⟨#[116]⟩ : ByteArray) = st (o ++ mt x (1 + 1))) := by rw [Hid, HY.out hx.symm, ← List.append_assoc, HP.out]; exact hO9
                clear hO9 hx
                generalize st P = O9 at *
                go_wp2
                go_roundw
                case rel => exact ⟨1 + 1, by decide, by go_num, by rw [← HM.out], by simp⟩
                case measure => simp [intOf]
              · have K : ((x.toNat : Int) == (((⟨#[116, 102, 38, 124, 60, 91, 109, 103]⟩ : ByteArray)[1]).toNat : Int)) = false := by
                  have : x.toNat ≠ 102 := fun h => hx (UInt8.toNat_inj.1 h)
                  show ((x.toNat : Int) == (102 : Int)) = false
                  simp; omega
                have HM : Hid (P = o ++ mt x (1 + 1)) := by rw [Hid, HN.out (fun h => hx h.symm), HP.out]
                clear hx
                go_wp2
                go_roundw
                case rel => exact ⟨1 + 1, by decide, by go_num, by rw [← HM.out], by simp⟩
                case measure => simp [intOf]
            · by_cases hx : x = 38
              · have K : ((x.toNat : Int) == (((⟨#[116, 102, 38, 124, 60, 91, 109, 103]⟩ : ByteArray)[2]).toNat : Int)) = true := by rw [hx]; rfl
                have hX : (⟨#[102, 116, 124, 38, 91, 60, 103, 109]⟩ : ByteArray).extract 2 3 = ⟨#[124]⟩ := by rfl
                have hO9 := HA9.out [124]
                have HM : Hid (st P ++ (⟨#[124]⟩ : ByteArray) = st (o ++ mt x (2 + 1))) := by rw [Hid, HY.out hx.symm, ← List.append_assoc, HP.out]; exact hO9
                clear hO9 hx
                generalize st P = O9 at *
                go_wp2
                go_roundw
                case rel => exact ⟨2 + 1, by decide, by go_num, by rw [← HM.out], by simp⟩
                case measure => simp [intOf]
              · have K : ((x.toNat : Int) == (((⟨#[116, 102, 38, 124, 60, 91, 109, 103]⟩ : ByteArray)[2]).toNat : Int)) = false := by
                  have : x.toNat ≠ 38 := fun h => hx (UInt8.toNat_inj.1 h)
                  show ((x.toNat : Int) == (38 : Int)) = false
                  simp; omega
                have HM : Hid (P = o ++ mt x (2 + 1)) := by rw [Hid, HN.out (fun h => hx h.symm), HP.out]
                clear hx
                go_wp2
                go_roundw
                case rel => exact ⟨2 + 1, by decide, by go_num, by rw [← HM.out], by simp⟩
                case measure => simp [intOf]
            · by_cases hx : x = 124
              · have K : ((x.toNat : Int) == (((⟨#[116, 102, 38, 124, 60, 91, 109, 103]⟩ : ByteArray)[3]).toNat : Int)) = true := by rw [hx]; rfl
                have hX : (⟨#[102, 116, 124, 38, 91, 60, 103, 109]⟩ : ByteArray).extract 3 4 = ⟨#[38]⟩ := by rfl
                have hO9 := HA9.out [38]
                have HM : Hid (st P ++ (⟨#[38]⟩ : ByteArray) = st (o ++ mt x (3 + 1))) := by rw [Hid, HY.out hx.symm, ← List.append_assoc, HP.out]; exact hO9
                clear hO9 hx
                generalize st P = O9 at *
                go_wp2
                go_roundw
                case rel => exact ⟨3 + 1, by decide, by go_num, by rw [← HM.out], by simp⟩
                case measure => simp [intOf]
              · have K : ((x.toNat : Int) == (((⟨#[116, 102, 38, 124, 60, 91, 109, 103]⟩ : ByteArray)[3]).toNat : Int)) = false := by
                  have : x.toNat ≠ 124 := fun h => hx (UInt8.toNat_inj.1 h)
                  show ((x.toNat : Int) == (124 : Int)) = false
                  simp; omega
                have HM : Hid (P = o ++ mt x (3 + 1)) := by rw [Hid, HN.out (fun h => hx h.symm), HP.out]
                clear hx
                go_wp2
                go_roundw
                case rel => exact ⟨3 + 1, by decide, by go_num, by rw [← HM.out], by simp⟩
                case measure => simp [intOf]
            · by_cases hx : x = 60
              · have K : ((x.toNat : Int) == (((⟨#[116, 102, 38, 124, 60, 91, 109, 103]⟩ : ByteArray)[4]).toNat : Int)) = true := by rw [hx]; rfl
                have hX : (⟨#[102, 116, 124, 38, 91, 60, 103, 109]⟩ : ByteArray).extract 4 5 = ⟨#[91]⟩ := by rfl
                have hO9 := HA9.out [91]
                have HM : Hid (st P ++ (⟨#[91]⟩ : ByteArray) = st (o ++ mt x (4 + 1))) := by rw [Hid, HY.out hx.symm, ← List.append_assoc, HP.out]; exact hO9
                clear hO9 hx
                generalize st P = O9 at *
                go_wp2
                go_roundw
                case rel => exact ⟨4 + 1, by decide, by go_num, by rw [← HM.out], by simp⟩
                case measure => simp [intOf]
              · have K : ((x.toNat : Int) == (((⟨#[116, 102, 38, 124, 60, 91, 109, 103]⟩ : ByteArray)[4]).toNat : Int)) = false := by
                  have : x.toNat ≠ 60 := fun h => hx (UInt8.toNat_inj.1 h)
                  show ((x.toNat : Int) == (60 : Int)) = false
                  simp; omega
                have HM : Hid (P = o ++ mt x (4 + 1)) := by rw [Hid, HN.out (fun h => hx h.symm), HP.out]
                clear hx
                go_wp2
                go_roundw
                case rel => exact ⟨4 + 1, by decide, by go_num, by rw [← HM.out], by simp⟩
                case measure => simp [intOf]
            · by_cases hx : x = 91
              · have K : ((x.toNat : Int) == (((⟨#[116, 102, 38, 124, 60, 91, 109, 103]⟩ : ByteArray)[5]).toNat : Int)) = true := by rw [hx]; rfl
                have hX : (⟨#[102, 116, 124, 38, 91, 60, 103, 109]⟩ : ByteArray).extract 5 6 = ⟨#[60]⟩ := by rfl
                have hO9 := HA9.out [60]
                have HM : Hid (st P ++ (⟨#[60]⟩ : ByteArray) = st (o ++ mt x (5 + 1))) := by rw [Hid, HY.out hx.symm, ← List.append_assoc, HP.out]; exact hO9
                clear hO9 hx
                generalize st P = O9 at *
                go_wp2
                go_roundw
                case rel => exact ⟨5 + 1, by decide, by go_num, by rw [← HM.out], by simp⟩
                case measure => simp [intOf]
              · have K : ((x.toNat : Int) == (((⟨#[116, 102, 38, 124, 60, 91, 109, 103]⟩ : ByteArray)[5]).toNat : Int)) = false := by
                  have : x.toNat ≠ 91 := fun h => hx (UInt8.toNat_inj.1 h)
                  show ((x.toNat : Int) == (91 : Int)) = false
                  simp; omega
                have HM : Hid (P = o ++ mt x (5 + 1)) := by rw [Hid, HN.out (fun h => hx h.symm), HP.out]
                clear hx
                go_wp2
                go_roundw
                case rel => exact ⟨5 + 1, by decide, by go_num, by rw [← HM.out], by simp⟩
                case measure => simp [intOf]
            · by_cases hx : x = 109
              · have K : ((x.toNat : Int) == (((⟨#[116, 102, 38, 124, 60, 91, 109, 103]⟩ : ByteArray)[6]).toNat : Int)) = true := by rw [hx]; rfl
                have hX : (⟨#[102, 116, 124, 38, 91, 60, 103, 109]⟩ : ByteArray).extract 6 7 = ⟨#[103]⟩ := by rfl
                have hO9 := HA9.out [103]
                have HM : Hid (st P ++ (⟨#[103]⟩ : ByteArray) = st (o ++ mt x (6 + 1))) := by rw [Hid, HY.out hx.symm, ← List.append_assoc, HP.out]; exact hO9
                clear hO9 hx
                generalize st P = O9 at *
                go_wp2
                go_roundw
                case rel => exact ⟨6 + 1, by decide, by go_num, by rw [← HM.out], by simp⟩
                case measure => simp [intOf]
              · have K : ((x.toNat : Int) == (((⟨#[116, 102, 38, 124, 60, 91, 109, 103]⟩ : ByteArray)[6]).toNat : Int)) = false := by
                  have : x.toNat ≠ 109 := fun h => hx (UInt8.toNat_inj.1 h)
                  show ((x.toNat : Int) == (109 : Int)) = false
                  simp; omega
                have HM : Hid (P = o ++ mt x (6 + 1)) := by rw [Hid, HN.out (fun h => hx h.symm), HP.out]
                clear hx
                go_wp2
                go_roundw
                case rel => exact ⟨6 + 1, by decide, by go_num, by rw [← HM.out], by simp⟩
                case measure => simp [intOf]
            · by_cases hx : x = 103
              · have K : ((x.toNat : Int) == (((⟨#[116, 102, 38, 124, 60, 91, 109, 103]⟩ : ByteArray)[7]).toNat : Int)) = true := by rw [hx]; rfl
                have hX : (⟨#[102, 116, 124, 38, 91, 60, 103, 109]⟩ : ByteArray).extract 7 8 = ⟨#[109]⟩ := by rfl
                have hO9 := HA9.out [109]
                have HM : Hid (st P ++ (⟨#[109]⟩ : ByteArray) = st (o ++ mt x (7 + 1))) := by rw [Hid, HY.out hx.symm, ← List.append_assoc, HP.out]; exact hO9
                clear hO9 hx
                generalize st P = O9 at *
                go_wp2
                go_roundw
                case rel => exact ⟨7 + 1, by decide, by go_num, by rw [← HM.out], by simp⟩
                case measure => simp [intOf]
              · have K : ((x.toNat : Int) == (((⟨#[116, 102, 38, 124, 60, 91, 109, 103]⟩ : ByteArray)[7]).toNat : Int)) = false := by
                  have : x.toNat ≠ 103 := fun h => hx (UInt8.toNat_inj.1 h)
                  show ((x.toNat : Int) == (103 : Int)) = false
                  simp; omega
                have HM : Hid (P = o ++ mt x (7 + 1)) := by rw [Hid, HN.out (fun h => hx h.symm), HP.out]
                clear hx
                go_wp2
                go_roundw
                case rel => exact ⟨7 + 1, by decide, by go_num, by rw [← HM.out], by simp⟩
                case measure => simp [intOf]
          · have hk' : k = 8 := by omega
            subst hk'
            clear hk hk8 HY HN HA9
            have hPe : P = o ++ [opp x] := by rw [← HP.out, HM8.out]
            have HPe := Lib.hid hPe
            clear hPe
            go_wp2_with fail
            refine (HD.out _).mono ?_
            rintro e wq ⟨rfl, hw⟩
            obtain rfl : w = wq := hw.symm
            go_wp2_with fail
            refine (HL.out _).mono ?_
            rintro e wq ⟨rfl, hw⟩
            obtain rfl : w = wq := hw.symm
            go_wp2
            go_roundw
            case rel => exact ⟨i + 1, o ++ [opp x], by go_num, by omega, by rw [← HPe.out], HG2.out, HF2.out, by have := HOl.out; simp; omega, by simp⟩
            case measure => simp [intOf]; omega
    · have hd := HEnd.out i (by omega)
      rw [hd] at hfo
      have hR : R = o := congrArg Prod.snd hfo
      have hge : (S.size : Int) ≤ i := by omega
      have hos : (st o).size = o.length := st_size o
      have hos2 : (st o).size ≤ 80 := by omega
      clear hgd hfo hd HAt HGet HCut HEnd HLt HSz HS
      subst hR
      rcases HV.out with ⟨h40, rfl, rfl⟩ | ⟨h40, rfl, rfl⟩
      · have hz : ((st R).size : Int) ≤ 40 := by omega
        clear hos h40 ho HV
        generalize hO : st R = O at *
        have HO := Lib.hid hO
        clear hO
        go_wp2
        exact bodyPost_ret (v := .tuple #[.string O, .int .i64 0]) (by simp [results, Try.results19, go_sem]) rfl ⟨by rw [HO.out], Below.refl _ _⟩
      · have hz : (40 : Int) < ((st R).size : Int) := by omega
        clear hos h40 ho HV
        generalize st R = O at *
        go_wp2
        exact bodyPost_ret (v := .tuple #[.string (st []), .int .i64 3]) (by simp [results, Try.results19, go_sem]; rfl) rfl ⟨rfl, Below.refl _ _⟩
end Go.Proofs.Ytkbbijhknbcflaa
