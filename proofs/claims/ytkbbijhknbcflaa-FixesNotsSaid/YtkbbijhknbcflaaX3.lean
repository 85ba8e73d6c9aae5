import Derived.Test.YtkbbijhknbcflaaX2
import Derived.Test.YtkbbijhknbcflaaA4
/-
  exchange: the formula of the other states, sign by sign.
-/
namespace Go.Proofs.Ytkbbijhknbcflaa
open Go.RowKit Go.Shelf

theorem Try.info5 : (Try.prog.info? 5).map (fun i => (i.zero, i.size, i.bytes)) = some (some (.int .u8 0), 1, 1) := by kernel_rfl

/-- A row of bytes. -/
def bt (o : List UInt8) : List Value := o.map fun b => .int .u8 (b.toNat : Int)
theorem own_conv {w : World} {base : Nat} {v : Value} {o : List UInt8} (h : w.ownsRow base 5 1 v o.length (bt o)) (ho : o ≠ []) :
    (convert 61 9 v).run Try.prog w = .ok (.string (st o)) w := by
  rcases h.2 with ⟨_, hn⟩ | ⟨g, cap, cur, rfl, hb, hg, h1, h2, h3, h4⟩
  · exact absurd (List.length_eq_zero_iff.1 (by simpa using hn)) ho
  · exact run_convert_bytes_back (P := Try.prog) w 61 9 5 ⟨g, 0, none⟩ cap o Try.underlying61 Try.underlying5 Try.underlying9 (fun j hj => h.cells rfl j _ (by simp [bt, hj]))
theorem bt_snoc {w : World} {base : Nat} {v : Value} {o : List UInt8} {y : UInt8} (h : w.ownsRow base 5 1 v (o.length + 1) (bt o ++ [.int .u8 (y.toNat : Int)])) : w.ownsRow base 5 1 v (o ++ [y]).length (bt (o ++ [y])) := by
  simpa [bt] using h

set_option maxHeartbeats 2000000 in
set_option maxRecDepth 100000 in
theorem exchange_l (l : List UInt8) (w : World) (hl : l.length ≤ 40) (hne : (xch l).2 ≠ []) :
    Calls Try.prog 33 #[.string (st l)] w fun e w' => e = .returned (.string (st (xch l).2)) ∧ Below w.heap.size w w' := by
  have hs : (st l).size = l.length := st_size l
  have HX := Lib.hid (fun k (hk : k < (st l).size) => show xch (l.take (k + 1)) = xst (xch (l.take k)) ((st l)[k]) from xch_take l k (by omega))
  have HLn : Hid (∀ k, (xch (l.take k)).2.length ≤ 80) := fun k => by
    have := xch_len (l.take k)
    rw [List.length_take] at this; omega
  have HEnd : Hid (xch (l.take (st l).size) = xch l) := by rw [Hid, hs, List.take_of_length_le (Nat.le_refl _)]
  have hs40 : (st l).size ≤ 40 := by omega
  obtain ⟨i0, hi, hz0, hz1, hz2⟩ := info_parts Try.info5
  have H0 : Hid (xch (l.take 0) = (false, [])) := rfl
  have HNe := Lib.hid hne
  generalize st l = S at *
  clear hs hl hne
  generalize xch l = R at *
  go_enter Try.func33, Try.ntmps33
  go_wp2
  go_loopw [3, 4, 5, 6, 9] (fun s3 s4 _ _ s9 wr => ∃ k : Nat, k ≤ S.size ∧ s9 = .int .i64 k ∧ s4 = .bool (xch (l.take k)).1 ∧ wr.ownsRow w.heap.size 5 1 s3 (xch (l.take k)).2.length (bt (xch (l.take k)).2) ∧ Below w.heap.size w wr) (fun _ _ _ _ s9 _ => S.size - (intOf s9).toNat)
  case atStart => exact ⟨0, Nat.zero_le _, rfl, rfl, World.ownsRow_nil _ _ _ _, Below.refl _ _⟩
  case round =>
    obtain ⟨k, hk, rfl, rfl, hown, hbl⟩ := hrel
    have HO := Lib.hid hown
    have HB := Lib.hid hbl
    have hsz := hbl.size
    clear hown hbl
    have hln := HLn.out k
    by_cases hlt : k < S.size
    · have HXk := Lib.hid (HX.out k hlt)
      have HD := Lib.hid (fun r (hr : digB S[k] = r) W => isDigit_r r S[k] W hr)
      have HOp := Lib.hid (fun W => opposite_any S[k] W)
      generalize xch (l.take k) = p at *
      obtain ⟨g, o⟩ := p
      simp only at hln
      clear H0 HEnd HLn
      obtain ⟨x, hx⟩ : ∃ x, S[k] = x := ⟨_, rfl⟩
      rw [hx] at HXk HOp HD
      have HSx := Lib.hid hx
      cases hdg : digB x
      · have HD := Lib.hid (fun W => HD.out false hdg W)
        by_cases h45 : x = 45
        · have HXn : Hid (xch (l.take (k + 1)) = (true, o)) := by rw [Hid, HXk.out, xst, pre, hdg, h45]; simp
          subst h45
          clear HOp hdg HXk
          go_wp2_with fail
          refine (HD.out _).mono ?_
          rintro e wq ⟨rfl, rfl⟩
          go_wp2
          go_roundw
          case rel => exact ⟨k + 1, by omega, by go_num, by rw [HXn.out], by rw [HXn.out]; exact HO.out, HB.out⟩
          case measure => simp [intOf]; omega
        · have HXn : Hid (xch (l.take (k + 1)) = (false, o ++ [opp x])) := by rw [Hid, HXk.out, xst, pre, hdg]; simp [h45]
          have K : ((x.toNat : Int) == 45) = false := by
            have : x.toNat ≠ 45 := fun h => h45 (UInt8.toNat_inj.1 h)
            simp; omega
          clear hdg h45 HXk
          go_wp2_with fail
          refine (HD.out _).mono ?_
          rintro e wq ⟨rfl, rfl⟩
          go_wp2_with fail
          refine (HOp.out _).mono ?_
          rintro e wq ⟨rfl, rfl⟩
          go_wp2_with (at_builtin; refine wpList_append_own _ rfl _ _ 61 rfl w.heap.size 5 i0 (.int .u8 0) 1 1 Try.underlying61 hi hz0 hz1 hz2 rfl (by decide) _ _ _ rfl (HO.out.alloc _) ⟨wr.heap.size, 0, none⟩ 1 1 [.int .u8 ((opp x).toNat : Int)] rfl rfl (one_new _ _ _) (one_ok _ rfl) (by unfold maxLen; omega) (by omega) (by simp; omega) ?_)
          intro v1 w5 hown hgrow _
          have hb1 : Below w.heap.size wr w5 := ((Below.refl _ wr).alloc hsz _).grown hgrow (by simp; omega) (fun j hj => (World.ownsRow.lt HO.out j hj).1)
          have HB1 := Lib.hid (HB.out.trans hb1)
          have HO1 := Lib.hid (bt_snoc hown)
          clear hown hgrow
          go_wp2
          go_roundw
          case rel => exact ⟨k + 1, by omega, by go_num, by rw [HXn.out], by rw [HXn.out]; exact HO1.out, HB1.out⟩
          case measure => simp [intOf]; omega
      · have HD := Lib.hid (fun W => HD.out true hdg W)
        have h45 : ¬ x = 45 := by rintro rfl; exact absurd hdg (by decide)
        have K : ((x.toNat : Int) == 45) = false := by
          have : x.toNat ≠ 45 := fun h => h45 (UInt8.toNat_inj.1 h)
          simp; omega
        cases g
        · have HXn : Hid (xch (l.take (k + 1)) = (false, (o ++ [45]) ++ [opp x])) := by rw [Hid, HXk.out, xst, pre, hdg]; simp [h45]
          clear hdg h45 HXk
          go_wp2_with fail
          refine (HD.out _).mono ?_
          rintro e wq ⟨rfl, rfl⟩
          go_wp2_with (at_builtin; refine wpList_append_own _ rfl _ _ 61 rfl w.heap.size 5 i0 (.int .u8 0) 1 1 Try.underlying61 hi hz0 hz1 hz2 rfl (by decide) _ _ _ rfl (HO.out.alloc _) ⟨wr.heap.size, 0, none⟩ 1 1 [.int .u8 45] rfl rfl (one_new _ _ _) (one_ok _ rfl) (by unfold maxLen; omega) (by omega) (by simp; omega) ?_)
          intro v1 w5 hown hgrow _
          have hb1 : Below w.heap.size wr w5 := ((Below.refl _ wr).alloc hsz _).grown hgrow (by simp; omega) (fun j hj => (World.ownsRow.lt HO.out j hj).1)
          have HB1 := Lib.hid (HB.out.trans hb1)
          have HO1 := Lib.hid ((bt_snoc hown : World.ownsRow _ _ _ _ _ _ (bt (o ++ [45]))))
          clear hown hgrow
          have hsz1 := HB1.out.size
          have hln1 : (o ++ [(45 : UInt8)]).length ≤ 81 := by simp; omega
          clear hb1
          go_wp2_with fail
          refine (HOp.out _).mono ?_
          rintro e wq ⟨rfl, rfl⟩
          go_wp2_with (at_builtin; refine wpList_append_own _ rfl _ _ 61 rfl w.heap.size 5 i0 (.int .u8 0) 1 1 Try.underlying61 hi hz0 hz1 hz2 rfl (by decide) _ _ _ rfl (HO1.out.alloc _) ⟨w5.heap.size, 0, none⟩ 1 1 [.int .u8 ((opp x).toNat : Int)] rfl rfl (one_new _ _ _) (one_ok _ rfl) (by unfold maxLen; omega) (by omega) (by simp; omega) ?_)
          intro v2 w6 hown hgrow _
          have hb2 : Below w.heap.size w5 w6 := ((Below.refl _ w5).alloc hsz1 _).grown hgrow (by simp; omega) (fun j hj => (World.ownsRow.lt HO1.out j hj).1)
          have HB2 := Lib.hid (HB1.out.trans hb2)
          have HO2 := Lib.hid (bt_snoc (o := o ++ [45]) (by rw [List.length_append]; exact hown))
          clear hown hgrow
          go_wp2
          go_roundw
          case rel => exact ⟨k + 1, by omega, by go_num, by rw [HXn.out], by rw [HXn.out]; exact HO2.out, HB2.out⟩
          case measure => simp [intOf]; omega
        · have HXn : Hid (xch (l.take (k + 1)) = (false, o ++ [opp x])) := by rw [Hid, HXk.out, xst, pre, hdg]; simp [h45]
          clear hdg h45 HXk
          go_wp2_with fail
          refine (HD.out _).mono ?_
          rintro e wq ⟨rfl, rfl⟩
          go_wp2_with fail
          refine (HOp.out _).mono ?_
          rintro e wq ⟨rfl, rfl⟩
          go_wp2_with (at_builtin; refine wpList_append_own _ rfl _ _ 61 rfl w.heap.size 5 i0 (.int .u8 0) 1 1 Try.underlying61 hi hz0 hz1 hz2 rfl (by decide) _ _ _ rfl (HO.out.alloc _) ⟨wr.heap.size, 0, none⟩ 1 1 [.int .u8 ((opp x).toNat : Int)] rfl rfl (one_new _ _ _) (one_ok _ rfl) (by unfold maxLen; omega) (by omega) (by simp; omega) ?_)
          intro v1 w5 hown hgrow _
          have hb1 : Below w.heap.size wr w5 := ((Below.refl _ wr).alloc hsz _).grown hgrow (by simp; omega) (fun j hj => (World.ownsRow.lt HO.out j hj).1)
          have HB1 := Lib.hid (HB.out.trans hb1)
          have HO1 := Lib.hid (bt_snoc hown)
          clear hown hgrow
          go_wp2
          go_roundw
          case rel => exact ⟨k + 1, by omega, by go_num, by rw [HXn.out], by rw [HXn.out]; exact HO1.out, HB1.out⟩
          case measure => simp [intOf]; omega
    · obtain rfl : k = S.size := by omega
      rw [HEnd.out] at HO
      have hcv := own_conv HO.out HNe.out
      have hge : (S.size : Int) ≤ S.size := Int.le_refl _
      clear HX HLn
      go_wp2
      go_ret
      exact ⟨rfl, HB.out⟩
end Go.Proofs.Ytkbbijhknbcflaa
