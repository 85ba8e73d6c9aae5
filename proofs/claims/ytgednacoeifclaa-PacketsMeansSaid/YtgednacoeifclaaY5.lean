import Derived.Test.YtgednacoeifclaaY4
import Derived.Laws.MakeOwn
namespace Go.Proofs.Ytgednacoeifclaa
open Go.RowKit Go.Shelf

theorem Try.infoF : (Try.prog.info? 24).map (fun i => (i.zero, i.size, i.bytes)) = some (some (.agg #[.int .i64 0, .int .i64 0]), 2, 16) := by kernel_rfl
theorem make_fr (N : Nat) (w : World) (h : N ≤ 64) : (Instr.makeSlice 55 (.int .i64 (N : Int)) (.int .i64 (N : Int))).run Try.prog w = .ok (.slice (some ⟨w.heap.size, 0, none⟩) N N) (w.alloc (.cells (madeCells #[.int .i64 0, .int .i64 0] (N * 2)) 24)) := by
  have hi := Try.infoF
  cases hh : Try.prog.info? 24 with
  | none => rw [hh] at hi; cases hi
  | some i =>
    rw [hh] at hi
    simp only [Option.map_some, Option.some.injEq, Prod.mk.injEq] at hi
    have := run_makeSlice (P := Try.prog) w 55 24 i (.agg #[.int .i64 0, .int .i64 0]) (by kernel_rfl) hh hi.1 .i64 .i64 (N : Int) (N : Int) (by omega) (Int.le_refl _) (by rw [hi.2.1]; simp; omega) (by rw [hi.2.2]; omega) (by omega)
    rw [hi.2.1] at this
    simp only [Int.toNat_natCast] at this
    exact this
theorem made_row (N : Nat) (w : World) : RowF (w.alloc (.cells (madeCells #[.int .i64 0, .int .i64 0] (N * 2)) 24)) w.heap.size N (fun _ => 0) (fun _ => 0) := by
  refine ⟨_, heap_alloc_new w _, fun k hk => ?_⟩
  have e : ∀ j, j < N * 2 → (madeCells #[Value.int .i64 0, .int .i64 0] (N * 2))[j]? = some (.int .i64 0) := fun j hj => by
    unfold madeCells
    rw [Array.getElem?_map, Array.getElem?_range, if_pos hj]
    have h2 : j % 2 = 0 ∨ j % 2 = 1 := by omega
    rcases h2 with h | h <;> simp [h]
  exact ⟨e _ (by omega), e _ (by omega)⟩

set_option maxRecDepth 100000 in
set_option maxHeartbeats 8000000 in
theorem rmean_any (a : Option Addr) (n cap : Nat) (z : Nat → Int) (s : Nat) (L D : Nat) (w : World) (hs : s < 2 ^ n) (h1n : 1 ≤ n) (hn : n ≤ 6) (hz : Ints w a n z) (h9 : ∀ j, j < n → 1 ≤ z j ∧ z j ≤ 9) (hF : MeanF n z L (mX z D)) (hD : (D : Int) = L * ofS z (2 ^ n - 1)) (hdD : DOk z D (2 ^ n - 1)) (hKM : D ≤ 1152921504606846976) :
    Calls Try.prog 24 #[.slice a n cap, .int .i64 s] w fun e w' => QOut (mX z D s) L w e w' := by
  have hf := full_lt hn
  have hf0 : 2 ^ n - 1 ≠ 0 := by
    have : 2 ^ 1 ≤ 2 ^ n := Nat.pow_le_pow_right (by decide) h1n
    omega
  have hal := of_pos hf hn hf0 h9
  obtain ⟨b0, o0, rfl, _⟩ := hz 0 (by omega)
  have hst := fun t (ht : t < 2 ^ n) (h0 : t ≠ 0) => mstep_any ht h0 h1n hn h9 hF hD hdD hKM
  obtain ⟨M, hM⟩ : ∃ M, M = mX z D := ⟨_, rfl⟩
  have HMst : Hid (∀ t, t < 2 ^ n → t ≠ 0 → ∃ o, MStep n z L D t o) := hst
  have HZ := Lib.hid hz
  have H9 := Lib.hid h9
  have hL1 := hF.L1
  have hLM := hF.LM
  have hM0 : Hid (frA (mX z D 0) L = 0 ∧ frB (mX z D 0) L = 1) := by rw [Hid, mX_zero]; exact fr_zero hL1
  have HSum := Lib.hid (fun t (ht : t < 2 ^ n) W (hW : Below w.heap.size w W) => rsum_any (some ⟨b0, o0, none⟩) n cap z t W ht hn (hz.keep (Nat.le_refl _) hW) h9)
  have HW := Lib.hid (rwhole_any 0)
  have hp6 := pow_6 hn
  obtain ⟨N, hN⟩ : ∃ N : Nat, N = 2 ^ n := ⟨_, rfl⟩
  have hN64 : N ≤ 64 := by omega
  have hNi : ((2 : Int) ^ n) = (N : Int) := by rw [hN]; simp
  have hmk := make_fr N (w.alloc (.cells #[.int .i64 0, .int .i64 0] 24)) hN64
  have hrow := made_row N (w.alloc (.cells #[.int .i64 0, .int .i64 0] 24))
  rw [← hNi] at hmk
  have hwN : wrap64 ((2 : Int) ^ n) = (2 : Int) ^ n := by rw [wrap_pow6 hn]; simp
  have hmk2 := hmk
  rw [← hwN] at hmk2
  have hwM : wrap64 (wrap64 ((2 : Int) ^ n) - 1) = ((2 ^ n - 1 : Nat) : Int) := by
    rw [wrap_pow6 hn]
    generalize 2 ^ n = P at *
    rw [IntWalk.wrap64_in _ ⟨by omega, by omega⟩]
    omega
  have HM := Lib.hid hwM
  have HRow := Lib.hid hrow
  have HNi := Lib.hid hNi
  have HN := Lib.hid hN
  have HMk := Lib.hid (And.intro hmk hmk2)
  clear hwM hrow hNi hN hwN hmk hmk2
  go_enter Try.func24, Try.ntmps24
  go_wp2_with fail
  rw [HM.out]
  refine (HSum.out (2 ^ n - 1) hf _ (below_one w _)).mono ?_
  rintro e w' ⟨rfl, rfl⟩
  obtain ⟨hmk, hmk2⟩ := HMk.out
  go_wp2_with fail
  obtain ⟨w1, hw1⟩ : ∃ w1, w1 = (w.alloc (.cells #[.int .i64 0, .int .i64 0] 24)).alloc (.cells (madeCells #[.int .i64 0, .int .i64 0] (N * 2)) 24) := ⟨_, rfl⟩
  have hrw := HRow.out
  rw [← hw1] at hrw ⊢
  have hb1 : Below w.heap.size w w1 := by rw [hw1]; exact below_two w _ _
  have hr1 : w1.heap[w.heap.size]? = some (.cells #[.int .i64 0, .int .i64 0] 24) := by rw [hw1]; exact heap_two1 w _ _
  have hs1 : w1.heap.size = w.heap.size + 2 := by rw [hw1]; simp
  rw [World.size_alloc] at hrw
  have HRw := Lib.hid hrw
  have HB1 := Lib.hid hb1
  have HR1 := Lib.hid hr1
  clear hmk hmk2 HMk hw1 hrw hb1 hr1 HRow
  refine (HW.out w1).mono ?_
  rintro e w2 ⟨rfl, hb2⟩
  have hN0 : 0 < N := by have := HN.out; have := Nat.pow_pos (n := n) (show 0 < 2 by decide); omega
  have HRw2 := Lib.hid (HRw.out.keep hb2)
  have HB2 := Lib.hid (band HB1.out hb2)
  have HR2 := Lib.hid (keep_blk HR1.out hb2)
  have hat := HRw2.out.at hN0
  simp only [Nat.zero_mul, Nat.zero_add] at hat
  obtain ⟨q1, q2, q3, q4⟩ := hat
  clear hb2
  have H11 := Lib.hid (fr_one 0)
  have HRw3 := Lib.hid (HRw2.out.set hN0 (frA 0 1) (frB 0 1))
  go_wp2
  obtain ⟨w3, hw3⟩ : ∃ w3, w3 = (w2.setCell ⟨w.heap.size + 1, 0, none⟩ (.int .i64 (frA 0 1))).setCell ⟨w.heap.size + 1, 1, none⟩ (.int .i64 (frB 0 1 : Nat)) := ⟨_, rfl⟩
  have hr3 : RowF w3 (w.heap.size + 1) N (fun k => if k = 0 then frA 0 1 else 0) (fun k => if k = 0 then frB 0 1 else 0) := by
    have h := HRw3.out
    simp only [Nat.zero_mul, Nat.zero_add] at h
    rw [hw3]; exact h
  have hb3 : Below (w.heap.size + 1) w2 w3 := by rw [hw3]; exact below_set2 w2 (w.heap.size + 1) _ _
  have hM03 : Hid (frA 0 1 = frA (mX z D 0) L ∧ frB 0 1 = frB (mX z D 0) L) := by rw [Hid, hM0.out.1, hM0.out.2]; exact H11.out
  rw [← hw3]
  have HB3 : Hid (Below w.heap.size w w3) := HB2.out.trans (hb3.mono (by omega))
  have HRes : Hid (w3.heap[w.heap.size]? = some (.cells #[.int .i64 0, .int .i64 0] 24)) := (hb3.block _ (by omega)).trans HR2.out
  have H30 : Hid (∃ A E, RowF w3 (w.heap.size + 1) N A E ∧ ∀ k, k < 1 → A k = frA (mX z D k) L ∧ E k = frB (mX z D k) L) := ⟨_, _, hr3, fun k hk => by
    have : k = 0 := by omega
    subst this
    simp only [if_true]
    exact hM03.out⟩
  clear hw3 hr3 hb3 q1 q2 q3 q4 H11 HRw3 HRw2 HRw hM03 hst hM hF hD hdD hKM hz h9
  have hsN : s < N := by rw [HN.out]; exact hs
  go_loopw [7, 8, 9] (fun i _ _ wr => ∃ t : Nat, 1 ≤ t ∧ t ≤ s + 1 ∧ i = .int .i64 t ∧ (∃ A E, RowF wr (w.heap.size + 1) N A E ∧ ∀ k, k < t → A k = frA (mX z D k) L ∧ E k = frB (mX z D k) L) ∧ Below (w.heap.size + 1) w3 wr) (fun i _ _ _ => s + 1 - (intOf i).toNat)
  case atStart => exact ⟨1, Nat.le_refl _, by omega, rfl, H30.out, Below.refl _ _⟩
  case round =>
    obtain ⟨t, ht1, hts, rfl, ⟨A, E, hrow, hval⟩, hbl⟩ := hrel
    have HRt := Lib.hid hrow
    have HVal := Lib.hid hval
    have HBl := Lib.hid hbl
    have HBw : Hid (Below w.heap.size w wr) := HB3.out.trans (hbl.mono (by omega))
    have hlt0 := hrow.lt
    clear hrow hval hbl
    by_cases hlt : t ≤ s
    · have htN : t < N := by omega
      have ht2 : t < 2 ^ n := by rw [← HN.out]; exact htN
      obtain ⟨o, hms⟩ := HMst.out t ht2 (by omega)
      have hoe := hms.oe
      have ho1 := hms.o1
      have HMs := Lib.hid hms
      have HSt : Hid (∀ W, Below w.heap.size w W → Calls Try.prog 47 #[.slice (some ⟨b0, o0, none⟩) n cap, .int .i64 t] W fun e w' => e = .returned (.int .i64 (o : Int)) ∧ W = w') := fun W hW => by
        have h := HSum.out t ht2 W hW
        rw [hoe] at h; exact h
      have HF0 : Hid (∀ W, Calls Try.prog 54 #[.int .i64 (ofS z (2 ^ n - 1)), .int .i64 o] W fun e w' => QOut (meT z D t 0) (o * L) W e w') := fun W => by
        have h := rfrac_any (ofS z (2 ^ n - 1)) o W (by omega) (by omega) (by omega) ho1.1
        unfold QOut at h ⊢
        rw [hms.z0.1, hms.z0.2] at h
        exact h
      have ht0 : (0 : Int) ≤ (t : Int) := by omega
      clear hms hoe
      go_wp2_with fail
      refine (HSt.out wr HBw.out).mono ?_
      rintro e w' ⟨rfl, rfl⟩
      go_wp2_with fail
      refine (HF0.out wr).mono ?_
      rintro e w5 ⟨rfl, hb5⟩
      have hat := (HRt.out.keep hb5).at htN
      obtain ⟨q1, q2, q3, q4⟩ := hat
      have HB5 := Lib.hid (band HBw.out hb5)
      have HBl5 : Hid (Below (w.heap.size + 1) w3 w5) := HBl.out.trans (hb5.mono (by omega))
      have HR5 := Lib.hid ((HRt.out.keep hb5).set htN (frA (meT z D t 0) (o * L)) (frB (meT z D t 0) (o * L)))
      clear hb5
      go_wp2
      obtain ⟨w6, hw6⟩ : ∃ w6, w6 = (w5.setCell ⟨w.heap.size + 1, t * 2, none⟩ (.int .i64 (frA (meT z D t 0) (o * L)))).setCell ⟨w.heap.size + 1, t * 2 + 1, none⟩ (.int .i64 (frB (meT z D t 0) (o * L) : Nat)) := ⟨_, rfl⟩
      have hr6 := HR5.out
      rw [← hw6] at hr6 ⊢
      have hb6 : Below (w.heap.size + 1) w5 w6 := by
        rw [hw6]; exact Below.setCell (p := ⟨w.heap.size + 1, t * 2 + 1, none⟩) (Below.setCell (p := ⟨w.heap.size + 1, t * 2, none⟩) (Below.refl _ w5) (Nat.le_refl _) _) (Nat.le_refl _) _
      have H60 : Hid (∃ A E, RowF w6 (w.heap.size + 1) N A E ∧ (∀ k, k < t → A k = frA (mX z D k) L ∧ E k = frB (mX z D k) L) ∧ A t = frA (meT z D t 0) (o * L) ∧ E t = frB (meT z D t 0) (o * L)) := ⟨_, _, hr6, fun k hk => by
        have : ¬ k = t := by omega
        simp only [this, if_false]
        exact HVal.out k hk, by simp, by simp⟩
      have HBl6 : Hid (Below (w.heap.size + 1) w3 w6) := HBl5.out.trans hb6
      clear hw6 hr6 hb6 q1 q2 q3 q4 HR5
      go_loopw [8, 9, 38] (fun _ _ i wr => ∃ j : Nat, j ≤ n ∧ i = .int .i64 j ∧ (∃ A E, RowF wr (w.heap.size + 1) N A E ∧ (∀ k, k < t → A k = frA (mX z D k) L ∧ E k = frB (mX z D k) L) ∧ A t = frA (meT z D t j) (o * L) ∧ E t = frB (meT z D t j) (o * L)) ∧ Below (w.heap.size + 1) w3 wr) (fun _ _ i _ => n - (intOf i).toNat)
      case atStart => exact ⟨0, Nat.zero_le _, rfl, H60.out, HBl6.out⟩
      case round =>
        obtain ⟨j, hj, rfl, ⟨A2, E2, hrow, hval, hA2, hE2⟩, hbl⟩ := hrel
        have HRt2 := Lib.hid hrow
        have HVal2 := Lib.hid hval
        have HBl2 := Lib.hid hbl
        have HBw2 : Hid (Below w.heap.size w wr) := HB3.out.trans (hbl.mono (by omega))
        have hlt2 := hrow.lt
        have HA2 := Lib.hid (And.intro hA2 hE2)
        clear hrow hval hbl hA2 hE2
        by_cases hltj : j < n
        · have hj0 : (0 : Int) ≤ (j : Int) := by omega
          have hltI : (j : Int) < (n : Int) := by omega
          obtain ⟨b', o', he, hcx⟩ := (HZ.out.keep (Nat.le_refl _) HBw2.out) j hltj
          cases he
          have hbj := bit_at t j (Nat.lt_of_lt_of_le (Nat.lt_of_lt_of_le htN hN64) (by decide))
          cases hbit : t.testBit j
          · rw [hbit] at hbj
            have HNj := Lib.hid (HMs.out.no j hbit)
            clear hbit
            go_wp2
            go_roundw
            case rel => exact ⟨j + 1, by omega, by go_num, ⟨A2, E2, HRt2.out, HVal2.out, by rw [HNj.out]; exact HA2.out.1, by rw [HNj.out]; exact HA2.out.2⟩, HBl2.out⟩
            case measure => simp [intOf]; omega
          · rw [hbit] at hbj
            have ht64 : t < 64 := Nat.lt_of_lt_of_le htN hN64
            have hz9 := H9.out j hltj
            have hrg := HMs.out.rg j hltj hbit
            have hbd := HMs.out.bd j (by omega)
            have hbd2 := HMs.out.bd (j + 1) (by omega)
            have hyes := HMs.out.yes j hbit
            have hK1 := HMs.out.K1
            have hKM' := HMs.out.KM
            have hqlt := sdiff_less ht64 (show j < 6 by omega) hbit
            have h2j : 2 ^ j < 64 := by have : 2 ^ j < 2 ^ 6 := Nat.pow_lt_pow_right (by decide) (show j < 6 by omega); omega
            have hAN1 : bits .andNot .i64 (t : Int) (IntKind.i64.wrap ((2 : Int) ^ j)) = ((sdiff t (2 ^ j) : Nat) : Int) := by rw [wrap_two' (by omega)]; exact andNot_nat ht64 h2j
            have hAN2 : bits .andNot .i64 (t : Int) (wrap64 ((2 : Int) ^ j)) = ((sdiff t (2 ^ j) : Nat) : Int) := by rw [wrap_two (by omega)]; exact andNot_nat ht64 h2j
            have hvq := HVal2.out (sdiff t (2 ^ j)) hqlt
            obtain ⟨q, hq⟩ : ∃ q, q = sdiff t (2 ^ j) := ⟨_, rfl⟩
            rw [← hq] at hrg hyes hqlt hAN1 hAN2 hvq
            have hqN : q < N := by omega
            have hsum : (meT z D t j).natAbs + (z j * mX z D q).natAbs ≤ 9223372036854775807 := by rw [hyes] at hbd2; omega
            have HFj : Hid (∀ W, Calls Try.prog 54 #[.int .i64 (z j), .int .i64 o] W fun e w' => QOut (z j) o W e w') := fun W => rfrac_any (z j) o W (by omega) (by omega) (by omega) ho1.1
            have HTj : Hid (∀ W, Calls Try.prog 56 #[.agg #[.int .i64 (frA (z j) o), .int .i64 (frB (z j) o : Nat)], .agg #[.int .i64 (frA (mX z D q) L), .int .i64 (frB (mX z D q) L : Nat)]] W fun e w' => QOut (z j * mX z D q) (o * L) W e w') := fun W => by
              have a1 := frA_abs (z j * mX z D q) (L := o * L) hK1
              have a2 := frB_le (z j * mX z D q) (o * L)
              exact rtimes_any _ _ o L W ho1.1 hL1 (by omega) (by omega) (by omega) (by omega) (by omega) (by omega)
            have HPj : Hid (∀ W, Calls Try.prog 55 #[.agg #[.int .i64 (frA (meT z D t j) (o * L)), .int .i64 (frB (meT z D t j) (o * L) : Nat)], .agg #[.int .i64 (frA (z j * mX z D q) (o * L)), .int .i64 (frB (z j * mX z D q) (o * L) : Nat)]] W fun e w' => QOut (meT z D t (j + 1)) (o * L) W e w') := fun W => by
              rw [hyes]; exact rplus_sum _ _ (o * L) W hK1 (by omega) hsum
            have HS0 := Lib.hid (HSt.out wr.drew HBw2.out.drew)
            have HAt : Hid (∀ W, RowF W (w.heap.size + 1) N A2 E2 → (W.cell? ⟨w.heap.size + 1, t * 2, none⟩ = some (.int .i64 (frA (meT z D t j) (o * L))) ∧ W.cell? ⟨w.heap.size + 1, t * 2 + 1, none⟩ = some (.int .i64 (frB (meT z D t j) (o * L) : Nat)) ∧ W.frozen? ⟨w.heap.size + 1, t * 2, none⟩ = false ∧ W.frozen? ⟨w.heap.size + 1, t * 2 + 1, none⟩ = false) ∧ (W.cell? ⟨w.heap.size + 1, q * 2, none⟩ = some (.int .i64 (frA (mX z D q) L)) ∧ W.cell? ⟨w.heap.size + 1, q * 2 + 1, none⟩ = some (.int .i64 (frB (mX z D q) L : Nat)) ∧ W.frozen? ⟨w.heap.size + 1, q * 2, none⟩ = false ∧ W.frozen? ⟨w.heap.size + 1, q * 2 + 1, none⟩ = false)) := fun W h => by
              have h1 := h.at htN
              have h2 := h.at hqN
              rw [HA2.out.1, HA2.out.2] at h1
              rw [hvq.1, hvq.2] at h2
              exact ⟨h1, h2⟩
            obtain ⟨⟨c1, c2, c3, c4⟩, d1, d2, d3, d4⟩ := HAt.out wr HRt2.out
            have hq0 : (0 : Int) ≤ (q : Int) := by omega
            have hqI : (q : Int) < (N : Int) := by omega
            have htI : (t : Int) < (N : Int) := by omega
            clear hbit hz9 hrg hbd hbd2 hyes hK1 hKM' hvq hq hsum
            go_wp2
            go_region_with (first
              | (go_at_call 47; refine HS0.out.mono ?_; rintro e w' ⟨rfl, rfl⟩)
              | (go_at_call 54; refine (HFj.out _).mono ?_; rintro e w7 ⟨rfl, hb7⟩; have HB7 := Lib.hid (below_drew1 hb7); have HR7 := Lib.hid (HRt2.out.keep HB7.out); obtain ⟨⟨x1, x2, x3, x4⟩, x5, x6, x7, x8⟩ := HAt.out w7 HR7.out; clear hb7)
              | (go_at_call 56; refine (HTj.out _).mono ?_; rintro e w8 ⟨rfl, hb8⟩; have HB8 := Lib.hid (HB7.out.trans (hb8.mono HB7.out.size)); have HR8 := Lib.hid (HRt2.out.keep HB8.out); obtain ⟨⟨y1, y2, y3, y4⟩, y5, y6, y7, y8⟩ := HAt.out w8 HR8.out; clear hb8)
              | (go_at_call 55; refine (HPj.out _).mono ?_; rintro e w9 ⟨rfl, hb9⟩; have HB9 := Lib.hid (HB8.out.trans (hb9.mono HB8.out.size)); have HR9 := Lib.hid (HRt2.out.keep HB9.out); obtain ⟨⟨z1, z2, z3, z4⟩, z5, z6, z7, z8⟩ := HAt.out w9 HR9.out; clear hb9))
            all_goals
              have HRn := Lib.hid (HR9.out.set htN (frA (meT z D t (j + 1)) (o * L)) (frB (meT z D t (j + 1)) (o * L)))
              have HBn : Hid (Below (w.heap.size + 1) w3 ((w9.setCell ⟨w.heap.size + 1, t * 2, none⟩ (.int .i64 (frA (meT z D t (j + 1)) (o * L)))).setCell ⟨w.heap.size + 1, t * 2 + 1, none⟩ (.int .i64 (frB (meT z D t (j + 1)) (o * L) : Nat)))) :=
                Below.setCell (p := ⟨w.heap.size + 1, t * 2 + 1, none⟩) (Below.setCell (p := ⟨w.heap.size + 1, t * 2, none⟩) (HBl2.out.trans (HB9.out.mono (by omega))) (Nat.le_refl _) _) (Nat.le_refl _) _
              go_wp2
              go_roundw
              case rel => exact ⟨j + 1, by omega, by go_num, ⟨_, _, HRn.out, fun k hk => by
                have : ¬ k = t := by omega
                simp only [this, if_false]
                exact HVal2.out k hk, by simp, by simp⟩, HBn.out⟩
              case measure => simp [intOf]; omega
        · have e : j = n := by omega
          have HEn : Hid (frA (meT z D t j) (o * L) = frA (mX z D t) L ∧ frB (meT z D t j) (o * L) = frB (mX z D t) L) := by rw [Hid, e]; exact HMs.out.en
          have hge : (n : Int) ≤ j := by omega
          clear e
          go_wp2
          go_roundw
          case rel => exact ⟨t + 1, by omega, by omega, by go_num, ⟨A2, E2, HRt2.out, fun k hk => by
            by_cases hkt : k = t
            · rw [hkt, HA2.out.1, HA2.out.2]; exact HEn.out
            · exact HVal2.out k (by omega)⟩, HBl2.out⟩
          case measure => simp [intOf]; omega
    · have e : t = s + 1 := by omega
      have hv := HVal.out s (by omega)
      have hat := HRt.out.at hsN
      rw [hv.1, hv.2] at hat
      obtain ⟨A1, hA1⟩ : ∃ A, A = frA (mX z D s) L := ⟨_, rfl⟩
      obtain ⟨B1, hB1⟩ : ∃ B, B = frB (mX z D s) L := ⟨_, rfl⟩
      have HAB : Hid (frA (mX z D s) L = A1 ∧ frB (mX z D s) L = B1) := ⟨hA1.symm, hB1.symm⟩
      rw [← hA1, ← hB1] at hat
      obtain ⟨q1, q2, q3, q4⟩ := hat
      obtain ⟨r1, r2, r3, r4⟩ := fr_cells ((HBl.out.block w.heap.size (by omega)).trans HRes.out)
      have hgt : (s : Int) < (t : Int) := by omega
      have hs0 : (0 : Int) ≤ (s : Int) := by omega
      clear hA1 hB1 hv e
      go_wp2
      exact bodyPost_ret (v := .agg #[.int .i64 A1, .int .i64 (B1 : Int)]) (by simp [results, Try.results24, go_sem, r1, r2]) rfl ⟨by rw [HAB.out.1, HAB.out.2], (HBw.out.setCell (by simp) _).setCell (by simp) _⟩
end Go.Proofs.Ytgednacoeifclaa
