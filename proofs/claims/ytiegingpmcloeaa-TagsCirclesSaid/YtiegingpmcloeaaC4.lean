import Derived.Test.YtiegingpmcloeaaC3
namespace Go.Proofs.Ytiegingpmcloeaa
open Go.RowKit

/-- What Circle tells of m places. -/
def FindC (N : Nat → QN) (s : Pl) (m : Nat) (ci cj e : Int) : Prop :=
  (e = 0 ∧ ∃ i j : Nat, ci = i ∧ cj = j ∧ i < j ∧ j < m ∧ isC N s i j = true ∧ (∀ j', j' < j → ∀ i', i' < j' → isC N s i' j' = false) ∧ ∀ i', i' < i → isC N s i' j = false) ∨
  (e = 4 ∧ ci = 0 ∧ cj = 0 ∧ ∀ j', j' < m → ∀ i', i' < j' → isC N s i' j' = false)

set_option maxRecDepth 100000 in
theorem circle_bad (M : Nat → Q) (n cap : Nat) (a : Option Addr) (x y : Int) (w : World) (hn : n ≤ 1000) (hr : (isM n M && decide ((0 ≤ x ∧ x ≤ 100) ∧ 0 ≤ y ∧ y ≤ 100)) = false) (hM : Ords w a n M) :
    Calls Try.prog 17 #[.slice a n cap, .agg #[.int .i64 x, .int .i64 y]] w fun r w' => r = .returned (.tuple #[.agg #[.int .i64 0, .int .i64 0], .int .i64 2]) ∧ Below w.heap.size w w' := by
  have HC := Lib.hid (fun o1 o2 => canRun_r false M n cap a x y ((w.alloc o1).alloc o2) hn hr (hM.keep (Nat.le_refl _) (two_le _ _ _)))
  clear hM hr
  go_enter Try.func17, Try.ntmps17
  go_wp2_with fail
  refine (HC.out _ _).mono ?_
  rintro r w2 ⟨rfl, hb2⟩
  have HB : Hid (Below w.heap.size w w2) := band (two_le _ _ _) hb2
  have k2 := (hb2.block (w.heap.size + 1) (by simp)).trans (heap_two2 w _ _)
  have l2 := (Array.getElem?_eq_some_iff.1 k2).1
  have x0 := block_cell k2 0
  have x1 := block_cell k2 1
  have f0 := block_free k2 0
  have f1 := block_free k2 1
  simp at x0 x1
  clear hb2 k2
  go_wp2
  exact bodyPost_ret (v := .tuple #[.agg #[.int .i64 0, .int .i64 0], .int .i64 2]) (by simp [results, Try.results17, go_sem, x0, x1]) rfl ⟨rfl, (HB.out.setCell (by simp) _).setCell (by simp) _⟩

set_option maxHeartbeats 2000000 in
set_option maxRecDepth 100000 in
theorem circle_good (N : Nat → QN) (n cap : Nat) (a : Option Addr) (x y : Nat) (w : World) (hN : okN n N) (hx : x ≤ 100) (hy : y ≤ 100) (hM : Ords w a n (fun k => (N k).z)) :
    Calls Try.prog 17 #[.slice a n cap, .agg #[.int .i64 x, .int .i64 y]] w fun r w' => (∃ ci cj e, r = .returned (.tuple #[.agg #[.int .i64 ci, .int .i64 cj], .int .i64 e]) ∧ FindC N ⟨0, x, y⟩ (dn N ⟨0, x, y⟩ 200 + 1) ci cj e) ∧ Below w.heap.size w w' := by
  have hn : n ≤ 1000 := by have := hN.few; omega
  have HC := Lib.hid (fun o1 o2 => canRun_r true (fun k => (N k).z) n cap a x y ((w.alloc o1).alloc o2) hn (by rw [okN_isM hN]; simp; omega) (hM.keep (Nat.le_refl _) (two_le _ _ _)))
  have HPl : Hid (∀ W, Below w.heap.size w W → Calls Try.prog 35 #[.slice a n cap, .agg #[.int .i64 x, .int .i64 y], .int .i64 200] W fun r w' => PpOut N ⟨0, x, y⟩ 200 W r w') :=
    fun W hW => places_any N n cap a x y 200 W hN hx hy (by omega) (hM.keep (Nat.le_refl _) hW)
  have hd := dn_le (N := N) (s := ⟨0, x, y⟩) 200
  have HIs := Lib.hid (fun W al cl i j (hW : Below w.heap.size w W) h1 h2 hP => iscircle_any N ⟨0, x, y⟩ n cap a W al (dn N ⟨0, x, y⟩ 200 + 1) cl i j (by omega) h1 h2 hN hN.pos (hM.keep (Nat.le_refl _) hW) hP)
  unfold PpOut at HPl
  generalize (⟨0, x, y⟩ : Pl) = s at *
  clear hM hN
  go_enter Try.func17, Try.ntmps17
  go_wp2_with fail
  refine (HC.out _ _).mono ?_
  rintro r w2 ⟨rfl, hb2⟩
  have HB := Lib.hid (band (two_le _ _ _) hb2)
  have k1 := (hb2.block w.heap.size (by simp; omega)).trans (heap_two1 w _ _)
  have k2 := (hb2.block (w.heap.size + 1) (by simp)).trans (heap_two2 w _ _)
  have l1 := (Array.getElem?_eq_some_iff.1 k1).1
  have x0 := block_cell k1 0
  have x1 := block_cell k1 1
  simp at x0 x1
  have HA2 := Lib.hid (At2.of k2)
  clear hb2 k1 k2
  go_wp2_with fail
  refine (HPl.out _ HB.out).mono ?_
  rintro r w3 ⟨v, rfl, hO, hb3⟩
  obtain ⟨al, cl, rfl, h1, h2, hC⟩ := own_pls hO
  have H1 := Lib.hid h1
  have H2 := Lib.hid h2
  have HC3 := Lib.hid hC
  have HB3 := Lib.hid (band HB.out hb3)
  have HA3 := Lib.hid (HA2.out.keep hb3)
  have HD := Lib.hid hd
  clear hO hb3 h2 hC
  generalize hm : dn N s 200 + 1 = m at *
  have hm2 : m ≤ 201 := by omega
  have HMm := Lib.hid hm
  clear hm hd
  go_wp2
  go_loopw [7, 8, 19] (fun _ _ t wr => ∃ J : Nat, t = .int .i64 J ∧ J ≤ m ∧ Below w.heap.size w wr ∧ Below w3.heap.size w3 wr ∧ At2 wr (w.heap.size + 1) (.int .i64 0) (.int .i64 0) ∧ Hid (∀ j', j' < J → ∀ i', i' < j' → isC N s i' j' = false)) (fun _ _ t _ => m - (intOf t).toNat)
  case atStart => exact ⟨0, rfl, Nat.zero_le _, HB3.out, Below.refl _ _, HA3.out, fun j' hj => absurd hj (Nat.not_lt_zero _)⟩
  case round =>
    obtain ⟨J, rfl, hJ, hBr, hBs, hAr, hall⟩ := hrel
    have HBr := Lib.hid hBr
    have HBs := Lib.hid hBs
    have HAr := Lib.hid hAr
    have hl2 := hAr.lt
    obtain ⟨z0, z1, zf0, zf1⟩ := hAr
    clear hBr hBs
    by_cases hJm : J < m
    · go_wp2
      go_loopw [8, 23] (fun _ t wq => ∃ I : Nat, t = .int .i64 I ∧ I ≤ J ∧ Below w.heap.size w wq ∧ Below w3.heap.size w3 wq ∧ At2 wq (w.heap.size + 1) (.int .i64 0) (.int .i64 0) ∧ Hid (∀ i', i' < I → isC N s i' J = false)) (fun _ t _ => J - (intOf t).toNat)
      case atStart => exact ⟨0, rfl, Nat.zero_le _, HBr.out, HBs.out, HAr.out, fun i' hi => absurd hi (Nat.not_lt_zero _)⟩
      case round =>
        obtain ⟨I, rfl, hI, hBq, hBt, hAq, hno⟩ := hrel
        have HBq := Lib.hid hBq
        have HBt := Lib.hid hBt
        have HAq := Lib.hid hAq
        clear hBq hBt hAq z0 z1 zf0 zf1 hl2
        by_cases hIJ : I < J
        · have hck : ckB N s m I J = isC N s I J := by unfold ckB; rw [decide_eq_true (by omega)]; simp
          cases hc : isC N s I J
          · rw [hc] at hck
            have HCk := Lib.hid hck
            have hno' : Hid (∀ i', i' < I + 1 → isC N s i' J = false) := by
              intro i' hi
              by_cases e : i' = I
              · subst e; exact hc
              · exact hno.out i' (by omega)
            clear hc hck
            go_wp2_with fail
            refine (HIs.out _ _ _ _ _ HBq.out H1.out H2.out (HC3.out.keep (Nat.le_refl _) HBt.out)).mono ?_
            rintro r w4 ⟨rfl, hb4⟩
            rw [HCk.out]
            have HB4 := Lib.hid (band HBq.out hb4)
            have HB5 := Lib.hid (band HBt.out hb4)
            have HA4 := Lib.hid (HAq.out.keep hb4)
            clear hb4
            go_wp2
            go_roundw
            case rel => exact ⟨I + 1, by go_num, by omega, HB4.out, HB5.out, HA4.out, hno'⟩
            case measure => simp [intOf]; omega
          · rw [hc] at hck
            have HCk := Lib.hid hck
            have HHc := Lib.hid hc
            clear hc hck
            go_wp2_with fail
            refine (HIs.out _ _ _ _ _ HBq.out H1.out H2.out (HC3.out.keep (Nat.le_refl _) HBt.out)).mono ?_
            rintro r w4 ⟨rfl, hb4⟩
            rw [HCk.out]
            have HB4 := Lib.hid (band HBq.out hb4)
            have hA4 := HAq.out.keep hb4
            have hl4 := hA4.lt
            obtain ⟨z0, z1, zf0, zf1⟩ := hA4
            clear hb4
            go_wp2
            exact bodyPost_ret (v := .tuple #[.agg #[.int .i64 I, .int .i64 J], .int .i64 0]) (by simp [results, Try.results17, go_sem, z0, z1]) rfl
              ⟨⟨I, J, 0, rfl, Or.inl ⟨rfl, I, J, rfl, rfl, hIJ, (by rw [HMm.out]; exact hJm), HHc.out, hall.out, hno.out⟩⟩, (HB4.out.setCell (by simp) _).setCell (by simp) _⟩
        · have e : I = J := by omega
          have hall' : Hid (∀ j', j' < J + 1 → ∀ i', i' < j' → isC N s i' j' = false) := by
            intro j' hj i' hi
            by_cases e2 : j' = J
            · subst e2; exact hno.out i' (by omega)
            · exact hall.out j' (by omega) i' hi
          have hge : ¬ ((I : Int) < (J : Int)) := by omega
          clear e
          go_wp2
          go_roundw
          case rel => exact ⟨J + 1, by go_num, by omega, HBq.out, HBt.out, HAq.out, hall'⟩
          case measure => simp [intOf]; omega
    · have e : J = m := by omega
      have E := Lib.hid e
      have hge : ¬ ((J : Int) < (m : Int)) := by omega
      clear e
      go_wp2
      exact bodyPost_ret (v := .tuple #[.agg #[.int .i64 0, .int .i64 0], .int .i64 4]) (by simp [results, Try.results17, go_sem, z0, z1]) rfl
        ⟨⟨0, 0, 4, rfl, Or.inr ⟨rfl, rfl, rfl, by rw [HMm.out, ← E.out]; exact hall.out⟩⟩, by first | exact (HBr.out.setCell (by simp) _).setCell (by simp) _ | exact HBr.out⟩

end Go.Proofs.Ytiegingpmcloeaa
