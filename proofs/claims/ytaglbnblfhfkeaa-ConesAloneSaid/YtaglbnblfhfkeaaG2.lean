import Derived.Test.YtaglbnblfhfkeaaG1
namespace Go.Proofs.Ytaglbnblfhfkeaa
open Go.RowKit

def BoolOut (r : Bool) (w : World) (e : Ending) (w' : World) : Prop := e = .returned (.bool r) ∧ Below w.heap.size w w'

theorem near_vecN {z : Nat → Int} {n : Nat} (h : allIn z n (-100) 100 = true) : near 1000000000 (vecN z n) := by
  have := vecN_near (B := 100) (by omega) h
  simp only [near] at *; omega
theorem near_small {v : Vec} (h : near 100 v) : near 1000000000 v := by simp only [near] at *; omega
theorem near_fits {x y : Vec} {B : Int} (_ : 0 ≤ B) (h : Vec.fits x y) (hy : near B y) : near B x := by simp only [near, Vec.fits, Vec.fit1] at *; omega

theorem eq_zero_run (r : Vec) (w : World) : (binOp .eql 61 (.agg #[.int .i64 (r).a, .int .i64 (r).b, .int .i64 (r).c, .int .i64 (r).d]) (.agg #[.int .i64 0, .int .i64 0, .int .i64 0, .int .i64 0])).run Try.prog w = .ok (.bool (decide (r = Vec.zero))) w := eql_vec_run r Vec.zero w

set_option maxHeartbeats 8000000 in
set_option maxRecDepth 100000 in
theorem isSplit_any (m : Mx) (asl : Option Addr) (c : Nat) (F : List Vec) (x : Vec) (al : Option Addr) (cl Rl : Nat) (A : Nat → Option Addr) (L C : Nat → Nat) (Z : Nat → Nat → Int) (w : World)
    (hm : m.ok) (hF : VecsAt w asl F) (hA : AllBasic m F) (hx : near 100 x) (hRl : Rl ≤ 140737488351232) (hl : Mat w al Rl A L C Z) :
    Calls Try.prog 73 #[.agg #[.int .i64 (m).r0.a, .int .i64 (m).r0.b, .int .i64 (m).r0.c, .int .i64 (m).r0.d, .int .i64 (m).r1.a, .int .i64 (m).r1.b, .int .i64 (m).r1.c, .int .i64 (m).r1.d, .int .i64 ((m).n : Int), .slice asl F.length c], .agg #[.int .i64 (x).a, .int .i64 (x).b, .int .i64 (x).c, .int .i64 (x).d], .slice al Rl cl] w fun e w' => BoolOut (chkB F m.n L Z x Rl) w e w' := by
  have hfl : F.length ≤ 20000000 := Nat.le_trans (hA.few hm) (by omega)
  have HF := Lib.hid hF
  have HM := Lib.hid hm
  have HL := Lib.hid hl
  have HA := Lib.hid hA
  have HX := Lib.hid hx
  have HC : Hid (Chk w ((w.alloc (.cells #[.int .i64 (m).r0.a, .int .i64 (m).r0.b, .int .i64 (m).r0.c, .int .i64 (m).r0.d, .int .i64 (m).r1.a, .int .i64 (m).r1.b, .int .i64 (m).r1.c, .int .i64 (m).r1.d, .int .i64 ((m).n : Int), .slice asl F.length c] 77)).alloc (.cells #[.int .i64 (x).a, .int .i64 (x).b, .int .i64 (x).c, .int .i64 (x).d] 61)) m (.slice asl F.length c) x) := ⟨heap_two1 _ _ _, heap_two2 _ _ _, below_two _ _ _⟩
  clear hF hm hl hA hx
  go_enter Try.func73, Try.ntmps73
  go_wp2
  go_loopw [13] (fun i wr => ∃ k : Nat, ∃ r : Vec, k ≤ Rl ∧ i = .int .i64 k ∧ Hid (runTo F m.n L Z x k = some r) ∧ Vec.fits r x ∧ Chk w wr m (.slice asl F.length c) r) (fun i _ => Rl - (intOf i).toNat)
  case atStart => exact ⟨0, x, Nat.zero_le _, rfl, rfl, Vec.fits_refl x, HC.out⟩
  case round =>
    obtain ⟨k, r, hk, rfl, HRun, hfit, hC⟩ := hrel
    obtain ⟨wo, hwo⟩ : ∃ wo : World, wo = wr := ⟨_, rfl⟩
    subst hwo
    have HC1 := Lib.hid hC
    have HFit := Lib.hid hfit
    have HRN : Hid (near 1000000000 r) := near_small (near_fits (by omega) hfit HX.out)
    clear HC hC hfit
    by_cases hlt : k < Rl
    · obtain ⟨b, o, rfl, hck⟩ := (HL.out.keep (Nat.le_refl _) HC1.out.below).row k hlt
      have HI := Lib.hid ((HL.out.keep (Nat.le_refl _) HC1.out.below).ints k hlt)
      have hcap := HL.out.cap k hlt
      have ct := task_cells HC1.out.task
      have c8 := vecS_cells HC1.out.box
      have hs1 := HC1.out.lt
      have hs0 : w.heap.size < wo.heap.size := by omega
      cases hok : (decide (L k = m.n) && allIn (Z k) m.n (-100) 100)
      · have HO := Lib.hid hok
        have HE : Hid (chkB F m.n L Z x Rl = false) := runTo_stop HRun.out hlt fun h => by
          rw [show okRow m.n L Z k = false from hok] at h; cases h.1
        clear hok
        go_wp2_with fail
        refine (mread_mx m _ _ _ _ _ _ false _ HM.out (by omega) HI.out HO.out).mono ?_
        rintro e w1 ⟨rfl, hb⟩
        have HB1 : Hid (Below w.heap.size w w1) := HC1.out.below.trans (hb.mono HC1.out.below.size)
        have hsz := HB1.out.size
        clear hb ct c8
        simp only [Bool.false_eq_true, if_false]
        go_wp2
        go_ret
        exact ⟨by rw [HE.out]; rfl, HB1.out.alloc hsz _⟩
      · have HO := Lib.hid hok
        have hvn : Hid (near 1000000000 (vecN (Z k) m.n)) := near_vecN (okRow_iff.1 hok).2
        clear hok
        go_wp2_with fail
        refine (mread_mx m _ _ _ _ _ _ true _ HM.out (by omega) HI.out HO.out).mono ?_
        rintro e w1 ⟨rfl, hb⟩
        have HC2 := Lib.hid (HC1.out.keep hb)
        have hs2 := HC2.out.lt
        have HC3 := Lib.hid (HC2.out.keep (below_alloc1 w1 (.cells #[.int .i64 (vecN (Z k) m.n).a, .int .i64 (vecN (Z k) m.n).b, .int .i64 (vecN (Z k) m.n).c, .int .i64 (vecN (Z k) m.n).d] 61)))
        clear hb ct c8
        have ct := task_cells HC2.out.task
        have c8 := vecS_cells HC2.out.box
        have hs0' : w.heap.size < w1.heap.size := by omega
        simp only [if_true]
        obtain ⟨v, hv⟩ : ∃ v, v = vecN (Z k) m.n := ⟨_, rfl⟩
        rw [← hv] at HC3 hvn ⊢
        have HV := Lib.hid hv
        clear hv
        by_cases hin : v ∈ F
        · have HIN := Lib.hid hin
          clear hin
          go_wp2_with fail
          refine (isBasic_any m _ _ F v true _ (HF.out.keep (Nat.le_refl _) HC3.out.below) hfl ⟨fun _ => HIN.out, fun _ => rfl⟩).mono ?_
          rintro e w2 ⟨rfl, hb2⟩
          have HC4 := Lib.hid (HC3.out.keep hb2)
          have Hv4 := Lib.hid ((hb2.block w1.heap.size (by simp)).trans (heap_alloc_new w1 (.cells #[.int .i64 (v).a, .int .i64 (v).b, .int .i64 (v).c, .int .i64 (v).d] 61)))
          clear hb2 ct c8
          have c8 := vecS_cells HC4.out.box
          have c9 := vecS_cells Hv4.out
          have hs4 := HC4.out.lt
          have hs5 : w1.heap.size < w2.heap.size := (Array.getElem?_eq_some_iff.1 Hv4.out).1
          by_cases hf : Vec.fits v r
          · have HFv := Lib.hid hf
            clear hf
            go_wp2_with fail
            refine (vfits_vec v r _ true ⟨fun _ => HFv.out, fun _ => rfl⟩).mono ?_
            rintro e w3 ⟨rfl, hb3⟩
            have HC5 := Lib.hid (HC4.out.keep hb3)
            have Hv5 := Lib.hid ((hb3.block _ hs5).trans Hv4.out)
            clear hb3 c8 c9
            have c8 := vecS_cells HC5.out.box
            have c9 := vecS_cells Hv5.out
            have hs6 := HC5.out.lt
            have hs7 : w1.heap.size < w3.heap.size := (Array.getElem?_eq_some_iff.1 Hv5.out).1
            go_wp2_with fail
            refine (vminus_any r v _ HRN.out hvn.out).mono ?_
            rintro e w4 ⟨rfl, hb4⟩
            have HC6 := Lib.hid (HC5.out.keep hb4)
            clear hb4 c8 c9
            have c8 := vecS_cells HC6.out.box
            have hs8 := HC6.out.lt
            have hs9 : w.heap.size < w4.heap.size := by omega
            have HRn : Hid (runTo F m.n L Z x (k + 1) = some (Vec.sub r v)) := by
              rw [Hid, HV.out]; exact runTo_step HRun.out HO.out (by rw [← HV.out]; exact HIN.out) (by rw [← HV.out]; exact HFv.out)
            go_wp2
            go_roundw
            case rel => exact ⟨k + 1, Vec.sub r v, by omega, by go_num, HRn, Vec.fits_trans (Vec.fits_sub HFv.out) HFit.out, ⟨(set4_other (by omega) _ _ _ _).trans HC6.out.task, set4_same HC6.out.box, below_set4' HC6.out.below (by omega) _ _ _ _⟩⟩
            case measure => simp [intOf]; omega
          · have HE : Hid (chkB F m.n L Z x Rl = false) := runTo_stop HRun.out hlt fun h => by
              rw [← HV.out] at h; exact hf h.2.2
            have HFv := Lib.hid hf
            clear hf
            go_wp2_with fail
            refine (vfits_vec v r _ false ⟨fun h => (by cases h), fun h => absurd h HFv.out⟩).mono ?_
            rintro e w3 ⟨rfl, hb3⟩
            have HB5 : Hid (Below w.heap.size w w3) := HC4.out.below.trans (hb3.mono HC4.out.below.size)
            clear hb3 c8 c9
            go_wp2
            go_ret
            exact ⟨by rw [HE.out]; rfl, HB5.out⟩
        · have HE : Hid (chkB F m.n L Z x Rl = false) := runTo_stop HRun.out hlt fun h => by
            rw [← HV.out] at h; exact hin h.2.1
          have HIN := Lib.hid hin
          clear hin
          go_wp2_with fail
          refine (isBasic_any m _ _ F v false _ (HF.out.keep (Nat.le_refl _) HC3.out.below) hfl ⟨fun h => (by cases h), fun h => absurd h HIN.out⟩).mono ?_
          rintro e w2 ⟨rfl, hb2⟩
          have HB4 : Hid (Below w.heap.size w w2) := HC3.out.below.trans (hb2.mono HC3.out.below.size)
          clear hb2 ct c8
          go_wp2
          go_ret
          exact ⟨by rw [HE.out]; rfl, HB4.out⟩
    · have e : k = Rl := by omega
      subst e
      have c8 := vecS_cells HC1.out.box
      have hs1 := HC1.out.lt
      have HE : Hid (chkB F m.n L Z x k = decide (r = Vec.zero)) := by
        simp only [Hid, chkB, HRun.out, Option.some.injEq]
      have HB := Lib.hid HC1.out.below
      have he := eq_zero_run r
      go_wp2
      go_ret
      exact ⟨by rw [HE.out]; rfl, HB.out⟩
end Go.Proofs.Ytaglbnblfhfkeaa
