import Derived.Test.YtaglbnblfhfkeaaE7
namespace Go.Proofs.Ytaglbnblfhfkeaa
open Go.RowKit

def pureOf (l : List Vec) : List Vec := l.filter fun v => decide (Whole v)
theorem pureOf_snoc {l : List Vec} {v : Vec} : pureOf (l ++ [v]) = if Whole v then pureOf l ++ [v] else pureOf l := by
  unfold pureOf; rw [List.filter_append]; by_cases h : Whole v <;> simp [h]
theorem pureOf_len {l : List Vec} : (pureOf l).length ≤ l.length := List.length_filter_le _ _

def PureOut (w : World) (F : List Vec) (e : Ending) (w' : World) : Prop := ∃ val, e = .returned val ∧ OwnV w' w.heap.size val (pureOf F) ∧ Below w.heap.size w w'

set_option maxHeartbeats 4000000 in
set_option maxRecDepth 100000 in
theorem tpure_any (m : Mx) (a : Option Addr) (c : Nat) (F : List Vec) (w : World) (hF : VecsAt w a F) (hl : F.length ≤ 20000000) :
    Calls Try.prog 66 #[.agg #[.int .i64 (m).r0.a, .int .i64 (m).r0.b, .int .i64 (m).r0.c, .int .i64 (m).r0.d, .int .i64 (m).r1.a, .int .i64 (m).r1.b, .int .i64 (m).r1.c, .int .i64 (m).r1.d, .int .i64 ((m).n : Int), .slice a F.length c]] w fun e w' => PureOut w F e w' := by
  have H := Lib.hid hF
  have HB0 := Lib.hid ((Below.refl w.heap.size w).alloc (Nat.le_refl _) (.cells #[.int .i64 (m).r0.a, .int .i64 (m).r0.b, .int .i64 (m).r0.c, .int .i64 (m).r0.d, .int .i64 (m).r1.a, .int .i64 (m).r1.b, .int .i64 (m).r1.c, .int .i64 (m).r1.d, .int .i64 ((m).n : Int), .slice a F.length c] 77))
  clear hF
  go_enter Try.func66, Try.ntmps66
  go_wp2
  obtain ⟨W0, hW0⟩ : ∃ W0, W0 = w.alloc (.cells #[.int .i64 (m).r0.a, .int .i64 (m).r0.b, .int .i64 (m).r0.c, .int .i64 (m).r0.d, .int .i64 (m).r1.a, .int .i64 (m).r1.b, .int .i64 (m).r1.c, .int .i64 (m).r1.d, .int .i64 ((m).n : Int), .slice a F.length c] 77) := ⟨_, rfl⟩
  rw [← hW0]
  have HB1 : Hid (Below w.heap.size w W0) := by rw [hW0]; exact HB0.out
  clear hW0 HB0
  go_loopw [3, 9] (fun val i wr => ∃ k : Nat, k ≤ F.length ∧ i = .int .i64 k ∧ OwnV wr w.heap.size val (pureOf (F.take k)) ∧ Below w.heap.size w wr) (fun _ i _ => F.length - (intOf i).toNat)
  case atStart => exact ⟨0, Nat.zero_le _, rfl, OwnV.nil _ _, HB1.out⟩
  case round =>
    obtain ⟨k, hk, rfl, hO, hb⟩ := hrel
    have HO := Lib.hid hO
    have HB := Lib.hid hb
    by_cases hlt : k < F.length
    · obtain ⟨wo, hwo⟩ : ∃ wo : World, wo = wr := ⟨_, rfl⟩
      subst hwo
      obtain ⟨x, hx⟩ : ∃ x, F[k]? = some x := ⟨_, List.getElem?_eq_getElem (by omega)⟩
      obtain ⟨bx, rfl, d0, d1, d2, d3⟩ := (H.out.keep (Nat.le_refl _) hb) k x hx
      have HT : Hid (pureOf (F.take (k + 1)) = if Whole x then pureOf (F.take k) ++ [x] else pureOf (F.take k)) := by
        simp only [Hid]; rw [List.take_add_one, hx]; exact pureOf_snoc
      have hol : (pureOf (F.take k)).length ≤ 20000000 := Nat.le_trans pureOf_len (by rw [List.length_take]; omega)
      have hsz := hb.size
      clear hO hb hx
      by_cases hw : Whole x
      · have Hc := Lib.hid (whole_yes x (wo.alloc (.cells #[.int .i64 (x).a, .int .i64 (x).b, .int .i64 (x).c, .int .i64 (x).d] 61)) hw)
        have HW := Lib.hid hw
        clear hw
        go_wp2_with fail
        refine Hc.out.mono ?_
        rintro e w3 ⟨rfl, hb3⟩
        have HO3 := Lib.hid (HO.out.keep (((Below.refl _ wo).alloc (Nat.le_refl _) (.cells #[.int .i64 (x).a, .int .i64 (x).b, .int .i64 (x).c, .int .i64 (x).d] 61)).trans (hb3.mono (by simp))))
        have HB3 : Hid (Below w.heap.size w w3) := (HB.out.alloc hsz _).trans (hb3.mono (by simp; omega))
        have c3 := vecS_cells ((hb3.block wo.heap.size (by simp)).trans (heap_alloc_new wo _))
        have hsz3 : wo.heap.size < w3.heap.size := by have := hb3.size; simp at this; omega
        clear hb3 Hc d0 d1 d2 d3
        generalize hL1 : pureOf (F.take k) = L1 at HO3 hol HT
        clear hL1
        obtain ⟨i0, hi, hz0, hz1, hz2⟩ := info_parts Try.info61
        go_wp2_with (at_builtin; refine wpList_append_where _ rfl _ _ 67 rfl w.heap.size 61 i0 (.agg #[.int .i64 0, .int .i64 0, .int .i64 0, .int .i64 0]) 4 32 Try.underlying67 hi hz0 hz1 hz2 rfl (by decide) _ _ _ rfl (HO3.out.alloc _) ⟨w3.heap.size, 0, none⟩ 1 1 (vcell x) rfl rfl (four_new _ _ _) (four_ok _) (by omega) (by unfold maxLen; omega) (by omega) (by simp; omega) ?_)
        intro v' w5 hown hgrow hwhere
        have HO5 : Hid (OwnV w5 w.heap.size v' (pureOf (F.take (k + 1)))) := by
          simp only [Hid]; rw [HT.out, if_pos HW.out]; exact OwnV.snoc hown
        have HB5 : Hid (Below w.heap.size w w5) := (HB3.out.alloc HB3.out.size _).grown hgrow (by simp; omega) (fun k hk => (World.ownsRow.lt HO3.out k hk).1)
        clear hown hgrow hwhere c3
        go_wp2
        go_roundw
        case rel => exact ⟨k + 1, by omega, by go_num, HO5.out, HB5.out⟩
        case measure => simp [intOf]; omega
      · have Hc := Lib.hid (whole_no x (wo.alloc (.cells #[.int .i64 (x).a, .int .i64 (x).b, .int .i64 (x).c, .int .i64 (x).d] 61)) hw)
        have HW := Lib.hid hw
        clear hw
        go_wp2_with fail
        refine Hc.out.mono ?_
        rintro e w3 ⟨rfl, hb3⟩
        have HO3 : Hid (OwnV w3 w.heap.size u3 (pureOf (F.take (k + 1)))) := by
          simp only [Hid]; rw [HT.out, if_neg HW.out]
          exact HO.out.keep (((Below.refl _ wo).alloc (Nat.le_refl _) (.cells #[.int .i64 (x).a, .int .i64 (x).b, .int .i64 (x).c, .int .i64 (x).d] 61)).trans (hb3.mono (by simp)))
        have HB3 : Hid (Below w.heap.size w w3) := (HB.out.alloc hsz _).trans (hb3.mono (by simp; omega))
        clear hb3 Hc d0 d1 d2 d3
        go_wp2
        go_roundw
        case rel => exact ⟨k + 1, by omega, by go_num, HO3.out, HB3.out⟩
        case measure => simp [intOf]; omega
    · have e : k = F.length := by omega
      have HO2 : Hid (OwnV wr w.heap.size u3 (pureOf F)) := by
        simp only [Hid]; rw [e, List.take_of_length_le (Nat.le_refl _)] at hO; exact hO
      clear hO hb
      subst e
      go_wp2
      go_ret
      exact ⟨_, rfl, HO2.out, HB.out⟩

def PureOutL (m : Mx) (w : World) (e : Ending) (w' : World) : Prop := ∃ a' c' F, e = .returned (.tuple #[.slice a' (pureOf F).length c', .int .i64 0]) ∧ VL w' a' m.n (pureOf F) ∧ AllBasic m F ∧ Below w.heap.size w w'

theorem below4 {w W1 wc wd we : World} (h1 : Below w.heap.size w W1) (h2 : Below W1.heap.size W1 wc) (h3 : Below wc.heap.size wc wd) (h4 : Below wd.heap.size wd we) : Below w.heap.size w we :=
  (below3 h1 h2 h3).trans (h4.mono (Nat.le_trans h1.size (Nat.le_trans h2.size h3.size)))

set_option maxHeartbeats 4000000 in
set_option maxRecDepth 100000 in
theorem fPure_core (m : Mx) (arg : Value) (w : World) (hm : m.ok) (Hr : Calls Try.prog 62 #[arg] w fun e w' => ReadsMx m w e w') :
    Calls Try.prog 26 #[arg] w fun e w' => PureOutL m w e w' := by
  have hn4 := hm.n4
  have HM := Lib.hid hm
  have HR := Lib.hid Hr
  clear hm Hr
  go_enter Try.func26, Try.ntmps26
  go_wp2_with fail
  refine HR.out.mono ?_
  rintro e w1 ⟨rfl, hb⟩
  have HB := Lib.hid hb
  have hsz := hb.size
  clear hb HR
  go_wp2
  go_region_with (first
    | (go_at_call 65; refine (newTask_any m _ HM.out).mono ?_; rintro e wc ⟨a1, c1, F, rfl, hO, hA, hb1⟩; have HA := Lib.hid hA; have HO := Lib.hid hO; have HB1 := Lib.hid hb1; have q := matS_cells ((hb1.block w1.heap.size (by simp)).trans (heap_alloc_new w1 (.cells #[.int .i64 (m).r0.a, .int .i64 (m).r0.b, .int .i64 (m).r0.c, .int .i64 (m).r0.d, .int .i64 (m).r1.a, .int .i64 (m).r1.b, .int .i64 (m).r1.c, .int .i64 (m).r1.d, .int .i64 ((m).n : Int)] 64))); clear hO hA hb1)
    | (go_at_call 66; refine (tpure_any m _ _ F _ HO.out.vecs (Nat.le_trans (HA.out.few HM.out) (by omega))).mono ?_; rintro e wd ⟨val, rfl, hP, hb2⟩; obtain ⟨a2, c2, rfl, hV, hv1, hv2⟩ := hP.read; have HV := Lib.hid hV; have HB2 := Lib.hid hb2; have q2 := matS_cells ((hb2.block w1.heap.size (by have := HB1.out.size; simp at this; omega)).trans ((HB1.out.block w1.heap.size (by simp)).trans (heap_alloc_new w1 (.cells #[.int .i64 (m).r0.a, .int .i64 (m).r0.b, .int .i64 (m).r0.c, .int .i64 (m).r0.d, .int .i64 (m).r1.a, .int .i64 (m).r1.b, .int .i64 (m).r1.c, .int .i64 (m).r1.d, .int .i64 ((m).n : Int)] 64)))); clear hP hV hv1 hv2 hb2)
    | (go_at_call 63; refine (lists_any m _ _ _ _ hn4 HV.out (Nat.le_trans (Nat.le_trans pureOf_len (HA.out.few HM.out)) (by omega))).mono ?_; rintro e we ⟨a3, c3, rfl, hVL, hb3⟩; have HVL := Lib.hid hVL; have HB3 := Lib.hid hb3; clear hVL hb3))
  all_goals (go_wp2; go_ret2; exact ⟨a3, c3, F, rfl, HVL.out, HA.out, below4 ((HB.out.alloc hsz _).drew) HB1.out HB2.out HB3.out⟩)

set_option maxHeartbeats 4000000 in
set_option maxRecDepth 100000 in
theorem fPure_fails (arg : Value) (w : World) (Hr : Calls Try.prog 62 #[arg] w fun e w' => SomeMat w e w') : Calls Try.prog 26 #[arg] w fun e w' => Fails w e w' := by
  have HR := Lib.hid Hr
  clear Hr
  go_enter Try.func26, Try.ntmps26
  go_wp2_with fail
  refine HR.out.mono ?_
  rintro e w1 ⟨r0, r1, c, rfl, hb⟩
  have HB := Lib.hid (hb.alloc hb.size (.cells #[.int .i64 (r0 0), .int .i64 (r0 1), .int .i64 (r0 2), .int .i64 (r0 3), .int .i64 (r1 0), .int .i64 (r1 1), .int .i64 (r1 2), .int .i64 (r1 3), .int .i64 c] 64))
  clear hb
  go_wp2
  go_ret2
  exact ⟨rfl, HB.out⟩

theorem fPure_yes (a : Option Addr) (cap R : Nat) (A : Nat → Option Addr) (L C : Nat → Nat) (Z : Nat → Nat → Int) (w : World) (hm : Mat w a R A L C Z) (hr : isMat R L Z = true) :
    Calls Try.prog 26 #[.slice a R cap] w fun e w' => PureOutL (mxOf R L Z) w e w' := fPure_core _ _ w (mxOf_ok hr) (readMatrix_mx a cap R A L C Z w hm hr)
theorem fPure_no (a : Option Addr) (cap R : Nat) (A : Nat → Option Addr) (L C : Nat → Nat) (Z : Nat → Nat → Int) (w : World) (hs : R ≤ 140737488351232) (hm : Mat w a R A L C Z) (hr : isMat R L Z = false) :
    Calls Try.prog 26 #[.slice a R cap] w fun e w' => Fails w e w' := fPure_fails _ w (readMatrix_false a cap R A L C Z w hs hm hr)
end Go.Proofs.Ytaglbnblfhfkeaa
