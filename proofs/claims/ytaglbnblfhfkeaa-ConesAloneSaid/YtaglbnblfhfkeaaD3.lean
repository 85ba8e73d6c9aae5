import Derived.Test.YtaglbnblfhfkeaaD2
import Derived.Deep.DeepCutAuto
namespace Go.Proofs.Ytaglbnblfhfkeaa
open Go.RowKit

theorem Try.info61 : (Try.prog.info? 61).map (fun i => (i.zero, i.size, i.bytes)) = some (some (.agg #[.int .i64 0, .int .i64 0, .int .i64 0, .int .i64 0]), 4, 32) := by kernel_rfl

def vcell (v : Vec) : List Value := [.int .i64 v.a, .int .i64 v.b, .int .i64 v.c, .int .i64 v.d]

/-- A row of vectors of the call's own. -/
def OwnV (w : World) (base : Nat) (val : Value) (l : List Vec) : Prop := w.ownsRow base 61 4 val l.length (l.flatMap vcell)

theorem OwnV.keep {w w' : World} {base : Nat} {val : Value} {l : List Vec} (h : OwnV w base val l) (hb : Below w.heap.size w w') : OwnV w' base val l := ownsRow_below h hb
theorem OwnV.mono {w : World} {base base' : Nat} {val : Value} {l : List Vec} (h : OwnV w base val l) (hb : base' ≤ base) : OwnV w base' val l := by
  refine ⟨h.1, ?_⟩
  rcases h.2 with hn | ⟨g, cap', cur, he, hg, r⟩
  · exact Or.inl hn
  · exact Or.inr ⟨g, cap', cur, he, Nat.le_trans hb hg, r⟩
theorem OwnV.nil (w : World) (base : Nat) : OwnV w base (.slice none 0 0) [] := World.ownsRow_nil _ _ _ _
theorem OwnV.snoc {w : World} {base : Nat} {val : Value} {l : List Vec} {v : Vec} (h : w.ownsRow base 61 4 val (l.length + 1) (l.flatMap vcell ++ vcell v)) : OwnV w base val (l ++ [v]) := by
  simpa [OwnV] using h

theorem four_new (w : World) (v : Vec) (T : TypeId) : ∀ j u, (vcell v)[j]? = some u → (w.alloc (.cells #[.int .i64 (v).a, .int .i64 (v).b, .int .i64 (v).c, .int .i64 (v).d] T)).cell? ((⟨w.heap.size, 0, none⟩ : Addr).add j) = some u := by
  intro j u hj
  rw [add_at, World.cell?_alloc_at _ _ _ _ rfl]
  match j, hj with
  | 0, hj => simpa [vcell] using hj
  | 1, hj => simpa [vcell] using hj
  | 2, hj => simpa [vcell] using hj
  | 3, hj => simpa [vcell] using hj
  | _ + 4, hj => simp [vcell] at hj
theorem four_ok (v : Vec) : ∀ u ∈ vcell v, u.oneCell' = true := by
  intro u hu
  simp [vcell] at hu
  rcases hu with rfl | rfl | rfl | rfl <;> rfl

/-- The steps from v, by column. -/
def stepAt (m : Mx) (v : Vec) (j : Nat) : List Vec :=
  if turn m v j < 0 then (if 0 ≤ v.at' j then [stepTo v j 1] else []) else if 0 < turn m v j then (if v.at' j ≤ 0 then [stepTo v j (-1)] else []) else []
def stepsTo (m : Mx) (v : Vec) : Nat → List Vec
  | 0 => []
  | k + 1 => stepsTo m v k ++ stepAt m v k

theorem mem_stepsTo {m : Mx} {v w : Vec} : ∀ {k : Nat}, w ∈ stepsTo m v k ↔ ∃ j, j < k ∧ ((turn m v j < 0 ∧ 0 ≤ v.at' j ∧ w = stepTo v j 1) ∨ (0 < turn m v j ∧ v.at' j ≤ 0 ∧ w = stepTo v j (-1)))
  | 0 => by simp [stepsTo]
  | k + 1 => by
    rw [stepsTo, List.mem_append, mem_stepsTo]
    have : w ∈ stepAt m v k ↔ ((turn m v k < 0 ∧ 0 ≤ v.at' k ∧ w = stepTo v k 1) ∨ (0 < turn m v k ∧ v.at' k ≤ 0 ∧ w = stepTo v k (-1))) := by
      unfold stepAt
      by_cases h1 : turn m v k < 0
      · have h3 : ¬ 0 < turn m v k := by omega
        by_cases h2 : 0 ≤ v.at' k <;> simp [h1, h2, h3]
      · by_cases h3 : 0 < turn m v k
        · by_cases h4 : v.at' k ≤ 0 <;> simp [h1, h3, h4]
        · simp [h1, h3]
    rw [this]
    constructor
    · rintro (⟨j, hj, h⟩ | h)
      · exact ⟨j, by omega, h⟩
      · exact ⟨k, by omega, h⟩
    · rintro ⟨j, hj, h⟩
      by_cases e : j = k
      · subst e; exact Or.inr h
      · exact Or.inl ⟨j, by omega, h⟩
theorem mem_steps {m : Mx} {v w : Vec} : w ∈ stepsTo m v m.n ↔ isStep m v w := mem_stepsTo
theorem stepsTo_len {m : Mx} {v : Vec} : ∀ k, (stepsTo m v k).length ≤ k
  | 0 => by simp [stepsTo]
  | k + 1 => by
    have := stepsTo_len (m := m) (v := v) k
    have h : (stepAt m v k).length ≤ 1 := by unfold stepAt; repeat' split
                                             all_goals simp
    simp only [stepsTo, List.length_append]; omega

theorem bcell {W w1 : World} (hb : Below W.heap.size W w1) : (∀ b o, b < W.heap.size → w1.cell? ⟨b, o, none⟩ = W.cell? ⟨b, o, none⟩) ∧ (∀ b o, b < W.heap.size → w1.frozen? ⟨b, o, none⟩ = W.frozen? ⟨b, o, none⟩) :=
  ⟨fun b o h => hb.cell (p := ⟨b, o, none⟩) h, fun b o h => hb.frozen (p := ⟨b, o, none⟩) h⟩

theorem dot_near {r v : Vec} (hr : low r.a ∧ low r.b ∧ low r.c ∧ low r.d) {B : Int} (hv : near B v) : -(8 * B) ≤ Vec.dot r v ∧ Vec.dot r v ≤ 8 * B := by
  have h1 := low_mul hr.1 hv.1; have h2 := low_mul hr.2.1 hv.2.1; have h3 := low_mul hr.2.2.1 hv.2.2.1; have h4 := low_mul hr.2.2.2 hv.2.2.2
  simp only [Vec.dot]; omega

theorem matS_cells {w : World} {b : Nat} {m : Mx} {T : TypeId} (h : w.heap[b]? = some (.cells #[.int .i64 (m).r0.a, .int .i64 (m).r0.b, .int .i64 (m).r0.c, .int .i64 (m).r0.d, .int .i64 (m).r1.a, .int .i64 (m).r1.b, .int .i64 (m).r1.c, .int .i64 (m).r1.d, .int .i64 ((m).n : Int)] T)) :
    w.cell? ⟨b, 0, none⟩ = some (.int .i64 m.r0.a) ∧ w.cell? ⟨b, 1, none⟩ = some (.int .i64 m.r0.b) ∧ w.cell? ⟨b, 2, none⟩ = some (.int .i64 m.r0.c) ∧ w.cell? ⟨b, 3, none⟩ = some (.int .i64 m.r0.d) ∧
    w.cell? ⟨b, 4, none⟩ = some (.int .i64 m.r1.a) ∧ w.cell? ⟨b, 5, none⟩ = some (.int .i64 m.r1.b) ∧ w.cell? ⟨b, 6, none⟩ = some (.int .i64 m.r1.c) ∧ w.cell? ⟨b, 7, none⟩ = some (.int .i64 m.r1.d) ∧
    w.cell? ⟨b, 8, none⟩ = some (.int .i64 (m.n : Int)) ∧ ∀ j, w.frozen? ⟨b, j, none⟩ = false :=
  ⟨block_cell h 0, block_cell h 1, block_cell h 2, block_cell h 3, block_cell h 4, block_cell h 5, block_cell h 6, block_cell h 7, block_cell h 8, block_free h⟩

set_option maxHeartbeats 8000000 in
set_option maxRecDepth 100000 in
theorem msteps_any (m : Mx) (v : Vec) (w : World) (hm : m.ok) (hv : near 1000 v) :
    Calls Try.prog 111 #[.agg #[.int .i64 (m).r0.a, .int .i64 (m).r0.b, .int .i64 (m).r0.c, .int .i64 (m).r0.d, .int .i64 (m).r1.a, .int .i64 (m).r1.b, .int .i64 (m).r1.c, .int .i64 (m).r1.d, .int .i64 ((m).n : Int)], .agg #[.int .i64 (v).a, .int .i64 (v).b, .int .i64 (v).c, .int .i64 (v).d]] w fun e w' => ∃ val, e = .returned val ∧ OwnV w' w.heap.size val (stepsTo m v m.n) ∧ Below w.heap.size w w' := by
  have hn4 := hm.n4
  have hnz : near 1000000000 v := by simp only [near] at *; omega
  have main := Lib.hid (mtimes_any m v ((w.alloc (.cells #[.int .i64 (m).r0.a, .int .i64 (m).r0.b, .int .i64 (m).r0.c, .int .i64 (m).r0.d, .int .i64 (m).r1.a, .int .i64 (m).r1.b, .int .i64 (m).r1.c, .int .i64 (m).r1.d, .int .i64 ((m).n : Int)] 64)).alloc (.cells #[.int .i64 (v).a, .int .i64 (v).b, .int .i64 (v).c, .int .i64 (v).d] 61)) hm hnz)
  have HM := Lib.hid hm
  have HV := Lib.hid hv
  clear hm hnz hv
  go_enter Try.func111, Try.ntmps111
  go_wp2_with fail
  refine main.out.mono ?_
  rintro e w1 ⟨rfl, hb⟩
  have hm1 := (hb.block w.heap.size (by simp; omega)).trans (heap_two1 w _ _)
  have hv1 := (hb.block (w.heap.size + 1) (by simp)).trans (heap_two2 w _ _)
  have HB1 : Hid (Below w.heap.size w w1) := (below_two w _ _).trans (hb.mono (by simp; omega))
  have hs1 : w.heap.size + 1 < w1.heap.size := (Array.getElem?_eq_some_iff.1 hv1).1
  have hs0 : w.heap.size < w1.heap.size := by omega
  have HM1 := Lib.hid hm1
  have HV1 := Lib.hid hv1
  have c0 : w1.cell? ⟨w.heap.size, 8, none⟩ = some (.int .i64 (m.n : Int)) := block_cell hm1 8
  clear hb hm1 hv1 main
  go_wp2
  obtain ⟨W0, hW0⟩ : ∃ W0, W0 = w1.alloc (.cells #[.int .i64 (Vec.dot m.r0 v), .int .i64 (Vec.dot m.r1 v)] 96) := ⟨_, rfl⟩
  rw [← hW0]
  have hp0 : W0.heap[w1.heap.size]? = some (.cells #[.int .i64 (Vec.dot m.r0 v), .int .i64 (Vec.dot m.r1 v)] 96) := by rw [hW0]; exact heap_alloc_new w1 _
  have hm0 : W0.heap[w.heap.size]? = some (.cells #[.int .i64 (m).r0.a, .int .i64 (m).r0.b, .int .i64 (m).r0.c, .int .i64 (m).r0.d, .int .i64 (m).r1.a, .int .i64 (m).r1.b, .int .i64 (m).r1.c, .int .i64 (m).r1.d, .int .i64 ((m).n : Int)] 64) := by rw [hW0, Below.heap_alloc _ _ _ hs0]; exact HM1.out
  have hv0 : W0.heap[w.heap.size + 1]? = some (.cells #[.int .i64 (v).a, .int .i64 (v).b, .int .i64 (v).c, .int .i64 (v).d] 61) := by rw [hW0, Below.heap_alloc _ _ _ hs1]; exact HV1.out
  have hsz0 : W0.heap.size = w1.heap.size + 1 := by rw [hW0]; simp
  have HB0 : Hid (Below w.heap.size w W0) := by rw [hW0]; exact HB1.out.alloc (by omega) _
  have Hp0 := Lib.hid hp0
  have Hm0 := Lib.hid hm0
  have Hv0 := Lib.hid hv0
  have Hsz0 := Lib.hid hsz0
  clear hW0 hp0 hm0 hv0 hsz0 c0 HM1 HV1
  go_loopw [5, 14] (fun val i wr => ∃ k : Nat, k ≤ m.n ∧ i = .int .i64 k ∧ OwnV wr (w1.heap.size + 1) val (stepsTo m v k) ∧ Below (w1.heap.size + 1) W0 wr) (fun _ i _ => m.n - (intOf i).toNat)
  case atStart => exact ⟨0, Nat.zero_le _, rfl, OwnV.nil _ _, Below.refl _ _⟩
  case round =>
    obtain ⟨k, hk, rfl, hO, hb⟩ := hrel
    have HO := Lib.hid hO
    have HB2 := Lib.hid hb
    have hmr := (hb.block w.heap.size (by omega)).trans Hm0.out
    have hvr := (hb.block (w.heap.size + 1) (by omega)).trans Hv0.out
    have hpr := (hb.block w1.heap.size (by omega)).trans Hp0.out
    have hsr2 : w1.heap.size < wr.heap.size := (Array.getElem?_eq_some_iff.1 hpr).1
    have hsr1 : w.heap.size + 1 < wr.heap.size := by omega
    have hsr0 : w.heap.size < wr.heap.size := by omega
    by_cases hlt : k < m.n
    · have c0 := matS_cells hmr
      have c1 := vecS_cells hvr
      have c2 := prod_cells hpr
      have Hvr := Lib.hid hvr
      clear hO hb hmr hvr hpr
      have hk4 : k < 4 := by omega
      obtain ⟨wo, hwo⟩ : ∃ wo : World, wo = wr := ⟨_, rfl⟩
      subst hwo
      have hst : stepsTo m v (k + 1) = stepsTo m v k ++ stepAt m v k := rfl
      have Hst := Lib.hid hst
      clear hst
      have hsm : small2 (Vec.dot m.r0 v) (Vec.dot m.r1 v) := by
        have h0 := dot_near HM.out.r0 HV.out; have h1 := dot_near HM.out.r1 HV.out
        simp only [small2]; omega
      have hlo0 := low_at HM.out.r0 k
      have hlo1 := low_at HM.out.r1 k
      go_upto_region 6 with fail
      go_cut [8] (fun s8 wx => s8 = .int .i64 (turn m v k) ∧ Below wo.heap.size wo wx)
      case first =>
        go_region_with (first
          | (go_at_call 119; refine (mcolumn_any _ _ _ hk4).mono ?_; rintro e wc ⟨rfl, hbc⟩; have q0 := (hbc.cell (p := ⟨w1.heap.size, 0, none⟩) (by simp; omega)).trans (show _ = some (.int .i64 (Vec.dot m.r0 v)) by simpa using c2.1); have q1 := (hbc.cell (p := ⟨w1.heap.size, 1, none⟩) (by simp; omega)).trans (show _ = some (.int .i64 (Vec.dot m.r1 v)) by simpa using c2.2.1))
          | (go_at_call 118; refine (pdot_any _ _ _ _ _ hsm hlo0 hlo1).mono ?_; rintro e wd ⟨rfl, hbd⟩))
        all_goals
          go_wp2_with fail
          go_meet
          exact ⟨rfl, ((Below.refl _ wo).drew.trans hbc).trans (hbd.mono hbc.size)⟩
      case rest =>
        obtain ⟨rfl, hbw⟩ := hcut
        have hvw := (hbw.block (w.heap.size + 1) hsr1).trans Hvr.out
        have c3 := vecS_cells hvw
        have HB3 : Hid (Below (w1.heap.size + 1) W0 wc) := HB2.out.trans (hbw.mono (by omega))
        have HO3 := Lib.hid (HO.out.keep hbw)
        have hsw : w1.heap.size + 1 ≤ wc.heap.size := by have := hbw.size; omega
        have hsw1 : w.heap.size + 1 < wc.heap.size := by omega
        clear c0 c1 c2 hvw hbw
        have HVB : Hid (near 1000000000 v) := by have := HV.out; simp only [Hid, near] at *; omega
        have hlen := stepsTo_len (m := m) (v := v) k
        obtain ⟨T, hT⟩ : ∃ T, T = turn m v k := ⟨_, rfl⟩
        rw [← hT]
        have hcase : (T < 0 ∧ 0 ≤ v.at' k ∧ stepAt m v k = [stepTo v k 1]) ∨ (0 < T ∧ v.at' k ≤ 0 ∧ stepAt m v k = [stepTo v k (-1)]) ∨ (T < 0 ∧ v.at' k < 0 ∧ stepAt m v k = []) ∨ (0 < T ∧ 0 < v.at' k ∧ stepAt m v k = []) ∨ (0 ≤ T ∧ T ≤ 0 ∧ stepAt m v k = []) := by
          rcases Int.lt_trichotomy T 0 with h | h | h
          · by_cases h2 : 0 ≤ v.at' k
            · exact Or.inl ⟨h, h2, by rw [hT] at h; simp [stepAt, h, h2]⟩
            · exact Or.inr (Or.inr (Or.inl ⟨h, by omega, by rw [hT] at h; simp [stepAt, h, h2]⟩))
          · exact Or.inr (Or.inr (Or.inr (Or.inr ⟨by omega, by omega, by rw [hT] at h; simp [stepAt, h]⟩)))
          · have h3 : ¬ T < 0 := by omega
            by_cases h2 : v.at' k ≤ 0
            · exact Or.inr (Or.inl ⟨h, h2, by rw [hT] at h h3; simp [stepAt, h, h2, h3]⟩)
            · exact Or.inr (Or.inr (Or.inr (Or.inl ⟨h, by omega, by rw [hT] at h h3; simp [stepAt, h, h2, h3]⟩)))
        clear hT hsm hlo0 hlo1
        have hk5 : k = 0 ∨ k = 1 ∨ k = 2 ∨ k = 3 := by omega
        rcases hk5 with rfl | rfl | rfl | rfl
        · rcases hcase with ⟨hT1, hT2, hsa⟩ | ⟨hT1, hT2, hsa⟩ | ⟨hT1, hT2, hsa⟩ | ⟨hT1, hT2, hsa⟩ | ⟨hT1, hT2, hsa⟩
          · have Hsa := Lib.hid hsa
            clear hsa
            simp only [Vec.at'] at hT2
            go_wp2_with fail
            refine (vstep_any v 0 1 _ (by omega) (by omega) HVB.out).mono ?_
            rintro e w4 ⟨rfl, hb4⟩
            have HB4 : Hid (Below (w1.heap.size + 1) W0 w4) := HB3.out.trans (hb4.mono hsw)
            have HO4 := Lib.hid (HO3.out.keep hb4)
            have hs4 : w1.heap.size + 1 ≤ w4.heap.size := by have := hb4.size; omega
            clear hb4 c3
            obtain ⟨i0, hi, hz0, hz1, hz2⟩ := info_parts Try.info61
            go_wp2_with (at_builtin; refine wpList_append_own _ rfl _ _ 67 rfl (w1.heap.size + 1) 61 i0 (.agg #[.int .i64 0, .int .i64 0, .int .i64 0, .int .i64 0]) 4 32 Try.underlying67 hi hz0 hz1 hz2 rfl (by decide) _ _ _ rfl (HO4.out.alloc _) ⟨w4.heap.size, 0, none⟩ 1 1 (vcell (stepTo v 0 1)) rfl rfl (four_new _ _ _) (four_ok _) (by unfold maxLen; omega) (by omega) (by simp; omega) ?_)
            intro v' w5 hown hgrow _
            have hO5 : OwnV w5 (w1.heap.size + 1) v' (stepsTo m v (0 + 1)) := by rw [Hst.out, Hsa.out]; exact OwnV.snoc hown
            have hB5 : Below (w1.heap.size + 1) W0 w5 := (HB4.out.alloc hs4 _).grown hgrow (by simp; omega) (fun k hk => (World.ownsRow.lt HO4.out k hk).1)
            have HO5 := Lib.hid hO5
            have HB5 := Lib.hid hB5
            clear hown hgrow hO5 hB5
            go_wp2
            go_roundw
            case rel => exact ⟨_, by omega, by go_num, HO5.out, HB5.out⟩
            case measure => simp [intOf]; omega
          · have Hsa := Lib.hid hsa
            clear hsa
            simp only [Vec.at'] at hT2
            go_wp2_with fail
            refine (vstep_any v 0 (-1) _ (by omega) (by omega) HVB.out).mono ?_
            rintro e w4 ⟨rfl, hb4⟩
            have HB4 : Hid (Below (w1.heap.size + 1) W0 w4) := HB3.out.trans (hb4.mono hsw)
            have HO4 := Lib.hid (HO3.out.keep hb4)
            have hs4 : w1.heap.size + 1 ≤ w4.heap.size := by have := hb4.size; omega
            clear hb4 c3
            obtain ⟨i0, hi, hz0, hz1, hz2⟩ := info_parts Try.info61
            go_wp2_with (at_builtin; refine wpList_append_own _ rfl _ _ 67 rfl (w1.heap.size + 1) 61 i0 (.agg #[.int .i64 0, .int .i64 0, .int .i64 0, .int .i64 0]) 4 32 Try.underlying67 hi hz0 hz1 hz2 rfl (by decide) _ _ _ rfl (HO4.out.alloc _) ⟨w4.heap.size, 0, none⟩ 1 1 (vcell (stepTo v 0 (-1))) rfl rfl (four_new _ _ _) (four_ok _) (by unfold maxLen; omega) (by omega) (by simp; omega) ?_)
            intro v' w5 hown hgrow _
            have hO5 : OwnV w5 (w1.heap.size + 1) v' (stepsTo m v (0 + 1)) := by rw [Hst.out, Hsa.out]; exact OwnV.snoc hown
            have hB5 : Below (w1.heap.size + 1) W0 w5 := (HB4.out.alloc hs4 _).grown hgrow (by simp; omega) (fun k hk => (World.ownsRow.lt HO4.out k hk).1)
            have HO5 := Lib.hid hO5
            have HB5 := Lib.hid hB5
            clear hown hgrow hO5 hB5
            go_wp2
            go_roundw
            case rel => exact ⟨_, by omega, by go_num, HO5.out, HB5.out⟩
            case measure => simp [intOf]; omega
          · have Hsa := Lib.hid hsa
            clear hsa
            simp only [Vec.at'] at hT2
            have HO5 : Hid (OwnV wc (w1.heap.size + 1) u5 (stepsTo m v (0 + 1))) := by rw [Hst.out, Hsa.out, List.append_nil]; exact HO3.out
            go_wp2
            go_roundw
            case rel => exact ⟨_, by omega, by go_num, HO5.out, HB3.out⟩
            case measure => simp [intOf]; omega
          · have Hsa := Lib.hid hsa
            clear hsa
            simp only [Vec.at'] at hT2
            have HO5 : Hid (OwnV wc (w1.heap.size + 1) u5 (stepsTo m v (0 + 1))) := by rw [Hst.out, Hsa.out, List.append_nil]; exact HO3.out
            go_wp2
            go_roundw
            case rel => exact ⟨_, by omega, by go_num, HO5.out, HB3.out⟩
            case measure => simp [intOf]; omega
          · have Hsa := Lib.hid hsa
            clear hsa
            have HO5 : Hid (OwnV wc (w1.heap.size + 1) u5 (stepsTo m v (0 + 1))) := by rw [Hst.out, Hsa.out, List.append_nil]; exact HO3.out
            go_wp2
            go_roundw
            case rel => exact ⟨_, by omega, by go_num, HO5.out, HB3.out⟩
            case measure => simp [intOf]; omega
        · rcases hcase with ⟨hT1, hT2, hsa⟩ | ⟨hT1, hT2, hsa⟩ | ⟨hT1, hT2, hsa⟩ | ⟨hT1, hT2, hsa⟩ | ⟨hT1, hT2, hsa⟩
          · have Hsa := Lib.hid hsa
            clear hsa
            simp only [Vec.at'] at hT2
            go_wp2_with fail
            refine (vstep_any v 1 1 _ (by omega) (by omega) HVB.out).mono ?_
            rintro e w4 ⟨rfl, hb4⟩
            have HB4 : Hid (Below (w1.heap.size + 1) W0 w4) := HB3.out.trans (hb4.mono hsw)
            have HO4 := Lib.hid (HO3.out.keep hb4)
            have hs4 : w1.heap.size + 1 ≤ w4.heap.size := by have := hb4.size; omega
            clear hb4 c3
            obtain ⟨i0, hi, hz0, hz1, hz2⟩ := info_parts Try.info61
            go_wp2_with (at_builtin; refine wpList_append_own _ rfl _ _ 67 rfl (w1.heap.size + 1) 61 i0 (.agg #[.int .i64 0, .int .i64 0, .int .i64 0, .int .i64 0]) 4 32 Try.underlying67 hi hz0 hz1 hz2 rfl (by decide) _ _ _ rfl (HO4.out.alloc _) ⟨w4.heap.size, 0, none⟩ 1 1 (vcell (stepTo v 1 1)) rfl rfl (four_new _ _ _) (four_ok _) (by unfold maxLen; omega) (by omega) (by simp; omega) ?_)
            intro v' w5 hown hgrow _
            have hO5 : OwnV w5 (w1.heap.size + 1) v' (stepsTo m v (1 + 1)) := by rw [Hst.out, Hsa.out]; exact OwnV.snoc hown
            have hB5 : Below (w1.heap.size + 1) W0 w5 := (HB4.out.alloc hs4 _).grown hgrow (by simp; omega) (fun k hk => (World.ownsRow.lt HO4.out k hk).1)
            have HO5 := Lib.hid hO5
            have HB5 := Lib.hid hB5
            clear hown hgrow hO5 hB5
            go_wp2
            go_roundw
            case rel => exact ⟨_, by omega, by go_num, HO5.out, HB5.out⟩
            case measure => simp [intOf]; omega
          · have Hsa := Lib.hid hsa
            clear hsa
            simp only [Vec.at'] at hT2
            go_wp2_with fail
            refine (vstep_any v 1 (-1) _ (by omega) (by omega) HVB.out).mono ?_
            rintro e w4 ⟨rfl, hb4⟩
            have HB4 : Hid (Below (w1.heap.size + 1) W0 w4) := HB3.out.trans (hb4.mono hsw)
            have HO4 := Lib.hid (HO3.out.keep hb4)
            have hs4 : w1.heap.size + 1 ≤ w4.heap.size := by have := hb4.size; omega
            clear hb4 c3
            obtain ⟨i0, hi, hz0, hz1, hz2⟩ := info_parts Try.info61
            go_wp2_with (at_builtin; refine wpList_append_own _ rfl _ _ 67 rfl (w1.heap.size + 1) 61 i0 (.agg #[.int .i64 0, .int .i64 0, .int .i64 0, .int .i64 0]) 4 32 Try.underlying67 hi hz0 hz1 hz2 rfl (by decide) _ _ _ rfl (HO4.out.alloc _) ⟨w4.heap.size, 0, none⟩ 1 1 (vcell (stepTo v 1 (-1))) rfl rfl (four_new _ _ _) (four_ok _) (by unfold maxLen; omega) (by omega) (by simp; omega) ?_)
            intro v' w5 hown hgrow _
            have hO5 : OwnV w5 (w1.heap.size + 1) v' (stepsTo m v (1 + 1)) := by rw [Hst.out, Hsa.out]; exact OwnV.snoc hown
            have hB5 : Below (w1.heap.size + 1) W0 w5 := (HB4.out.alloc hs4 _).grown hgrow (by simp; omega) (fun k hk => (World.ownsRow.lt HO4.out k hk).1)
            have HO5 := Lib.hid hO5
            have HB5 := Lib.hid hB5
            clear hown hgrow hO5 hB5
            go_wp2
            go_roundw
            case rel => exact ⟨_, by omega, by go_num, HO5.out, HB5.out⟩
            case measure => simp [intOf]; omega
          · have Hsa := Lib.hid hsa
            clear hsa
            simp only [Vec.at'] at hT2
            have HO5 : Hid (OwnV wc (w1.heap.size + 1) u5 (stepsTo m v (1 + 1))) := by rw [Hst.out, Hsa.out, List.append_nil]; exact HO3.out
            go_wp2
            go_roundw
            case rel => exact ⟨_, by omega, by go_num, HO5.out, HB3.out⟩
            case measure => simp [intOf]; omega
          · have Hsa := Lib.hid hsa
            clear hsa
            simp only [Vec.at'] at hT2
            have HO5 : Hid (OwnV wc (w1.heap.size + 1) u5 (stepsTo m v (1 + 1))) := by rw [Hst.out, Hsa.out, List.append_nil]; exact HO3.out
            go_wp2
            go_roundw
            case rel => exact ⟨_, by omega, by go_num, HO5.out, HB3.out⟩
            case measure => simp [intOf]; omega
          · have Hsa := Lib.hid hsa
            clear hsa
            have HO5 : Hid (OwnV wc (w1.heap.size + 1) u5 (stepsTo m v (1 + 1))) := by rw [Hst.out, Hsa.out, List.append_nil]; exact HO3.out
            go_wp2
            go_roundw
            case rel => exact ⟨_, by omega, by go_num, HO5.out, HB3.out⟩
            case measure => simp [intOf]; omega
        · rcases hcase with ⟨hT1, hT2, hsa⟩ | ⟨hT1, hT2, hsa⟩ | ⟨hT1, hT2, hsa⟩ | ⟨hT1, hT2, hsa⟩ | ⟨hT1, hT2, hsa⟩
          · have Hsa := Lib.hid hsa
            clear hsa
            simp only [Vec.at'] at hT2
            go_wp2_with fail
            refine (vstep_any v 2 1 _ (by omega) (by omega) HVB.out).mono ?_
            rintro e w4 ⟨rfl, hb4⟩
            have HB4 : Hid (Below (w1.heap.size + 1) W0 w4) := HB3.out.trans (hb4.mono hsw)
            have HO4 := Lib.hid (HO3.out.keep hb4)
            have hs4 : w1.heap.size + 1 ≤ w4.heap.size := by have := hb4.size; omega
            clear hb4 c3
            obtain ⟨i0, hi, hz0, hz1, hz2⟩ := info_parts Try.info61
            go_wp2_with (at_builtin; refine wpList_append_own _ rfl _ _ 67 rfl (w1.heap.size + 1) 61 i0 (.agg #[.int .i64 0, .int .i64 0, .int .i64 0, .int .i64 0]) 4 32 Try.underlying67 hi hz0 hz1 hz2 rfl (by decide) _ _ _ rfl (HO4.out.alloc _) ⟨w4.heap.size, 0, none⟩ 1 1 (vcell (stepTo v 2 1)) rfl rfl (four_new _ _ _) (four_ok _) (by unfold maxLen; omega) (by omega) (by simp; omega) ?_)
            intro v' w5 hown hgrow _
            have hO5 : OwnV w5 (w1.heap.size + 1) v' (stepsTo m v (2 + 1)) := by rw [Hst.out, Hsa.out]; exact OwnV.snoc hown
            have hB5 : Below (w1.heap.size + 1) W0 w5 := (HB4.out.alloc hs4 _).grown hgrow (by simp; omega) (fun k hk => (World.ownsRow.lt HO4.out k hk).1)
            have HO5 := Lib.hid hO5
            have HB5 := Lib.hid hB5
            clear hown hgrow hO5 hB5
            go_wp2
            go_roundw
            case rel => exact ⟨_, by omega, by go_num, HO5.out, HB5.out⟩
            case measure => simp [intOf]; omega
          · have Hsa := Lib.hid hsa
            clear hsa
            simp only [Vec.at'] at hT2
            go_wp2_with fail
            refine (vstep_any v 2 (-1) _ (by omega) (by omega) HVB.out).mono ?_
            rintro e w4 ⟨rfl, hb4⟩
            have HB4 : Hid (Below (w1.heap.size + 1) W0 w4) := HB3.out.trans (hb4.mono hsw)
            have HO4 := Lib.hid (HO3.out.keep hb4)
            have hs4 : w1.heap.size + 1 ≤ w4.heap.size := by have := hb4.size; omega
            clear hb4 c3
            obtain ⟨i0, hi, hz0, hz1, hz2⟩ := info_parts Try.info61
            go_wp2_with (at_builtin; refine wpList_append_own _ rfl _ _ 67 rfl (w1.heap.size + 1) 61 i0 (.agg #[.int .i64 0, .int .i64 0, .int .i64 0, .int .i64 0]) 4 32 Try.underlying67 hi hz0 hz1 hz2 rfl (by decide) _ _ _ rfl (HO4.out.alloc _) ⟨w4.heap.size, 0, none⟩ 1 1 (vcell (stepTo v 2 (-1))) rfl rfl (four_new _ _ _) (four_ok _) (by unfold maxLen; omega) (by omega) (by simp; omega) ?_)
            intro v' w5 hown hgrow _
            have hO5 : OwnV w5 (w1.heap.size + 1) v' (stepsTo m v (2 + 1)) := by rw [Hst.out, Hsa.out]; exact OwnV.snoc hown
            have hB5 : Below (w1.heap.size + 1) W0 w5 := (HB4.out.alloc hs4 _).grown hgrow (by simp; omega) (fun k hk => (World.ownsRow.lt HO4.out k hk).1)
            have HO5 := Lib.hid hO5
            have HB5 := Lib.hid hB5
            clear hown hgrow hO5 hB5
            go_wp2
            go_roundw
            case rel => exact ⟨_, by omega, by go_num, HO5.out, HB5.out⟩
            case measure => simp [intOf]; omega
          · have Hsa := Lib.hid hsa
            clear hsa
            simp only [Vec.at'] at hT2
            have HO5 : Hid (OwnV wc (w1.heap.size + 1) u5 (stepsTo m v (2 + 1))) := by rw [Hst.out, Hsa.out, List.append_nil]; exact HO3.out
            go_wp2
            go_roundw
            case rel => exact ⟨_, by omega, by go_num, HO5.out, HB3.out⟩
            case measure => simp [intOf]; omega
          · have Hsa := Lib.hid hsa
            clear hsa
            simp only [Vec.at'] at hT2
            have HO5 : Hid (OwnV wc (w1.heap.size + 1) u5 (stepsTo m v (2 + 1))) := by rw [Hst.out, Hsa.out, List.append_nil]; exact HO3.out
            go_wp2
            go_roundw
            case rel => exact ⟨_, by omega, by go_num, HO5.out, HB3.out⟩
            case measure => simp [intOf]; omega
          · have Hsa := Lib.hid hsa
            clear hsa
            have HO5 : Hid (OwnV wc (w1.heap.size + 1) u5 (stepsTo m v (2 + 1))) := by rw [Hst.out, Hsa.out, List.append_nil]; exact HO3.out
            go_wp2
            go_roundw
            case rel => exact ⟨_, by omega, by go_num, HO5.out, HB3.out⟩
            case measure => simp [intOf]; omega
        · rcases hcase with ⟨hT1, hT2, hsa⟩ | ⟨hT1, hT2, hsa⟩ | ⟨hT1, hT2, hsa⟩ | ⟨hT1, hT2, hsa⟩ | ⟨hT1, hT2, hsa⟩
          · have Hsa := Lib.hid hsa
            clear hsa
            simp only [Vec.at'] at hT2
            go_wp2_with fail
            refine (vstep_any v 3 1 _ (by omega) (by omega) HVB.out).mono ?_
            rintro e w4 ⟨rfl, hb4⟩
            have HB4 : Hid (Below (w1.heap.size + 1) W0 w4) := HB3.out.trans (hb4.mono hsw)
            have HO4 := Lib.hid (HO3.out.keep hb4)
            have hs4 : w1.heap.size + 1 ≤ w4.heap.size := by have := hb4.size; omega
            clear hb4 c3
            obtain ⟨i0, hi, hz0, hz1, hz2⟩ := info_parts Try.info61
            go_wp2_with (at_builtin; refine wpList_append_own _ rfl _ _ 67 rfl (w1.heap.size + 1) 61 i0 (.agg #[.int .i64 0, .int .i64 0, .int .i64 0, .int .i64 0]) 4 32 Try.underlying67 hi hz0 hz1 hz2 rfl (by decide) _ _ _ rfl (HO4.out.alloc _) ⟨w4.heap.size, 0, none⟩ 1 1 (vcell (stepTo v 3 1)) rfl rfl (four_new _ _ _) (four_ok _) (by unfold maxLen; omega) (by omega) (by simp; omega) ?_)
            intro v' w5 hown hgrow _
            have hO5 : OwnV w5 (w1.heap.size + 1) v' (stepsTo m v (3 + 1)) := by rw [Hst.out, Hsa.out]; exact OwnV.snoc hown
            have hB5 : Below (w1.heap.size + 1) W0 w5 := (HB4.out.alloc hs4 _).grown hgrow (by simp; omega) (fun k hk => (World.ownsRow.lt HO4.out k hk).1)
            have HO5 := Lib.hid hO5
            have HB5 := Lib.hid hB5
            clear hown hgrow hO5 hB5
            go_wp2
            go_roundw
            case rel => exact ⟨_, by omega, by go_num, HO5.out, HB5.out⟩
            case measure => simp [intOf]; omega
          · have Hsa := Lib.hid hsa
            clear hsa
            simp only [Vec.at'] at hT2
            go_wp2_with fail
            refine (vstep_any v 3 (-1) _ (by omega) (by omega) HVB.out).mono ?_
            rintro e w4 ⟨rfl, hb4⟩
            have HB4 : Hid (Below (w1.heap.size + 1) W0 w4) := HB3.out.trans (hb4.mono hsw)
            have HO4 := Lib.hid (HO3.out.keep hb4)
            have hs4 : w1.heap.size + 1 ≤ w4.heap.size := by have := hb4.size; omega
            clear hb4 c3
            obtain ⟨i0, hi, hz0, hz1, hz2⟩ := info_parts Try.info61
            go_wp2_with (at_builtin; refine wpList_append_own _ rfl _ _ 67 rfl (w1.heap.size + 1) 61 i0 (.agg #[.int .i64 0, .int .i64 0, .int .i64 0, .int .i64 0]) 4 32 Try.underlying67 hi hz0 hz1 hz2 rfl (by decide) _ _ _ rfl (HO4.out.alloc _) ⟨w4.heap.size, 0, none⟩ 1 1 (vcell (stepTo v 3 (-1))) rfl rfl (four_new _ _ _) (four_ok _) (by unfold maxLen; omega) (by omega) (by simp; omega) ?_)
            intro v' w5 hown hgrow _
            have hO5 : OwnV w5 (w1.heap.size + 1) v' (stepsTo m v (3 + 1)) := by rw [Hst.out, Hsa.out]; exact OwnV.snoc hown
            have hB5 : Below (w1.heap.size + 1) W0 w5 := (HB4.out.alloc hs4 _).grown hgrow (by simp; omega) (fun k hk => (World.ownsRow.lt HO4.out k hk).1)
            have HO5 := Lib.hid hO5
            have HB5 := Lib.hid hB5
            clear hown hgrow hO5 hB5
            go_wp2
            go_roundw
            case rel => exact ⟨_, by omega, by go_num, HO5.out, HB5.out⟩
            case measure => simp [intOf]; omega
          · have Hsa := Lib.hid hsa
            clear hsa
            simp only [Vec.at'] at hT2
            have HO5 : Hid (OwnV wc (w1.heap.size + 1) u5 (stepsTo m v (3 + 1))) := by rw [Hst.out, Hsa.out, List.append_nil]; exact HO3.out
            go_wp2
            go_roundw
            case rel => exact ⟨_, by omega, by go_num, HO5.out, HB3.out⟩
            case measure => simp [intOf]; omega
          · have Hsa := Lib.hid hsa
            clear hsa
            simp only [Vec.at'] at hT2
            have HO5 : Hid (OwnV wc (w1.heap.size + 1) u5 (stepsTo m v (3 + 1))) := by rw [Hst.out, Hsa.out, List.append_nil]; exact HO3.out
            go_wp2
            go_roundw
            case rel => exact ⟨_, by omega, by go_num, HO5.out, HB3.out⟩
            case measure => simp [intOf]; omega
          · have Hsa := Lib.hid hsa
            clear hsa
            have HO5 : Hid (OwnV wc (w1.heap.size + 1) u5 (stepsTo m v (3 + 1))) := by rw [Hst.out, Hsa.out, List.append_nil]; exact HO3.out
            go_wp2
            go_roundw
            case rel => exact ⟨_, by omega, by go_num, HO5.out, HB3.out⟩
            case measure => simp [intOf]; omega
    · have e : k = m.n := by omega
      subst e
      have hB : Hid (Below w.heap.size w wr) := HB0.out.trans (HB2.out.mono (by omega))
      have hO' : Hid (OwnV wr w.heap.size _ (stepsTo m v m.n)) := HO.out.mono (by omega)
      clear hO hb hmr hvr hpr
      go_wp2
      go_ret
      exact ⟨_, rfl, hO'.out, hB.out⟩
end Go.Proofs.Ytaglbnblfhfkeaa
