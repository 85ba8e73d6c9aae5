import Derived.Test.YtaglbnblfhfkeaaE3
namespace Go.Proofs.Ytaglbnblfhfkeaa
open Go.RowKit

def mvOf (m : Mx) (l : List Vec) : List Vec := l.filter (isMoveB m)
def opOf (m : Mx) (l : List Vec) : List Vec := l.filter fun v => !isMoveB m v
theorem mvOf_snoc {m : Mx} {l : List Vec} {v : Vec} : mvOf m (l ++ [v]) = if isMoveB m v then mvOf m l ++ [v] else mvOf m l := by
  unfold mvOf; rw [List.filter_append]; cases h : isMoveB m v <;> simp [h]
theorem opOf_snoc {m : Mx} {l : List Vec} {v : Vec} : opOf m (l ++ [v]) = if isMoveB m v then opOf m l else opOf m l ++ [v] := by
  unfold opOf; rw [List.filter_append]; cases h : isMoveB m v <;> simp [h]
theorem mem_mvOf {m : Mx} {l : List Vec} {v : Vec} : v ∈ mvOf m l ↔ v ∈ l ∧ isMove m v := by simp [mvOf, isMoveB_iff]
theorem mem_opOf {m : Mx} {l : List Vec} {v : Vec} : v ∈ opOf m l ↔ v ∈ l ∧ ¬ isMove m v := by
  unfold opOf
  rw [List.mem_filter, ← isMoveB_iff]
  cases isMoveB m v <;> simp
theorem mvOf_len {m : Mx} {l : List Vec} : (mvOf m l).length ≤ l.length := List.length_filter_le _ _
theorem opOf_len {m : Mx} {l : List Vec} : (opOf m l).length ≤ l.length := List.length_filter_le _ _

theorem near_norm {v : Vec} (h : Vec.norm v ≤ 29) : near 500 v := by simp only [Vec.norm, near] at *; omega
theorem near_big {v : Vec} (h : near 500 v) : near 1000000000 v := by simp only [near] at *; omega

theorem Round.normE {m : Mx} {k : Nat} {E F : List Vec} (h : Round m k E F) (hk : k ≤ 29) : ∀ v ∈ E, Vec.norm v ≤ 29 := fun v hv => by have := (h.chain v hv).1; omega
theorem Round.normF {m : Mx} {k : Nat} {E F : List Vec} (h : Round m k E F) (hk : k ≤ 30) : ∀ v ∈ F, Vec.norm v ≤ 29 := fun v hv => by have := ((h.found v).1 hv).2; omega
theorem Round.nodup2 {m : Mx} {k : Nat} {E F : List Vec} (h : Round m k E F) : (F ++ mvOf m E).Nodup := by
  rw [List.nodup_append]
  refine ⟨h.foundNodup, h.nodup.filter _, fun y hy z hz e => ?_⟩
  subst e
  have h1 := ((h.found y).1 hy).2
  have h2 := (h.chain y (mem_mvOf.1 hz).1).1
  omega
theorem Round.few2 {m : Mx} {k : Nat} {E F : List Vec} (h : Round m k E F) (hk : k ≤ 29) : (F ++ mvOf m E).length ≤ 12117361 :=
  few h.nodup2 fun v hv => by
    rcases List.mem_append.1 hv with h1 | h1
    · exact h.normF (by omega) v h1
    · exact h.normE hk v (mem_mvOf.1 h1).1

/-- All basic moves, rising. -/
structure AllBasic (m : Mx) (F : List Vec) : Prop where
  sorted : F.Pairwise ltV
  mem : ∀ y, y ∈ F ↔ Basic m y
theorem AllBasic.nodup {m : Mx} {F : List Vec} (h : AllBasic m F) : F.Nodup := h.sorted.imp (S := (· ≠ ·)) fun {a b} hab (e : a = b) => ltV_irrefl a (by subst e; exact hab)
theorem AllBasic.few {m : Mx} (hm : m.ok) {F : List Vec} (h : AllBasic m F) : F.length ≤ 12117361 := Go.Proofs.Ytaglbnblfhfkeaa.few h.nodup fun v hv => basic_norm hm ((h.mem v).1 hv)
theorem AllBasic.near {m : Mx} (hm : m.ok) {F : List Vec} (h : AllBasic m F) : ∀ v ∈ F, near 500 v := fun v hv => near_norm (basic_norm hm ((h.mem v).1 hv))

theorem apart_nil (v : Value) : apart v (.slice none 0 0) := by
  unfold apart
  by_cases h : v.ownBlock = none
  · exact Or.inl h
  · exact Or.inr h

/-- The head of the search's round. -/
structure Head (w wr : World) (m : Mx) (vF vE : Value) (k : Nat) (E F : List Vec) : Prop where
  row : Row3 w wr m vE vF (.slice none 0 0) E F []
  round : Round m k E F

/-- Behind beyond. -/
theorem Head.next {w wx w2 : World} {m : Mx} {vE vF vO val : Value} {E F E' : List Vec} {k : Nat} (hm : m.ok) (h : Row3 w wx m vE vF vO E (F ++ mvOf m E) (opOf m E)) (hr : Round m k E F)
    (hO : OwnV w2 wx.heap.size val E') (hn : E'.Nodup) (hx : ∀ x, x ∈ E' ↔ (∃ v ∈ opOf m E, isStep m v x) ∧ ∀ y ∈ F ++ mvOf m E, ¬ Vec.fits y x) (hb : Below wx.heap.size wx w2) : Head w w2 m vF val (k + 1) E' (F ++ mvOf m E) := by
  have h2 := h.keep hb
  refine ⟨⟨h2.mm, hO.mono h.lt, h2.f, OwnV.nil _ _, (apart_new h.f hO (Nat.le_refl _)).symm, apart_nil _, apart_nil _, h2.below⟩, ?_⟩
  exact hr.next hm (hr.nodup.filter _) (fun v => mem_mvOf) (fun v => mem_opOf) hn hx

def BasicPost (m : Mx) (w : World) (e : Ending) (w' : World) : Prop := ∃ val F, e = .returned val ∧ OwnV w' w.heap.size val F ∧ AllBasic m F ∧ Below w.heap.size w w'

set_option maxHeartbeats 8000000 in
set_option maxRecDepth 100000 in
theorem mbasic_any (m : Mx) (w : World) (hm : m.ok) :
    Calls Try.prog 64 #[.agg #[.int .i64 (m).r0.a, .int .i64 (m).r0.b, .int .i64 (m).r0.c, .int .i64 (m).r0.d, .int .i64 (m).r1.a, .int .i64 (m).r1.b, .int .i64 (m).r1.c, .int .i64 (m).r1.d, .int .i64 ((m).n : Int)]] w fun e w' => BasicPost m w e w' := by
  have hn4 := hm.n4
  have HM := Lib.hid hm
  have h0 := Lib.hid (firstSteps_any m (w.alloc (.cells #[.int .i64 (m).r0.a, .int .i64 (m).r0.b, .int .i64 (m).r0.c, .int .i64 (m).r0.d, .int .i64 (m).r1.a, .int .i64 (m).r1.b, .int .i64 (m).r1.c, .int .i64 (m).r1.d, .int .i64 ((m).n : Int)] 64)) hn4)
  clear hm
  go_enter Try.func64, Try.ntmps64
  go_wp2_with fail
  refine h0.out.mono ?_
  rintro e w1 ⟨val1, rfl, hO1, hb1⟩
  have HR : Hid (Head w w1 m (.slice none 0 0) val1 1 (firstTo m.n) []) := by
    refine ⟨⟨(hb1.block _ (by simp)).trans (heap_alloc_new w _), hO1.mono (by simp), OwnV.nil _ _, OwnV.nil _ _, apart_nil _, apart_nil _, apart_nil _, ((Below.refl _ w).alloc (Nat.le_refl _) _).trans (hb1.mono (by simp))⟩, ?_⟩
    exact Round.first HM.out (firstTo_nodup _ hn4) (fun v => mem_firstTo)
  clear hO1 hb1 h0
  go_wp2
  go_loopg [3, 4] 29 (fun g vF vE wr => ∃ k E F, k + g = 30 ∧ Head w wr m vF vE k E F)
  case atStart => exact ⟨1, _, _, by omega, HR.out⟩
  case round =>
    obtain ⟨k, E, F, hk, hH⟩ := hrel
    have HH := Lib.hid hH
    clear hH HR
    obtain ⟨aE, cE, rfl, hVE, hc1, hc2⟩ := HH.out.row.e.read
    clear hVE hc1 hc2
    by_cases hE : E = []
    · subst hE
      have HS := Lib.hid (sortV_any u3 F (w.heap.size + 1) wr HH.out.row.f HH.out.round.foundNodup (Nat.le_trans (few HH.out.round.foundNodup (HH.out.round.normF (by omega))) (by omega)))
      go_wp2_with fail
      refine HS.out.mono ?_
      rintro e w2 ⟨F', hp, hs, hO, rfl, row, hg, hrow⟩
      have HF : Hid (OwnV w2 w.heap.size u3 F' ∧ AllBasic m F' ∧ Below w.heap.size w w2) :=
        ⟨hO.mono (by omega), ⟨hs, fun y => hp.mem_iff.trans (HH.out.round.done y)⟩, HH.out.row.below.grown hg (Nat.le_of_lt HH.out.row.lt) (fun k hk => by have := hrow k hk; omega)⟩
      clear hp hs hO hg hrow HS
      go_wp2
      go_ret
      exact ⟨_, F', rfl, HF.out.1, HF.out.2.1, HF.out.2.2⟩
    · have hpos : 0 < E.length := List.length_pos_iff.2 hE
      have hposI : (0 : Int) < (E.length : Int) := by omega
      obtain ⟨v0, hv0⟩ : ∃ v, v ∈ E := List.exists_mem_of_ne_nil E hE
      have hk29 : k ≤ 29 := HH.out.round.bound HM.out hv0
      obtain ⟨g, rfl⟩ : ∃ g, gk = g + 1 := ⟨gk - 1, by omega⟩
      have hEl : E.length ≤ 12117361 := few HH.out.round.nodup (HH.out.round.normE hk29)
      have HFl : Hid ((F ++ mvOf m E).length ≤ 12117361) := HH.out.round.few2 hk29
      have HFl1 : Hid (F.length ≤ 12117361) := few HH.out.round.foundNodup (HH.out.round.normF (by omega))
      have HEn : Hid (∀ v ∈ E, near 500 v) := fun v hv => near_norm (HH.out.round.normE hk29 v hv)
      have HFn : Hid (∀ v ∈ F ++ mvOf m E, near 500 v) := fun v hv => by
        rcases List.mem_append.1 hv with h1 | h1
        · exact near_norm (HH.out.round.normF (by omega) v h1)
        · exact near_norm (HH.out.round.normE hk29 v (mem_mvOf.1 h1).1)
      clear hE hv0
      go_wp2
      go_loopg [3, 5, 15] E.length (fun g2 vF vO i wx => ∃ q : Nat, q + g2 = E.length ∧ i = .int .i64 q ∧ Row3 w wx m (.slice aE E.length cE) vF vO E (F ++ mvOf m (E.take q)) (opOf m (E.take q)))
      case atStart => exact ⟨0, by omega, rfl, by simpa [mvOf, opOf] using HH.out.row⟩
      case round =>
        obtain ⟨q, hq, rfl, hB⟩ := hrel
        obtain ⟨wo, hwo⟩ : ∃ wo : World, wo = wr := ⟨_, rfl⟩
        subst hwo
        cases gk with
        | zero =>
          have hqz : ¬ ((q : Int) < (E.length : Int)) := by omega
          have hqe : E.take q = E := List.take_of_length_le (by omega)
          rw [hqe] at hB
          obtain ⟨F2, hF2⟩ : ∃ F2, F2 = F ++ mvOf m E := ⟨_, rfl⟩
          obtain ⟨O2, hO2⟩ : ∃ O2, O2 = opOf m E := ⟨_, rfl⟩
          have HF2 := Lib.hid hF2
          have HO2 := Lib.hid hO2
          rw [← hF2, ← hO2] at hB
          have hfl : F2.length ≤ 20000000 := by rw [hF2]; exact Nat.le_trans HFl.out (by omega)
          have hol : O2.length ≤ 20000000 := by rw [hO2]; exact Nat.le_trans opOf_len (by omega)
          obtain ⟨aF, cF, rfl, hVF, hc1, hc2⟩ := hB.f.read
          obtain ⟨aO, cO, rfl, hVO, hc3, hc4⟩ := hB.o.read
          have HB := Lib.hid hB
          have c0 := matS_cells hB.mm
          have Hc := Lib.hid (beyond_any m aO aF cO cF O2 F2 wo HM.out hVO hVF hol hfl (fun v hv => HEn.out v (by rw [hO2] at hv; exact (mem_opOf.1 hv).1)) (fun v hv => HFn.out v (by rw [hF2] at hv; exact hv)))
          clear hqe hB hVF hVO hc1 hc2 hc3 hc4 hF2 hO2
          go_wp2_with fail
          refine Hc.out.mono ?_
          rintro e w2 ⟨val, E', rfl, hO', hnd, hmem, hb⟩
          have HN : Hid (Head w w2 m (.slice aF F2.length cF) val (k + 1) E' F2) := by
            have h1 := HF2.out
            have h2 := HO2.out
            subst h1; subst h2
            exact Head.next HM.out HB.out HH.out.round hO' hnd hmem hb
          clear hO' hnd hmem hb Hc c0
          go_wp2
          go_roundg g
          case measure => omega
          case rel => exact ⟨k + 1, E', _, by omega, HN.out⟩
        | succ g2 =>
          have hqz : (q : Int) < (E.length : Int) := by omega
          have hqn : q < E.length := by omega
          obtain ⟨x, hx⟩ : ∃ x, E[q]? = some x := ⟨_, List.getElem?_eq_getElem (by omega)⟩
          obtain ⟨bx, hbx, d0, d1, d2, d3⟩ := hB.e.vecs q x hx
          subst hbx
          have hxn : near 500 x := HEn.out x (List.mem_of_getElem? hx)
          have HX := Lib.hid (near_big hxn)
          have HT : Hid (E.take (q + 1) = E.take q ++ [x]) := by simp only [Hid]; rw [List.take_add_one, hx]; simp
          have hFl : (F ++ mvOf m (E.take q)).length ≤ 30000000 := by
            have h1 := HFl1.out
            have h2 : (mvOf m (E.take q)).length ≤ (E.take q).length := mvOf_len
            rw [List.length_take] at h2
            rw [List.length_append]; omega
          have hOl : (opOf m (E.take q)).length ≤ 30000000 := by
            have h2 : (opOf m (E.take q)).length ≤ (E.take q).length := opOf_len
            rw [List.length_take] at h2
            omega
          have HFT : Hid (F ++ mvOf m (E.take (q + 1)) = if isMoveB m x then (F ++ mvOf m (E.take q)) ++ [x] else F ++ mvOf m (E.take q)) := by
            simp only [Hid]; rw [HT.out, mvOf_snoc]; cases isMoveB m x <;> simp
          have HOT : Hid (opOf m (E.take (q + 1)) = if isMoveB m x then opOf m (E.take q) else opOf m (E.take q) ++ [x]) := by
            simp only [Hid]; rw [HT.out, opOf_snoc]
          generalize F ++ mvOf m (E.take q) = F1 at hB hFl HFT
          generalize opOf m (E.take q) = O1 at hB hOl HOT
          have HB := Lib.hid hB
          have c0 := matS_cells hB.mm
          have hszm := hB.lt
          clear hB hx hxn
          cases hmv : isMoveB m x
          · have HMV := Lib.hid hmv
            have Hc := Lib.hid (misMove_any m x (wo.alloc (.cells #[.int .i64 (x).a, .int .i64 (x).b, .int .i64 (x).c, .int .i64 (x).d] 61)) false HM.out HX.out (by rw [← isMoveB_iff, hmv]))
            clear hmv
            go_wp2_with fail
            refine Hc.out.mono ?_
            rintro e w3 ⟨rfl, hb3⟩
            have HB3 := Lib.hid (HB.out.keep (((Below.refl _ wo).alloc (Nat.le_refl _) (.cells #[.int .i64 (x).a, .int .i64 (x).b, .int .i64 (x).c, .int .i64 (x).d] 61)).trans (hb3.mono (by simp))))
            have c3 := vecS_cells ((hb3.block wo.heap.size (by simp)).trans (heap_alloc_new wo _))
            have hsz3 : wo.heap.size < w3.heap.size := by have := hb3.size; simp at this; omega
            clear hb3 Hc c0 d0 d1 d2 d3
            obtain ⟨i0, hi, hz0, hz1, hz2⟩ := info_parts Try.info61
            go_wp2_with (at_builtin; refine wpList_append_where _ rfl _ _ 67 rfl (w.heap.size + 1) 61 i0 (.agg #[.int .i64 0, .int .i64 0, .int .i64 0, .int .i64 0]) 4 32 Try.underlying67 hi hz0 hz1 hz2 rfl (by decide) _ _ _ rfl (HB3.out.o.alloc _) ⟨w3.heap.size, 0, none⟩ 1 1 (vcell x) rfl rfl (four_new _ _ _) (four_ok _) (by omega) (by unfold maxLen; omega) (by omega) (by simp; omega) ?_)
            intro v' w5 hown hgrow hwhere
            have HB5 : Hid (Row3 w w5 m (.slice (some ⟨bx, 0, none⟩) E.length cE) u3 v' E (F ++ mvOf m (E.take (q + 1))) (opOf m (E.take (q + 1)))) := by
              simp only [Hid]
              rw [HFT.out, HOT.out, HMV.out]
              exact HB3.out.addO _ (OwnV.snoc hown) hgrow hwhere
            clear hown hgrow hwhere c3
            go_wp2
            go_roundg g2
            case measure => omega
            case rel => exact ⟨q + 1, by omega, by go_num, HB5.out⟩
          · have HMV := Lib.hid hmv
            have Hc := Lib.hid (misMove_any m x (wo.alloc (.cells #[.int .i64 (x).a, .int .i64 (x).b, .int .i64 (x).c, .int .i64 (x).d] 61)) true HM.out HX.out (by rw [← isMoveB_iff, hmv]))
            clear hmv
            go_wp2_with fail
            refine Hc.out.mono ?_
            rintro e w3 ⟨rfl, hb3⟩
            have HB3 := Lib.hid (HB.out.keep (((Below.refl _ wo).alloc (Nat.le_refl _) (.cells #[.int .i64 (x).a, .int .i64 (x).b, .int .i64 (x).c, .int .i64 (x).d] 61)).trans (hb3.mono (by simp))))
            have c3 := vecS_cells ((hb3.block wo.heap.size (by simp)).trans (heap_alloc_new wo _))
            have hsz3 : wo.heap.size < w3.heap.size := by have := hb3.size; simp at this; omega
            clear hb3 Hc c0 d0 d1 d2 d3
            obtain ⟨i0, hi, hz0, hz1, hz2⟩ := info_parts Try.info61
            go_wp2_with (at_builtin; refine wpList_append_where _ rfl _ _ 67 rfl (w.heap.size + 1) 61 i0 (.agg #[.int .i64 0, .int .i64 0, .int .i64 0, .int .i64 0]) 4 32 Try.underlying67 hi hz0 hz1 hz2 rfl (by decide) _ _ _ rfl (HB3.out.f.alloc _) ⟨w3.heap.size, 0, none⟩ 1 1 (vcell x) rfl rfl (four_new _ _ _) (four_ok _) (by omega) (by unfold maxLen; omega) (by omega) (by simp; omega) ?_)
            intro v' w5 hown hgrow hwhere
            have HB5 : Hid (Row3 w w5 m (.slice (some ⟨bx, 0, none⟩) E.length cE) v' u5 E (F ++ mvOf m (E.take (q + 1))) (opOf m (E.take (q + 1)))) := by
              simp only [Hid]
              rw [HFT.out, HOT.out, HMV.out]
              exact HB3.out.addF _ (OwnV.snoc hown) hgrow hwhere
            clear hown hgrow hwhere c3
            go_wp2
            go_roundg g2
            case measure => omega
            case rel => exact ⟨q + 1, by omega, by go_num, HB5.out⟩
end Go.Proofs.Ytaglbnblfhfkeaa
