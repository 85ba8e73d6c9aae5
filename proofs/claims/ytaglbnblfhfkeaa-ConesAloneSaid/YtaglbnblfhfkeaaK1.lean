import Derived.Test.YtaglbnblfhfkeaaG1
import Derived.Test.YtaglbnblfhfkeaaMath7
namespace Go.Proofs.Ytaglbnblfhfkeaa
open Go.RowKit

set_option maxHeartbeats 4000000 in
set_option maxRecDepth 100000 in
theorem vplus_any (u v : Vec) (w : World) (hu : near 1000000000 u) (hv : near 1000000000 v) :
    Calls Try.prog 115 #[.agg #[.int .i64 (u).a, .int .i64 (u).b, .int .i64 (u).c, .int .i64 (u).d], .agg #[.int .i64 (v).a, .int .i64 (v).b, .int .i64 (v).c, .int .i64 (v).d]] w fun e w' => e = .returned (.agg #[.int .i64 (add u v).a, .int .i64 (add u v).b, .int .i64 (add u v).c, .int .i64 (add u v).d]) ∧ Below w.heap.size w w' := by
  obtain ⟨⟨a1, a2⟩, ⟨a3, a4⟩, ⟨a5, a6⟩, a7, a8⟩ := hu
  obtain ⟨⟨b1, b2⟩, ⟨b3, b4⟩, ⟨b5, b6⟩, b7, b8⟩ := hv
  have i0 := idx0; have i1 := idx1; have i2 := idx2; have i3 := idx3
  go_enter Try.func115, Try.ntmps115
  go_wp2
  refine wp_loop_rounds 5 ?_
  rw [rounds_succ]
  go_wp2
  rw [rounds_succ]
  go_wp2
  rw [rounds_succ]
  go_wp2
  rw [rounds_succ]
  go_wp2
  rw [rounds_succ]
  go_wp2
  refine bodyPost_ret (v := .agg #[.int .i64 (add u v).a, .int .i64 (add u v).b, .int .i64 (add u v).c, .int .i64 (add u v).d]) (by simp [results, Try.results115, go_sem, add]) rfl ⟨rfl, ?_⟩
  exact (below_two _ _ _).alloc (by simp; omega) _

def BoolB (r : Bool) (w : World) (e : Ending) (w' : World) : Prop := e = .returned (.bool r) ∧ Below w.heap.size w w'
def anyWhole (F : List Vec) : Prop := ∃ v ∈ F, Whole v

set_option maxHeartbeats 4000000 in
set_option maxRecDepth 100000 in
theorem indexW_any (a : Option Addr) (c : Nat) (F : List Vec) (w : World) (hF : VecsAt w a F) (hl : F.length ≤ 20000000) :
    Calls Try.prog 104 #[.slice a F.length c, .func (.func 96) #[] #[]] w fun e w' => IdxV (anyWhole F) w e w' := by
  have HF := Lib.hid hF
  clear hF
  go_enter Try.func104, Try.ntmps104
  go_wp2
  go_loopw [8] (fun i wr => ∃ k : Nat, k ≤ F.length ∧ i = .int .i64 k ∧ Below w.heap.size w wr ∧ Hid (∀ j v, j < k → F[j]? = some v → ¬ Whole v)) (fun i _ => F.length - (intOf i).toNat)
  case atStart => exact ⟨0, Nat.zero_le _, rfl, Below.refl _ _, fun j v hj => absurd hj (Nat.not_lt_zero _)⟩
  case round =>
    obtain ⟨k, hk, rfl, hb, hr⟩ := hrel
    have HB := Lib.hid hb
    clear hb
    by_cases hlt : k < F.length
    · obtain ⟨x, hx⟩ : ∃ x, F[k]? = some x := ⟨_, List.getElem?_eq_getElem (by omega)⟩
      obtain ⟨bx, rfl, d0, d1, d2, d3⟩ := (HF.out.keep (Nat.le_refl _) HB.out) k x hx
      have HX := Lib.hid hx
      clear hx
      by_cases hw : Whole x
      · have hin : Hid (anyWhole F) := ⟨x, List.mem_of_getElem? HX.out, hw⟩
        have Hc := Lib.hid (whole_yes x wr hw)
        clear hw
        go_wp2_with (go_at_call 96; refine Hc.out.mono ?_; rintro e w1 ⟨rfl, hb1⟩)
        go_ret
        exact ⟨(k : Int), fun _ => by omega, fun h => absurd hin.out h, rfl, HB.out.trans (hb1.mono HB.out.size)⟩
      · have hn : Hid (∀ j v, j < k + 1 → F[j]? = some v → ¬ Whole v) := by
          intro j v hj hv
          by_cases e : j = k
          · subst e; rw [HX.out] at hv; cases hv; exact hw
          · exact hr.out j v (by omega) hv
        have Hc := Lib.hid (whole_no x wr hw)
        clear hw
        go_wp2_with (go_at_call 96; refine Hc.out.mono ?_; rintro e w1 ⟨rfl, hb1⟩)
        go_roundw
        case rel => exact ⟨k + 1, by omega, by go_num, HB.out.trans (hb1.mono HB.out.size), hn⟩
        case measure => simp [intOf]; omega
    · have e : k = F.length := by omega
      have hno : Hid (¬ anyWhole F) := by
        rintro ⟨v, hv, hw⟩
        obtain ⟨j, hj⟩ := List.getElem?_of_mem hv
        exact hr.out j v (by have := (List.getElem?_eq_some_iff.1 hj).1; omega) hj hw
      subst e
      go_wp2
      go_ret
      exact ⟨-1, fun h => absurd h hno.out, fun _ => rfl, rfl, HB.out⟩

set_option maxHeartbeats 4000000 in
set_option maxRecDepth 100000 in
theorem endless_any (m : Mx) (a : Option Addr) (c : Nat) (F : List Vec) (r : Bool) (w : World) (hF : VecsAt w a F) (hl : F.length ≤ 20000000) (hr : r = true ↔ anyWhole F) :
    Calls Try.prog 79 #[.agg #[.int .i64 (m).r0.a, .int .i64 (m).r0.b, .int .i64 (m).r0.c, .int .i64 (m).r0.d, .int .i64 (m).r1.a, .int .i64 (m).r1.b, .int .i64 (m).r1.c, .int .i64 (m).r1.d, .int .i64 ((m).n : Int), .slice a F.length c]] w fun e w' => e = .returned (.bool r) ∧ Below w.heap.size w w' := by
  have HB := Lib.hid (below_alloc1 w (.cells #[.int .i64 (m).r0.a, .int .i64 (m).r0.b, .int .i64 (m).r0.c, .int .i64 (m).r0.d, .int .i64 (m).r1.a, .int .i64 (m).r1.b, .int .i64 (m).r1.c, .int .i64 (m).r1.d, .int .i64 ((m).n : Int), .slice a F.length c] 77))
  have H := Lib.hid (indexW_any a c F _ (hF.keep (Nat.le_refl _) HB.out) hl)
  have HC : Hid (Calls Try.prog 101 #[.slice a F.length c, .func (.func 96) #[] #[]] (w.alloc (.cells #[.int .i64 (m).r0.a, .int .i64 (m).r0.b, .int .i64 (m).r0.c, .int .i64 (m).r0.d, .int .i64 (m).r1.a, .int .i64 (m).r1.b, .int .i64 (m).r1.c, .int .i64 (m).r1.d, .int .i64 ((m).n : Int), .slice a F.length c] 77)) fun e w' => BoolB r (w.alloc (.cells #[.int .i64 (m).r0.a, .int .i64 (m).r0.b, .int .i64 (m).r0.c, .int .i64 (m).r0.d, .int .i64 (m).r1.a, .int .i64 (m).r1.b, .int .i64 (m).r1.c, .int .i64 (m).r1.d, .int .i64 ((m).n : Int), .slice a F.length c] 77)) e w') := by
    have HR := Lib.hid hr
    clear hr hF
    generalize w.alloc (.cells #[.int .i64 (m).r0.a, .int .i64 (m).r0.b, .int .i64 (m).r0.c, .int .i64 (m).r0.d, .int .i64 (m).r1.a, .int .i64 (m).r1.b, .int .i64 (m).r1.c, .int .i64 (m).r1.d, .int .i64 ((m).n : Int), .slice a F.length c] 77) = w0 at H ⊢
    cases r
    · simp only [Hid]
      go_enter Try.func101, Try.ntmps101
      go_wp2_with fail
      refine H.out.mono ?_
      rintro e w1 ⟨i, h1, h2, rfl, hb⟩
      have hi := h2 (fun h => by have := HR.out.2 h; cases this)
      subst hi
      clear h1 h2
      have HB1 := Lib.hid hb
      clear hb
      go_wp2
      go_ret
      exact ⟨rfl, HB1.out⟩
    · simp only [Hid]
      go_enter Try.func101, Try.ntmps101
      go_wp2_with fail
      refine H.out.mono ?_
      rintro e w1 ⟨i, h1, h2, rfl, hb⟩
      have hi := h1 (HR.out.1 (by simp))
      clear h1 h2
      have HB1 := Lib.hid hb
      clear hb
      go_wp2
      go_ret
      exact ⟨rfl, HB1.out⟩
  clear hF hr H
  go_enter Try.func79, Try.ntmps79
  go_wp2_with fail
  refine HC.out.mono ?_
  rintro e w1 ⟨rfl, hb⟩
  have HB1 : Hid (Below w.heap.size w w1) := HB.out.trans (hb.mono (by simp))
  clear hb
  go_wp2
  go_ret
  exact ⟨rfl, HB1.out⟩

/-- The vectors without numbers below 0 that are a basic move from v. -/
def nearOf (F : List Vec) (v : Vec) : List Vec := (F.map (add v)).filter fun u => decide (Whole u)
theorem nearOf_snoc {F : List Vec} {v x : Vec} : nearOf (F ++ [x]) v = if Whole (add v x) then nearOf F v ++ [add v x] else nearOf F v := by
  unfold nearOf
  rw [List.map_append, List.filter_append]
  by_cases h : Whole (add v x)
  · rw [if_pos h]; congr 1
    rw [List.map_cons, List.map_nil, List.filter_cons, if_pos (by simpa using h)]; rfl
  · rw [if_neg h, List.map_cons, List.map_nil, List.filter_cons, if_neg (by simpa using h)]; simp
theorem nearOf_len {F : List Vec} {v : Vec} : (nearOf F v).length ≤ F.length := Nat.le_trans (List.length_filter_le _ _) (by simp)
theorem mem_nearOf {F : List Vec} {v u : Vec} : u ∈ nearOf F v ↔ ∃ b ∈ F, u = add v b ∧ Whole u := by
  unfold nearOf
  rw [List.mem_filter, List.mem_map]
  constructor
  · rintro ⟨⟨b, hb, rfl⟩, hw⟩; exact ⟨b, hb, rfl, by simpa using hw⟩
  · rintro ⟨b, hb, rfl, hw⟩; exact ⟨⟨b, hb, rfl⟩, by simpa using hw⟩

def NearOut (F : List Vec) (v : Vec) (w : World) (e : Ending) (w' : World) : Prop := ∃ val, e = .returned val ∧ OwnV w' w.heap.size val (nearOf F v) ∧ Below w.heap.size w w'
end Go.Proofs.Ytaglbnblfhfkeaa

namespace Go.Proofs.Ytaglbnblfhfkeaa
open Go.RowKit

structure NearAt (w wr : World) (v : Vec) (l : List Vec) (val : Value) : Prop where
  own : OwnV wr (w.heap.size + 2) val l
  box : wr.heap[w.heap.size + 1]? = some (.cells #[.int .i64 (v).a, .int .i64 (v).b, .int .i64 (v).c, .int .i64 (v).d] 61)
  below : Below w.heap.size w wr
theorem NearAt.lt {w wr : World} {v : Vec} {l : List Vec} {val : Value} (h : NearAt w wr v l val) : w.heap.size + 1 < wr.heap.size := (Array.getElem?_eq_some_iff.1 h.box).1
theorem NearAt.keep {w wr w' : World} {v : Vec} {l : List Vec} {val : Value} (h : NearAt w wr v l val) (hb : Below wr.heap.size wr w') : NearAt w w' v l val :=
  ⟨h.own.keep hb, (hb.block _ h.lt).trans h.box, h.below.trans (hb.mono h.below.size)⟩

theorem near_plus {u v : Vec} (hu : near 1000 u) (hv : near 500 v) : near 1000000000 (add u v) := by simp only [near, add] at *; omega
theorem near_big' {v : Vec} (h : near 1000 v) : near 1000000000 v := by simp only [near] at *; omega

set_option maxHeartbeats 8000000 in
set_option maxRecDepth 100000 in
theorem near_any (m : Mx) (a : Option Addr) (c : Nat) (F : List Vec) (v : Vec) (w : World) (hF : VecsAt w a F) (hl : F.length ≤ 20000000) (hv : near 1000 v) (hFn : ∀ x ∈ F, near 500 x) :
    Calls Try.prog 102 #[.agg #[.int .i64 (m).r0.a, .int .i64 (m).r0.b, .int .i64 (m).r0.c, .int .i64 (m).r0.d, .int .i64 (m).r1.a, .int .i64 (m).r1.b, .int .i64 (m).r1.c, .int .i64 (m).r1.d, .int .i64 ((m).n : Int), .slice a F.length c], .agg #[.int .i64 (v).a, .int .i64 (v).b, .int .i64 (v).c, .int .i64 (v).d]] w fun e w' => NearOut F v w e w' := by
  have H := Lib.hid hF
  have HV := Lib.hid hv
  have HFn := Lib.hid hFn
  have HS : Hid (NearAt w ((w.alloc (.cells #[.int .i64 (m).r0.a, .int .i64 (m).r0.b, .int .i64 (m).r0.c, .int .i64 (m).r0.d, .int .i64 (m).r1.a, .int .i64 (m).r1.b, .int .i64 (m).r1.c, .int .i64 (m).r1.d, .int .i64 ((m).n : Int), .slice a F.length c] 77)).alloc (.cells #[.int .i64 (v).a, .int .i64 (v).b, .int .i64 (v).c, .int .i64 (v).d] 61)) v (nearOf (F.take 0) v) (.slice none 0 0)) := ⟨OwnV.nil _ _, heap_two2 _ _ _, below_two _ _ _⟩
  clear hF hv hFn
  go_enter Try.func102, Try.ntmps102
  go_wp2
  go_loopw [5, 12] (fun val i wr => ∃ k : Nat, k ≤ F.length ∧ i = .int .i64 k ∧ NearAt w wr v (nearOf (F.take k) v) val) (fun _ i _ => F.length - (intOf i).toNat)
  case atStart => exact ⟨0, Nat.zero_le _, rfl, HS.out⟩
  case round =>
    obtain ⟨k, hk, rfl, hS⟩ := hrel
    have HS1 := Lib.hid hS
    clear HS
    by_cases hlt : k < F.length
    · obtain ⟨wo, hwo⟩ : ∃ wo : World, wo = wr := ⟨_, rfl⟩
      subst hwo
      obtain ⟨x, hx⟩ : ∃ x, F[k]? = some x := ⟨_, List.getElem?_eq_getElem (by omega)⟩
      obtain ⟨bx, rfl, d0, d1, d2, d3⟩ := (H.out.keep (Nat.le_refl _) hS.below) k x hx
      have HX : Hid (near 500 x) := HFn.out x (List.mem_of_getElem? hx)
      have HT : Hid (nearOf (F.take (k + 1)) v = if Whole (add v x) then nearOf (F.take k) v ++ [add v x] else nearOf (F.take k) v) := by
        simp only [Hid]; rw [List.take_add_one, hx]; exact nearOf_snoc
      have hol : (nearOf (F.take k) v).length ≤ 20000000 := Nat.le_trans nearOf_len (by rw [List.length_take]; omega)
      have c8 := vecS_cells hS.box
      have hs1 := hS.lt
      have HS2 := Lib.hid (hS.keep (below_alloc1 wo (.cells #[.int .i64 (x).a, .int .i64 (x).b, .int .i64 (x).c, .int .i64 (x).d] 61)))
      clear hS hx
      generalize nearOf (F.take k) v = L1 at HS1 HS2 HT hol
      go_wp2_with fail
      refine (vplus_any v x _ (near_big' HV.out) (near_big HX.out)).mono ?_
      rintro e w2 ⟨rfl, hb2⟩
      have HS3 := Lib.hid (HS2.out.keep hb2)
      have HS4 := Lib.hid (HS3.out.keep (below_alloc1 w2 (.cells #[.int .i64 (add v x).a, .int .i64 (add v x).b, .int .i64 (add v x).c, .int .i64 (add v x).d] 61)))
      have HN : Hid (near 1000000000 (add v x)) := near_plus HV.out HX.out
      clear hb2 c8 d0 d1 d2 d3
      generalize add v x = u at HS4 HN HT
      by_cases hw : Whole u
      · have Hc := Lib.hid (whole_yes u (w2.alloc (.cells #[.int .i64 (u).a, .int .i64 (u).b, .int .i64 (u).c, .int .i64 (u).d] 61)) hw)
        have HW := Lib.hid hw
        clear hw
        go_wp2_with fail
        refine Hc.out.mono ?_
        rintro e w3 ⟨rfl, hb3⟩
        have HS5 := Lib.hid (HS4.out.keep hb3)
        have c3 := vecS_cells ((hb3.block w2.heap.size (by simp)).trans (heap_alloc_new w2 (.cells #[.int .i64 (u).a, .int .i64 (u).b, .int .i64 (u).c, .int .i64 (u).d] 61)))
        have hsz3 : w2.heap.size < w3.heap.size := by have := hb3.size; simp at this; omega
        have hs5 := HS5.out.lt
        clear hb3 Hc
        obtain ⟨i0, hi, hz0, hz1, hz2⟩ := info_parts Try.info61
        go_wp2_with (at_builtin; refine wpList_append_where _ rfl _ _ 67 rfl (w.heap.size + 2) 61 i0 (.agg #[.int .i64 0, .int .i64 0, .int .i64 0, .int .i64 0]) 4 32 Try.underlying67 hi hz0 hz1 hz2 rfl (by decide) _ _ _ rfl (HS5.out.own.alloc _) ⟨w3.heap.size, 0, none⟩ 1 1 (vcell u) rfl rfl (four_new _ _ _) (four_ok _) (by omega) (by unfold maxLen; omega) (by omega) (by simp; omega) ?_)
        intro v' w5 hown hgrow hwhere
        have hltb : ∀ k, u5.ownBlock = some k → w.heap.size + 2 ≤ k := fun k hk => (World.ownsRow.lt HS5.out.own k hk).1
        have HS6 : Hid (NearAt w w5 v (nearOf (F.take (k + 1)) v) v') := by
          refine ⟨?_, ?_, (HS5.out.below.alloc HS5.out.below.size _).grown hgrow (by simp; omega) (fun k hk => by have := hltb k hk; omega)⟩
          · rw [HT.out, if_pos HW.out]; exact OwnV.snoc hown
          · rw [hgrow.block _ (by simp; omega) (fun e => by have := hltb _ e.symm; omega), Below.heap_alloc _ _ _ HS5.out.lt]; exact HS5.out.box
        clear hown hgrow hwhere c3 hltb
        go_wp2
        go_roundw
        case rel => exact ⟨k + 1, by omega, by go_num, HS6.out⟩
        case measure => simp [intOf]; omega
      · have Hc := Lib.hid (whole_no u (w2.alloc (.cells #[.int .i64 (u).a, .int .i64 (u).b, .int .i64 (u).c, .int .i64 (u).d] 61)) hw)
        have HW := Lib.hid hw
        clear hw
        go_wp2_with fail
        refine Hc.out.mono ?_
        rintro e w3 ⟨rfl, hb3⟩
        have HS6 : Hid (NearAt w w3 v (nearOf (F.take (k + 1)) v) u5) := by
          simp only [Hid]; rw [HT.out, if_neg HW.out]; exact HS4.out.keep hb3
        clear hb3 Hc
        go_wp2
        go_roundw
        case rel => exact ⟨k + 1, by omega, by go_num, HS6.out⟩
        case measure => simp [intOf]; omega
    · have e : k = F.length := by omega
      have HO : Hid (OwnV wr w.heap.size u5 (nearOf F v) ∧ Below w.heap.size w wr) := by
        rw [e, List.take_of_length_le (Nat.le_refl _)] at hS
        exact ⟨hS.own.mono (by omega), hS.below⟩
      clear hS
      subst e
      go_wp2
      go_ret
      exact ⟨_, rfl, HO.out.1, HO.out.2⟩
end Go.Proofs.Ytaglbnblfhfkeaa

namespace Go.Proofs.Ytaglbnblfhfkeaa
open Go.RowKit
open Go.Maps (Keyed)

theorem wpList_insert_set (w : World) {ops : Array Oper} {rest : List Oper} {o : Oper} {a : Act} {Q : Exit → Act → World → Prop} (hg : o.guard = none) (m x y : Operand) (hop : o.op = Op.insert 120 m x y)
    (b n : Nat) (S : Vec → Prop) (hm : a.eval m = .map (some b)) (hown : OwnSet w b n S) (hn : n < maxLen) (v : Vec) (hv : near 1000000000 v) (hx : a.eval x = .agg #[.int .i64 (v).a, .int .i64 (v).b, .int .i64 (v).c, .int .i64 (v).d]) (hy : a.eval y = .bool true)
    (hK : ∀ w', OwnSet w' b (n + 1) (fun u => S u ∨ u = v) → w.grownBy w' (some b) → wpList Try.prog ops Q rest (a.put o.dst undef) w') : wpList Try.prog ops Q (o :: rest) a w := by
  obtain ⟨D, h1, h2⟩ := hown
  refine wpList_plain hg fun K' hK' => ?_
  obtain ⟨w', hrun, r1, r2⟩ := h1.update vec_keyed Try.underlying120 hn (key_vec v hv) (val := .bool true) (d := .lit (.bool true)) (ps := []) (plainElem_bool Try.underlying4 true)
  unfold Oper.wp
  simp [execOp, hop, hm, hx, hy, hrun, Result.andThen]
  refine hK' _ _ (hK w' ⟨_, r1, fun u hu => ?_⟩ r2)
  by_cases e : u = v
  · subst e
    exact ⟨fun _ => Maps.atKey_put_same h1.isMap (vec_keyed.key (key_vec u hu)) _ _, fun h => absurd (Or.inr rfl) h⟩
  · have hne : keyLit u ≠ keyLit v := fun h => e (keyLit_inj hu hv h)
    rw [Maps.atKey_put_other hne]
    refine ⟨fun h => (h2 u hu).1 (h.resolve_right e), fun h => (h2 u hu).2 fun h' => h (Or.inl h')⟩
end Go.Proofs.Ytaglbnblfhfkeaa
