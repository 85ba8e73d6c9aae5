import Derived.Test.YtaglbnblfhfkeaaE8
namespace Go.Proofs.Ytaglbnblfhfkeaa
open Go.RowKit

theorem set4_same {w : World} {b : Nat} {T : TypeId} {u v : Vec} (h : w.heap[b]? = some (.cells #[.int .i64 (u).a, .int .i64 (u).b, .int .i64 (u).c, .int .i64 (u).d] T)) :
    ((((w.setCell ⟨b, 0, none⟩ (.int .i64 v.a)).setCell ⟨b, 1, none⟩ (.int .i64 v.b)).setCell ⟨b, 2, none⟩ (.int .i64 v.c)).setCell ⟨b, 3, none⟩ (.int .i64 v.d)).heap[b]? = some (.cells #[.int .i64 (v).a, .int .i64 (v).b, .int .i64 (v).c, .int .i64 (v).d] T) := by
  rw [heap_setCell_same _ _ 3 _ _ _ (heap_setCell_same _ _ 2 _ _ _ (heap_setCell_same _ _ 1 _ _ _ (heap_setCell_same _ _ 0 _ _ _ h)))]
  simp
theorem below_set4' {B b : Nat} {a w : World} (h : Below B a w) (hb : B ≤ b) (v0 v1 v2 v3 : Value) :
    Below B a ((((w.setCell ⟨b, 0, none⟩ v0).setCell ⟨b, 1, none⟩ v1).setCell ⟨b, 2, none⟩ v2).setCell ⟨b, 3, none⟩ v3) :=
  (((h.setCell hb _).setCell hb _).setCell hb _).setCell hb _
theorem set4_other {w : World} {b b' : Nat} (hne : b' ≠ b) (v0 v1 v2 v3 : Value) :
    ((((w.setCell ⟨b, 0, none⟩ v0).setCell ⟨b, 1, none⟩ v1).setCell ⟨b, 2, none⟩ v2).setCell ⟨b, 3, none⟩ v3).heap[b']? = w.heap[b']? := by
  rw [heap_setCell_other _ _ _ _ (by simpa using hne), heap_setCell_other _ _ _ _ (by simpa using hne), heap_setCell_other _ _ _ _ (by simpa using hne), heap_setCell_other _ _ _ _ (by simpa using hne)]
theorem own_set4 {base b : Nat} {w : World} {val : Value} {l : List Vec} (h : OwnV w base val l) (hb : b < base) (v0 v1 v2 v3 : Value) :
    OwnV ((((w.setCell ⟨b, 0, none⟩ v0).setCell ⟨b, 1, none⟩ v1).setCell ⟨b, 2, none⟩ v2).setCell ⟨b, 3, none⟩ v3) base val l :=
  (((h.setOther hb _ _).setOther hb _ _).setOther hb _ _).setOther hb _ _

/-- What holds in split. -/
structure Spl (w wr : World) (m : Mx) (F : List Vec) (x : Vec) (k : Nat) (l : List Vec) (r : Vec) (val : Value) : Prop where
  own : OwnV wr (w.heap.size + 2) val l
  box : wr.heap[w.heap.size + 1]? = some (.cells #[.int .i64 (r).a, .int .i64 (r).b, .int .i64 (r).c, .int .i64 (r).d] 61)
  below : Below w.heap.size w wr
  taken : Taken m F x k l r

theorem Spl.lt {w wr : World} {m : Mx} {F : List Vec} {x : Vec} {k : Nat} {l : List Vec} {r : Vec} {val : Value} (h : Spl w wr m F x k l r val) : w.heap.size + 1 < wr.heap.size := (Array.getElem?_eq_some_iff.1 h.box).1
theorem Spl.keep {w wr w' : World} {m : Mx} {F : List Vec} {x : Vec} {k : Nat} {l : List Vec} {r : Vec} {val : Value} (h : Spl w wr m F x k l r val) (hb : Below wr.heap.size wr w') : Spl w w' m F x k l r val :=
  ⟨h.own.keep hb, (hb.block _ h.lt).trans h.box, h.below.trans (hb.mono h.below.size), h.taken⟩
theorem Spl.next {w wr : World} {m : Mx} {F : List Vec} {x y : Vec} {k : Nat} {l : List Vec} {r : Vec} {val : Value} (h : Spl w wr m F x k l r val) (hy : F[k]? = some y) (hf : ¬ Vec.fits y r) : Spl w wr m F x (k + 1) l r val :=
  ⟨h.own, h.box, h.below, h.taken.next hy hf⟩

theorem near_of {v : Vec} (h : Vec.norm v ≤ 400) : near 1000000000 v := by simp only [Vec.norm, near] at *; omega

/-- Moves of F that fit into x and sum to it. -/
structure SplitOf (F : List Vec) (x : Vec) (l : List Vec) : Prop where
  sum : sumV l = x
  mem : ∀ y ∈ l, y ∈ F ∧ Vec.fits y x
  len : l.length ≤ Vec.norm x
def SplitOut (w : World) (F : List Vec) (x : Vec) (e : Ending) (w' : World) : Prop := ∃ val l, e = .returned val ∧ OwnV w' w.heap.size val l ∧ SplitOf F x l ∧ Below w.heap.size w w'

theorem add_zero' (v : Vec) : add v Vec.zero = v := by apply ext4 <;> simp [add, Vec.zero]

set_option maxHeartbeats 8000000 in
set_option maxRecDepth 100000 in
theorem tsplit_any (m : Mx) (a : Option Addr) (c : Nat) (F : List Vec) (x : Vec) (w : World) (hm : m.ok) (hF : VecsAt w a F) (hA : AllBasic m F) (hc : inCols m.n x) (hmv : isMove m x) (hn : Vec.norm x ≤ 400) :
    Calls Try.prog 72 #[.agg #[.int .i64 (m).r0.a, .int .i64 (m).r0.b, .int .i64 (m).r0.c, .int .i64 (m).r0.d, .int .i64 (m).r1.a, .int .i64 (m).r1.b, .int .i64 (m).r1.c, .int .i64 (m).r1.d, .int .i64 ((m).n : Int), .slice a F.length c], .agg #[.int .i64 (x).a, .int .i64 (x).b, .int .i64 (x).c, .int .i64 (x).d]] w fun e w' => SplitOut w F x e w' := by
  have hl : F.length ≤ 12117361 := hA.few hm
  have H := Lib.hid hF
  have HA := Lib.hid hA
  have HM := Lib.hid hm
  have HN := Lib.hid hn
  have HS : Hid (Spl w ((w.alloc (.cells #[.int .i64 (m).r0.a, .int .i64 (m).r0.b, .int .i64 (m).r0.c, .int .i64 (m).r0.d, .int .i64 (m).r1.a, .int .i64 (m).r1.b, .int .i64 (m).r1.c, .int .i64 (m).r1.d, .int .i64 ((m).n : Int), .slice a F.length c] 77)).alloc (.cells #[.int .i64 (x).a, .int .i64 (x).b, .int .i64 (x).c, .int .i64 (x).d] 61)) m F x 0 [] x (.slice none 0 0)) :=
    ⟨OwnV.nil _ _, heap_two2 _ _ _, below_two _ _ _, Taken.start hc hmv⟩
  clear hF hA hm hc hmv hn
  go_enter Try.func72, Try.ntmps72
  go_wp2
  go_loopg [5, 11] F.length (fun g val i wr => ∃ k l r, k + g = F.length ∧ i = .int .i64 ((k : Nat) : Int) ∧ Spl w wr m F x k l r val)
  case atStart => exact ⟨0, _, _, by omega, rfl, HS.out⟩
  case round =>
    obtain ⟨k, l, r, hk, rfl, hS⟩ := hrel
    have HS1 := Lib.hid hS
    clear hS HS
    cases gk with
    | zero =>
      have hkz : ¬ ((k : Int) < (F.length : Int)) := by omega
      have HE : Hid (OwnV wr w.heap.size u5 l ∧ SplitOf F x l ∧ Below w.heap.size w wr) := by
        have ht := HS1.out.taken
        have e : k = F.length := by omega
        subst e
        have hr := ht.done (fun y hy => (HA.out.mem y).2 hy)
        subst hr
        refine ⟨HS1.out.own.mono (by omega), ⟨?_, ht.mem, by have := ht.len; omega⟩, HS1.out.below⟩
        have := ht.sum
        rwa [add_zero'] at this
      go_wp2
      go_ret
      exact ⟨_, l, rfl, HE.out.1, HE.out.2.1, HE.out.2.2⟩
    | succ g =>
      have hkz : (k : Int) < (F.length : Int) := by omega
      obtain ⟨wo, hwo⟩ : ∃ wo : World, wo = wr := ⟨_, rfl⟩
      subst hwo
      obtain ⟨y, hy⟩ : ∃ y, F[k]? = some y := ⟨_, List.getElem?_eq_getElem (by omega)⟩
      obtain ⟨by', rfl, d0, d1, d2, d3⟩ := (H.out.keep (Nat.le_refl _) HS1.out.below) k y hy
      have HY := Lib.hid hy
      have HYF := Lib.hid (List.mem_of_getElem? hy)
      have HYB : Hid (Basic m y) := (HA.out.mem y).1 HYF.out
      have HYN : Hid (near 1000000000 y) := near_big (near_norm (basic_norm HM.out HYB.out))
      have hltw := HS1.out.lt
      clear hy
      go_wp2
      go_loopg [5] 400 (fun g2 val wx => ∃ l r, Vec.norm r ≤ g2 ∧ Spl w wx m F x k l r val ∧ wx.heap[wo.heap.size]? = some (.cells #[.int .i64 (y).a, .int .i64 (y).b, .int .i64 (y).c, .int .i64 (y).d] 61) ∧ Hid (some wo.heap.size ≠ val.ownBlock))
      case atStart => exact ⟨l, r, Nat.le_trans (Vec.fits_norm HS1.out.taken.fit) HN.out, HS1.out.keep ((Below.refl _ wo).alloc (Nat.le_refl _) _), heap_alloc_new wo _, fun e => by have := (World.ownsRow.lt HS1.out.own _ e.symm).2; omega⟩
      case round =>
        obtain ⟨l2, r2, hg2, hS2, hyb, HNE⟩ := hrel
        obtain ⟨wx, hwx⟩ : ∃ wx : World, wx = wr := ⟨_, rfl⟩
        subst hwx
        have HS2 := Lib.hid hS2
        have HYb := Lib.hid hyb
        have c7 := vecS_cells hyb
        have c8 := vecS_cells hS2.box
        have hlt1 := hS2.lt
        have hlt2 : wo.heap.size < wx.heap.size := (Array.getElem?_eq_some_iff.1 hyb).1
        have hr2n : Vec.norm r2 ≤ 400 := Nat.le_trans (Vec.fits_norm hS2.taken.fit) HN.out
        have HRN : Hid (near 1000000000 r2) := near_of hr2n
        have hl2 : l2.length ≤ 400 := by have := hS2.taken.len; have := HN.out; omega
        clear hS2 hyb
        by_cases hf : Vec.fits y r2
        · have hyn : 1 ≤ Vec.norm y := norm_pos HYB.out.ne
          have hyr : Vec.norm y ≤ Vec.norm r2 := Vec.fits_norm hf
          have hsub : Vec.norm (Vec.sub r2 y) + Vec.norm y = Vec.norm r2 := Vec.norm_sub hf
          obtain ⟨g2, rfl⟩ : ∃ g2, gk = g2 + 1 := ⟨gk - 1, by omega⟩
          have hsub2 : Vec.norm (Vec.sub r2 y) ≤ g2 := by omega
          have HF := Lib.hid hf
          clear hf hyn hyr hsub
          go_wp2_with fail
          refine (vfits_vec y r2 _ true ⟨fun _ => HF.out, fun _ => rfl⟩).mono ?_
          rintro e w3 ⟨rfl, hb3⟩
          have HS3 := Lib.hid (HS2.out.keep hb3)
          have HY3 := Lib.hid ((hb3.block _ hlt2).trans HYb.out)
          have c9 := vecS_cells HY3.out
          have hs3 := hb3.size
          have hlt3 : wo.heap.size < w3.heap.size := by omega
          clear hb3 c7 c8
          obtain ⟨i0, hi, hz0, hz1, hz2⟩ := info_parts Try.info61
          go_wp2_with (at_builtin; refine wpList_append_where _ rfl _ _ 67 rfl (w.heap.size + 2) 61 i0 (.agg #[.int .i64 0, .int .i64 0, .int .i64 0, .int .i64 0]) 4 32 Try.underlying67 hi hz0 hz1 hz2 rfl (by decide) _ _ _ rfl (HS3.out.own.alloc _) ⟨w3.heap.size, 0, none⟩ 1 1 (vcell y) rfl rfl (four_new _ _ _) (four_ok _) (by omega) (by unfold maxLen; omega) (by omega) (by simp; omega) ?_)
          intro v' w5 hown hgrow hwhere
          have hlt : ∀ k, u5.ownBlock = some k → w.heap.size + 2 ≤ k := fun k hk => (World.ownsRow.lt HS3.out.own k hk).1
          have hyne : some wo.heap.size ≠ u5.ownBlock := HNE.out
          have HO5 : Hid (OwnV w5 (w.heap.size + 2) v' (l2 ++ [y])) := OwnV.snoc hown
          have HNE5 : Hid (some wo.heap.size ≠ v'.ownBlock) := by
            rcases hwhere with h | ⟨k, h, hk⟩
            · simp only [Hid]; rw [h]; exact hyne
            · intro e; rw [h] at e; cases e; omega
          have HX5 : Hid (w5.heap[w.heap.size + 1]? = some (.cells #[.int .i64 (r2).a, .int .i64 (r2).b, .int .i64 (r2).c, .int .i64 (r2).d] 61)) := by
            simp only [Hid]
            rw [hgrow.block _ (by simp; omega) (fun e => by have := hlt _ e.symm; omega), Below.heap_alloc _ _ _ HS3.out.lt]; exact HS3.out.box
          have HY5 : Hid (w5.heap[wo.heap.size]? = some (.cells #[.int .i64 (y).a, .int .i64 (y).b, .int .i64 (y).c, .int .i64 (y).d] 61)) := by
            simp only [Hid]
            rw [hgrow.block _ (by simp; omega) hyne, Below.heap_alloc _ _ _ hlt3]; exact HY3.out
          have HB5 : Hid (Below w.heap.size w w5) := (HS3.out.below.alloc HS3.out.below.size _).grown hgrow (by simp; omega) (fun k hk => by have := hlt k hk; omega)
          clear hown hgrow hwhere c9 hlt hyne
          have c10 := vecS_cells HX5.out
          have c11 := vecS_cells HY5.out
          have hlt5 : w.heap.size + 1 < w5.heap.size := (Array.getElem?_eq_some_iff.1 HX5.out).1
          have hlt6 : wo.heap.size < w5.heap.size := (Array.getElem?_eq_some_iff.1 HY5.out).1
          go_wp2_with fail
          refine (vminus_any r2 y _ HRN.out HYN.out).mono ?_
          rintro e w6 ⟨rfl, hb6⟩
          have HO6 := Lib.hid (HO5.out.keep hb6)
          have HX6 := Lib.hid ((hb6.block _ hlt5).trans HX5.out)
          have HY6 := Lib.hid ((hb6.block _ hlt6).trans HY5.out)
          have HB6 : Hid (Below w.heap.size w w6) := HB5.out.trans (hb6.mono HB5.out.size)
          have c12 := vecS_cells HX6.out
          have hlt7 : w.heap.size + 1 < w6.heap.size := (Array.getElem?_eq_some_iff.1 HX6.out).1
          clear hb6 c10 c11
          go_wp2
          go_roundg g2
          case measure => omega
          case rel => exact ⟨l2 ++ [y], Vec.sub r2 y, hsub2, ⟨own_set4 HO6.out (by omega) _ _ _ _, set4_same HX6.out, below_set4' HB6.out (by omega) _ _ _ _, HS2.out.taken.take HYF.out HYB.out HF.out⟩, (set4_other (by omega) _ _ _ _).trans HY6.out, HNE5⟩
        · have HF := Lib.hid hf
          clear hf
          go_wp2_with fail
          refine (vfits_vec y r2 _ false ⟨fun h => (by cases h), fun h => absurd h HF.out⟩).mono ?_
          rintro e w3 ⟨rfl, hb3⟩
          have HS3 := Lib.hid ((HS2.out.keep hb3).next HY.out HF.out)
          clear hb3 c7 c8
          go_wp2
          go_roundg g
          case measure => omega
          case rel => exact ⟨k + 1, l2, r2, by omega, by go_num, HS3.out⟩

def SplitOutL (m : Mx) (x : Vec) (w : World) (e : Ending) (w' : World) : Prop :=
  ∃ a' c' l F, e = .returned (.tuple #[.slice a' l.length c', .int .i64 0]) ∧ VL w' a' m.n l ∧ AllBasic m F ∧ SplitOf F x l ∧ Below w.heap.size w w'
def ReadsBoth (m : Mx) (x : Vec) (w : World) (e : Ending) (w' : World) : Prop := e = .returned (.tuple #[.agg #[.int .i64 (m).r0.a, .int .i64 (m).r0.b, .int .i64 (m).r0.c, .int .i64 (m).r0.d, .int .i64 (m).r1.a, .int .i64 (m).r1.b, .int .i64 (m).r1.c, .int .i64 (m).r1.d, .int .i64 ((m).n : Int)], .agg #[.int .i64 (x).a, .int .i64 (x).b, .int .i64 (x).c, .int .i64 (x).d], .bool true]) ∧ Below w.heap.size w w'
def FailsNone (w : World) (e : Ending) (w' : World) : Prop := e = .returned (.tuple #[.slice none 0 0, .int .i64 4]) ∧ Below w.heap.size w w'

theorem below5 {w w1 w2 wc wd we : World} {o1 o2 : Obj} (h0 : Below w.heap.size w w1) (h1 : Below ((w1.alloc o1).alloc o2).heap.size ((w1.alloc o1).alloc o2) w2) (h2 : Below w2.drew.heap.size w2.drew wc) (h3 : Below wc.heap.size wc wd) (h4 : Below wd.heap.size wd we) : Below w.heap.size w we := by
  have a1 : Below w.heap.size w w2 := ((h0.alloc h0.size o1).alloc (by have := h0.size; simp; omega) o2).trans (h1.mono (by have := h0.size; simp; omega))
  exact below4 a1.drew h2 h3 h4

set_option maxHeartbeats 4000000 in
set_option maxRecDepth 100000 in
theorem fSplit_core (m : Mx) (x : Vec) (arg ax : Value) (w : World) (hm : m.ok) (hc : inCols m.n x) (hmv : isMove m x) (hn : Vec.norm x ≤ 400) (Hr : Calls Try.prog 58 #[arg, ax, .int .i64 (-100), .int .i64 100] w fun e w' => ReadsBoth m x w e w') :
    Calls Try.prog 31 #[arg, ax] w fun e w' => SplitOutL m x w e w' := by
  have hn4 := hm.n4
  have HM := Lib.hid hm
  have HR := Lib.hid Hr
  have HC := Lib.hid hc
  have HMV := Lib.hid hmv
  have HN := Lib.hid hn
  clear hm Hr hc hmv hn
  go_enter Try.func31, Try.ntmps31
  go_wp2_with fail
  refine HR.out.mono ?_
  rintro e w1 ⟨rfl, hb⟩
  have HB := Lib.hid hb
  have hsz := hb.size
  clear hb HR
  go_wp2_with fail
  refine (misMove_any m x _ true HM.out (near_of HN.out) ⟨fun _ => HMV.out, fun _ => rfl⟩).mono ?_
  rintro e w2 ⟨rfl, hb2⟩
  have HB2 := Lib.hid hb2
  have hm2 := (hb2.block w1.heap.size (by simp; omega)).trans (heap_two1 w1 (.cells #[.int .i64 (m).r0.a, .int .i64 (m).r0.b, .int .i64 (m).r0.c, .int .i64 (m).r0.d, .int .i64 (m).r1.a, .int .i64 (m).r1.b, .int .i64 (m).r1.c, .int .i64 (m).r1.d, .int .i64 ((m).n : Int)] 64) (.cells #[.int .i64 (x).a, .int .i64 (x).b, .int .i64 (x).c, .int .i64 (x).d] 61))
  have hx2 := (hb2.block (w1.heap.size + 1) (by simp)).trans (heap_two2 w1 (.cells #[.int .i64 (m).r0.a, .int .i64 (m).r0.b, .int .i64 (m).r0.c, .int .i64 (m).r0.d, .int .i64 (m).r1.a, .int .i64 (m).r1.b, .int .i64 (m).r1.c, .int .i64 (m).r1.d, .int .i64 ((m).n : Int)] 64) (.cells #[.int .i64 (x).a, .int .i64 (x).b, .int .i64 (x).c, .int .i64 (x).d] 61))
  have c0 := matS_cells hm2
  have c1 := vecS_cells hx2
  have hs2 : w1.heap.size + 1 < w2.heap.size := (Array.getElem?_eq_some_iff.1 hx2).1
  have hs1 : w1.heap.size < w2.heap.size := by omega
  have HM2 := Lib.hid hm2
  have HX2 := Lib.hid hx2
  clear hb2 hm2 hx2
  go_wp2
  go_region_with (first
    | (go_at_call 65; refine (newTask_any m _ HM.out).mono ?_; rintro e wc ⟨a1, c1, F, rfl, hO, hA, hb3⟩; have HA := Lib.hid hA; have HO := Lib.hid hO; have HB3 := Lib.hid hb3; have hmc := (hb3.block w1.heap.size (by simp; omega)).trans HM2.out; have hxc := (hb3.block (w1.heap.size + 1) (by simp; omega)).trans HX2.out; have q := matS_cells hmc; have q1 := vecS_cells hxc; have HMc := Lib.hid hmc; have hsc : w1.heap.size + 1 < wc.heap.size := (Array.getElem?_eq_some_iff.1 hxc).1; clear hO hA hb3 hmc hxc c0)
    | (go_at_call 72; refine (tsplit_any m _ _ F x _ HM.out HO.out.vecs HA.out HC.out HMV.out HN.out).mono ?_; rintro e wd ⟨val, l, rfl, hP, hsp, hb4⟩; obtain ⟨a2, c2, rfl, hV, hv1, hv2⟩ := hP.read; have HV := Lib.hid hV; have HSP := Lib.hid hsp; have HB4 := Lib.hid hb4; have hmd := (hb4.block w1.heap.size (by omega)).trans HMc.out; have q2 := matS_cells hmd; clear hP hsp hV hv1 hv2 hb4 hmd)
    | (go_at_call 63; refine (lists_any m _ _ _ _ hn4 HV.out (Nat.le_trans HSP.out.len (Nat.le_trans HN.out (by omega)))).mono ?_; rintro e we ⟨a3, c3, rfl, hVL, hb5⟩; have HVL := Lib.hid hVL; have HB5 := Lib.hid hb5; clear hVL hb5))
  all_goals (go_wp2; go_ret2; exact ⟨a3, c3, l, F, rfl, HVL.out, HA.out, HSP.out, below5 HB.out HB2.out HB3.out HB4.out HB5.out⟩)

set_option maxHeartbeats 4000000 in
set_option maxRecDepth 100000 in
theorem fSplit_none (m : Mx) (x : Vec) (arg ax : Value) (w : World) (hm : m.ok) (hmv : ¬ isMove m x) (hn : Vec.norm x ≤ 400) (Hr : Calls Try.prog 58 #[arg, ax, .int .i64 (-100), .int .i64 100] w fun e w' => ReadsBoth m x w e w') :
    Calls Try.prog 31 #[arg, ax] w fun e w' => FailsNone w e w' := by
  have HM := Lib.hid hm
  have HR := Lib.hid Hr
  have HMV := Lib.hid hmv
  have HN := Lib.hid hn
  clear hm Hr hmv hn
  go_enter Try.func31, Try.ntmps31
  go_wp2_with fail
  refine HR.out.mono ?_
  rintro e w1 ⟨rfl, hb⟩
  have HB := Lib.hid hb
  have hsz := hb.size
  clear hb HR
  go_wp2_with fail
  refine (misMove_any m x _ false HM.out (near_of HN.out) ⟨fun h => (by cases h), fun h => absurd h HMV.out⟩).mono ?_
  rintro e w2 ⟨rfl, hb2⟩
  have HB2 : Hid (Below w.heap.size w w2) := ((HB.out.alloc hsz _).alloc (by simp; omega) _).trans (hb2.mono (by simp; omega))
  clear hb2
  go_wp2
  go_ret2
  exact ⟨rfl, HB2.out⟩

set_option maxHeartbeats 4000000 in
set_option maxRecDepth 100000 in
theorem fSplit_fails (arg ax : Value) (w : World) (Hr : Calls Try.prog 58 #[arg, ax, .int .i64 (-100), .int .i64 100] w fun e w' => SomeBoth w e w') :
    Calls Try.prog 31 #[arg, ax] w fun e w' => Fails w e w' := by
  have HR := Lib.hid Hr
  clear Hr
  go_enter Try.func31, Try.ntmps31
  go_wp2_with fail
  refine HR.out.mono ?_
  rintro e w1 ⟨r0, r1, v, c, rfl, hb⟩
  have HB := Lib.hid ((hb.alloc hb.size (.cells #[.int .i64 (r0 0), .int .i64 (r0 1), .int .i64 (r0 2), .int .i64 (r0 3), .int .i64 (r1 0), .int .i64 (r1 1), .int .i64 (r1 2), .int .i64 (r1 3), .int .i64 c] 64)).alloc (by have := hb.size; simp; omega) (.cells #[.int .i64 (v 0), .int .i64 (v 1), .int .i64 (v 2), .int .i64 (v 3)] 61))
  clear hb
  go_wp2
  go_ret2
  exact ⟨rfl, HB.out⟩
end Go.Proofs.Ytaglbnblfhfkeaa
