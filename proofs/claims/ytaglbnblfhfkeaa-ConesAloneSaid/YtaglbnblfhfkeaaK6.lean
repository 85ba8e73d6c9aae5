import Derived.Test.YtaglbnblfhfkeaaK4
namespace Go.Proofs.Ytaglbnblfhfkeaa
open Go.RowKit

/-! ### cones.family -/
def FamOk (m : Mx) (x : Vec) (w : World) (e : Ending) (w' : World) : Prop := ∃ val l, e = .returned (.tuple #[.agg #[.int .i64 (m).r0.a, .int .i64 (m).r0.b, .int .i64 (m).r0.c, .int .i64 (m).r0.d, .int .i64 (m).r1.a, .int .i64 (m).r1.b, .int .i64 (m).r1.c, .int .i64 (m).r1.d, .int .i64 ((m).n : Int)], val, .int .i64 0]) ∧ OwnV w' w.heap.size val l ∧ IsFam m x l ∧ l.length ≤ 270234665281 ∧ Below w.heap.size w w'
def FamNo (c : Int) (w : World) (e : Ending) (w' : World) : Prop := ∃ r0 r1 : Nat → Int, ∃ n : Int, e = .returned (.tuple #[.agg #[.int .i64 (r0 0), .int .i64 (r0 1), .int .i64 (r0 2), .int .i64 (r0 3), .int .i64 (r1 0), .int .i64 (r1 1), .int .i64 (r1 2), .int .i64 (r1 3), .int .i64 n], .slice none 0 0, .int .i64 c]) ∧ Below w.heap.size w w'

theorem nine_cells {w : World} {b : Nat} {T : TypeId} (h : w.heap[b]? = some (.cells #[.int .i64 0, .int .i64 0, .int .i64 0, .int .i64 0, .int .i64 0, .int .i64 0, .int .i64 0, .int .i64 0, .int .i64 0] T)) :
    w.cell? ⟨b, 0, none⟩ = some (.int .i64 0) ∧ w.cell? ⟨b, 1, none⟩ = some (.int .i64 0) ∧ w.cell? ⟨b, 2, none⟩ = some (.int .i64 0) ∧ w.cell? ⟨b, 3, none⟩ = some (.int .i64 0) ∧ w.cell? ⟨b, 4, none⟩ = some (.int .i64 0) ∧
    w.cell? ⟨b, 5, none⟩ = some (.int .i64 0) ∧ w.cell? ⟨b, 6, none⟩ = some (.int .i64 0) ∧ w.cell? ⟨b, 7, none⟩ = some (.int .i64 0) ∧ w.cell? ⟨b, 8, none⟩ = some (.int .i64 0) ∧ ∀ j, w.frozen? ⟨b, j, none⟩ = false :=
  ⟨block_cell h 0, block_cell h 1, block_cell h 2, block_cell h 3, block_cell h 4, block_cell h 5, block_cell h 6, block_cell h 7, block_cell h 8, block_free h⟩

set_option maxHeartbeats 4000000 in
set_option maxRecDepth 100000 in
theorem ffamily_fails (arg ax : Value) (w : World) (Hr : ∀ w0, Calls Try.prog 58 #[arg, ax, .int .i64 0, .int .i64 6] (w.alloc w0) fun e w' => SomeBoth (w.alloc w0) e w') :
    Calls Try.prog 77 #[arg, ax] w fun e w' => FamNo 2 w e w' := by
  have HR := Lib.hid (Hr (.cells #[.int .i64 0, .int .i64 0, .int .i64 0, .int .i64 0, .int .i64 0, .int .i64 0, .int .i64 0, .int .i64 0, .int .i64 0] 64))
  clear Hr
  go_enter Try.func77, Try.ntmps77
  go_wp2_with fail
  refine HR.out.mono ?_
  rintro e w1 ⟨r0, r1, v, c, rfl, hb⟩
  have h0 := (hb.block w.heap.size (by simp)).trans (heap_alloc_new w (.cells #[.int .i64 0, .int .i64 0, .int .i64 0, .int .i64 0, .int .i64 0, .int .i64 0, .int .i64 0, .int .i64 0, .int .i64 0] 64))
  have c0 := nine_cells h0
  have hs : w.heap.size < w1.heap.size := (Array.getElem?_eq_some_iff.1 h0).1
  have HB : Hid (Below w.heap.size w w1) := (below_alloc1 w _).trans (hb.mono (by simp))
  clear hb h0
  go_wp2
  refine bodyPost_ret (v := .tuple #[.agg #[.int .i64 (r0 0), .int .i64 (r0 1), .int .i64 (r0 2), .int .i64 (r0 3), .int .i64 (r1 0), .int .i64 (r1 1), .int .i64 (r1 2), .int .i64 (r1 3), .int .i64 c], .slice none 0 0, .int .i64 2]) (by simp [results, Try.results77, go_sem, c0, hs, Nat.lt_succ_of_lt hs]) rfl ⟨r0, r1, c, rfl, ?_⟩
  exact ((below_set9 HB.out (Nat.le_refl _) _ _ _ _ _ _ _ _ _).alloc (by simp; omega) _).alloc (by simp; omega) _

theorem own_set9 {base b : Nat} {w : World} {val : Value} {l : List Vec} (h : OwnV w base val l) (hb : b < base) (v0 v1 v2 v3 v4 v5 v6 v7 v8 : Value) :
    OwnV (((((((((w.setCell ⟨b, 0, none⟩ v0).setCell ⟨b, 1, none⟩ v1).setCell ⟨b, 2, none⟩ v2).setCell ⟨b, 3, none⟩ v3).setCell ⟨b, 4, none⟩ v4).setCell ⟨b, 5, none⟩ v5).setCell ⟨b, 6, none⟩ v6).setCell ⟨b, 7, none⟩ v7).setCell ⟨b, 8, none⟩ v8) base val l :=
  ((((((((h.setOther hb _ _).setOther hb _ _).setOther hb _ _).setOther hb _ _).setOther hb _ _).setOther hb _ _).setOther hb _ _).setOther hb _ _).setOther hb _ _

set_option maxHeartbeats 8000000 in
set_option maxRecDepth 100000 in
theorem ffamily_core (m : Mx) (x : Vec) (arg ax : Value) (w : World) (hm : m.ok) (hxc : inCols m.n x) (hx : Whole x) (hn : Vec.norm x ≤ 24)
    (Hr : ∀ w0, Calls Try.prog 58 #[arg, ax, .int .i64 0, .int .i64 6] (w.alloc w0) fun e w' => ReadsBoth m x (w.alloc w0) e w') :
    Calls Try.prog 77 #[arg, ax] w fun e w' => ((∃ b, Basic m b ∧ Whole b) → FamNo 5 w e w') ∧ ((¬ ∃ b, Basic m b ∧ Whole b) → FamOk m x w e w') := by
  have HR := Lib.hid (Hr (.cells #[.int .i64 0, .int .i64 0, .int .i64 0, .int .i64 0, .int .i64 0, .int .i64 0, .int .i64 0, .int .i64 0, .int .i64 0] 64))
  have HM := Lib.hid hm
  have HXC := Lib.hid hxc
  have HX := Lib.hid hx
  have HN := Lib.hid hn
  clear Hr hm hxc hx hn
  by_cases hpure : ∃ b, Basic m b ∧ Whole b
  · have HP := Lib.hid hpure
    refine Calls.mono (show Calls Try.prog 77 #[arg, ax] w fun e w' => FamNo 5 w e w' from ?_) fun e w' h => ⟨fun _ => h, fun h' => absurd HP.out h'⟩
    clear hpure
    go_enter Try.func77, Try.ntmps77
    go_wp2_with fail
    refine HR.out.mono ?_
    rintro e w1 ⟨rfl, hb⟩
    have h0 := (hb.block w.heap.size (by simp)).trans (heap_alloc_new w (.cells #[.int .i64 0, .int .i64 0, .int .i64 0, .int .i64 0, .int .i64 0, .int .i64 0, .int .i64 0, .int .i64 0, .int .i64 0] 64))
    have hs : w.heap.size < w1.heap.size := (Array.getElem?_eq_some_iff.1 h0).1
    have HB : Hid (Below w.heap.size w w1) := (below_alloc1 w _).trans (hb.mono (by simp))
    have H0 := Lib.hid h0
    clear hb h0
    go_wp2_with fail
    refine (newTask_any m _ HM.out).mono ?_
    rintro e w2 ⟨a1, c1, F, rfl, hO, hA, hb2⟩
    have h2 := (hb2.block w.heap.size (by simp; omega)).trans ((Below.heap_alloc _ _ _ (by simp; omega)).trans ((Below.heap_alloc _ _ _ hs).trans H0.out))
    have hm2 := (hb2.block w1.heap.size (by simp; omega)).trans (heap_two1 w1 (.cells #[.int .i64 (m).r0.a, .int .i64 (m).r0.b, .int .i64 (m).r0.c, .int .i64 (m).r0.d, .int .i64 (m).r1.a, .int .i64 (m).r1.b, .int .i64 (m).r1.c, .int .i64 (m).r1.d, .int .i64 ((m).n : Int)] 64) (.cells #[.int .i64 (x).a, .int .i64 (x).b, .int .i64 (x).c, .int .i64 (x).d] 61))
    have H2 := Lib.hid h2
    have HM2 := Lib.hid hm2
    have HB2 : Hid (Below w.heap.size w w2) := ((HB.out.alloc HB.out.size _).alloc (by simp; omega) _).trans (hb2.mono (by simp; omega))
    have HO := Lib.hid hO
    have HE : Hid (anyWhole F) := by obtain ⟨b, h1, h3⟩ := HP.out; exact ⟨b, (hA.mem b).2 h1, h3⟩
    have hfl : F.length ≤ 20000000 := Nat.le_trans (hA.few HM.out) (by omega)
    have hs2 : w1.heap.size < w2.heap.size := (Array.getElem?_eq_some_iff.1 hm2).1
    have hs3 : w.heap.size < w2.heap.size := by omega
    clear hO hA hb2 h2 hm2
    go_wp2_with fail
    refine (endless_any m _ _ F true _ (HO.out.keep (below_alloc1 _ _)).vecs hfl ⟨fun _ => HE.out, fun _ => rfl⟩).mono ?_
    rintro e w3 ⟨rfl, hb3⟩
    have h3 := (hb3.block w.heap.size (by simp; omega)).trans ((Below.heap_alloc _ _ _ hs3).trans H2.out)
    have hm3 := (hb3.block w1.heap.size (by simp; omega)).trans ((Below.heap_alloc _ _ _ hs2).trans HM2.out)
    have c0 := nine_cells h3
    have c1 := matS_cells hm3
    have hs4 : w1.heap.size < w3.heap.size := (Array.getElem?_eq_some_iff.1 hm3).1
    have hs5 : w.heap.size < w3.heap.size := by omega
    have HB3 : Hid (Below w.heap.size w w3) := (HB2.out.alloc HB2.out.size _).trans (hb3.mono (by simp; omega))
    clear hb3 h3 hm3
    go_wp2
    exact bodyPost_ret (v := .tuple #[.agg #[.int .i64 (m).r0.a, .int .i64 (m).r0.b, .int .i64 (m).r0.c, .int .i64 (m).r0.d, .int .i64 (m).r1.a, .int .i64 (m).r1.b, .int .i64 (m).r1.c, .int .i64 (m).r1.d, .int .i64 ((m).n : Int)], .slice none 0 0, .int .i64 5]) (by simp [results, Try.results77, go_sem, c0]) rfl ⟨m.r0.at', m.r1.at', m.n, rfl, below_set9 HB3.out (Nat.le_refl _) _ _ _ _ _ _ _ _ _⟩
  · have HP := Lib.hid hpure
    refine Calls.mono (show Calls Try.prog 77 #[arg, ax] w fun e w' => FamOk m x w e w' from ?_) fun e w' h => ⟨fun h' => absurd h' HP.out, fun _ => h⟩
    clear hpure
    go_enter Try.func77, Try.ntmps77
    go_wp2_with fail
    refine HR.out.mono ?_
    rintro e w1 ⟨rfl, hb⟩
    have h0 := (hb.block w.heap.size (by simp)).trans (heap_alloc_new w (.cells #[.int .i64 0, .int .i64 0, .int .i64 0, .int .i64 0, .int .i64 0, .int .i64 0, .int .i64 0, .int .i64 0, .int .i64 0] 64))
    have hs : w.heap.size < w1.heap.size := (Array.getElem?_eq_some_iff.1 h0).1
    have HB : Hid (Below w.heap.size w w1) := (below_alloc1 w _).trans (hb.mono (by simp))
    have H0 := Lib.hid h0
    clear hb h0
    go_wp2_with fail
    refine (newTask_any m _ HM.out).mono ?_
    rintro e w2 ⟨a1, c1, F, rfl, hO, hA, hb2⟩
    have h2 := (hb2.block w.heap.size (by simp; omega)).trans ((Below.heap_alloc _ _ _ (by simp; omega)).trans ((Below.heap_alloc _ _ _ hs).trans H0.out))
    have hm2 := (hb2.block w1.heap.size (by simp; omega)).trans (heap_two1 w1 (.cells #[.int .i64 (m).r0.a, .int .i64 (m).r0.b, .int .i64 (m).r0.c, .int .i64 (m).r0.d, .int .i64 (m).r1.a, .int .i64 (m).r1.b, .int .i64 (m).r1.c, .int .i64 (m).r1.d, .int .i64 ((m).n : Int)] 64) (.cells #[.int .i64 (x).a, .int .i64 (x).b, .int .i64 (x).c, .int .i64 (x).d] 61))
    have hx2 := (hb2.block (w1.heap.size + 1) (by simp)).trans (heap_two2 w1 (.cells #[.int .i64 (m).r0.a, .int .i64 (m).r0.b, .int .i64 (m).r0.c, .int .i64 (m).r0.d, .int .i64 (m).r1.a, .int .i64 (m).r1.b, .int .i64 (m).r1.c, .int .i64 (m).r1.d, .int .i64 ((m).n : Int)] 64) (.cells #[.int .i64 (x).a, .int .i64 (x).b, .int .i64 (x).c, .int .i64 (x).d] 61))
    have H2 := Lib.hid h2
    have HM2 := Lib.hid hm2
    have HX2 := Lib.hid hx2
    have HB2 : Hid (Below w.heap.size w w2) := ((HB.out.alloc HB.out.size _).alloc (by simp; omega) _).trans (hb2.mono (by simp; omega))
    have HO := Lib.hid hO
    have HA := Lib.hid hA
    have HE : Hid (¬ anyWhole F) := by rintro ⟨b, h1, h3⟩; exact HP.out ⟨b, (hA.mem b).1 h1, h3⟩
    have hfl : F.length ≤ 20000000 := Nat.le_trans (hA.few HM.out) (by omega)
    have hs2 : w1.heap.size + 1 < w2.heap.size := (Array.getElem?_eq_some_iff.1 hx2).1
    have hs3 : w.heap.size < w2.heap.size := by omega
    have hs2' : w1.heap.size < w2.heap.size := by omega
    clear hO hA hb2 h2 hm2 hx2
    go_wp2_with fail
    refine (endless_any m _ _ F false _ (HO.out.keep (below_alloc1 _ _)).vecs hfl ⟨fun h => (by cases h), fun h => absurd h HE.out⟩).mono ?_
    rintro e w3 ⟨rfl, hb3⟩
    have h3 := (hb3.block w.heap.size (by simp; omega)).trans ((Below.heap_alloc _ _ _ hs3).trans H2.out)
    have hm3 := (hb3.block w1.heap.size (by simp; omega)).trans ((Below.heap_alloc _ _ _ hs2').trans HM2.out)
    have hx3 := (hb3.block (w1.heap.size + 1) (by simp; omega)).trans ((Below.heap_alloc _ _ _ hs2).trans HX2.out)
    have ht3 := (hb3.block w2.heap.size (by simp)).trans (heap_alloc_new w2 (.cells #[.int .i64 (m).r0.a, .int .i64 (m).r0.b, .int .i64 (m).r0.c, .int .i64 (m).r0.d, .int .i64 (m).r1.a, .int .i64 (m).r1.b, .int .i64 (m).r1.c, .int .i64 (m).r1.d, .int .i64 ((m).n : Int), .slice a1 F.length c1] 77))
    have H3 := Lib.hid h3
    have HM3 := Lib.hid hm3
    have c1' := matS_cells hm3
    have c2' := vecS_cells hx3
    have c3' := task_cells ht3
    have HO3 := Lib.hid ((HO.out.keep (below_alloc1 _ _)).keep hb3)
    have hs6 : w2.heap.size < w3.heap.size := (Array.getElem?_eq_some_iff.1 ht3).1
    have hs4 : w1.heap.size + 1 < w3.heap.size := by omega
    have hs5 : w.heap.size < w3.heap.size := by omega
    have HB3 : Hid (Below w.heap.size w w3) := (HB2.out.alloc HB2.out.size _).trans (hb3.mono (by simp; omega))
    clear hb3 h3 hm3 hx3 ht3
    go_wp2
    go_region_with (go_at_call 100; refine (tfamily_any m _ _ F x _ HM.out (VecsAt.keep HO3.out.vecs (Nat.le_refl _) (Below.refl _ _).drew) HA.out HXC.out HX.out HN.out HE.out).mono ?_; rintro e w4 ⟨val, l, rfl, hOl, hIF, hlen, hb4⟩; have HOl := Lib.hid hOl; have HIF := Lib.hid hIF; have HB4 : Hid (Below w.heap.size w w4) := HB3.out.drew.trans (hb4.mono (by simp; omega)); have q0 := nine_cells ((hb4.block w.heap.size (by simp; omega)).trans H3.out); have q1 := matS_cells ((hb4.block w1.heap.size (by simp; omega)).trans HM3.out); have hs7 : w.heap.size < w4.heap.size := by {have := hb4.size; simp at this; omega}; clear hOl hIF hb4 c1' c2' c3')
    all_goals go_wp2
    all_goals
      exact bodyPost_ret (v := .tuple #[.agg #[.int .i64 (m).r0.a, .int .i64 (m).r0.b, .int .i64 (m).r0.c, .int .i64 (m).r0.d, .int .i64 (m).r1.a, .int .i64 (m).r1.b, .int .i64 (m).r1.c, .int .i64 (m).r1.d, .int .i64 ((m).n : Int)], val, .int .i64 0]) (by simp [results, Try.results77, go_sem, q0]) rfl
        ⟨val, l, rfl, (own_set9 HOl.out (by simp; omega) _ _ _ _ _ _ _ _ _).mono (by simp; omega), HIF.out, hlen, below_set9 HB4.out (Nat.le_refl _) _ _ _ _ _ _ _ _ _⟩
end Go.Proofs.Ytaglbnblfhfkeaa
