import Derived.Test.YtaglbnblfhfkeaaE6
namespace Go.Proofs.Ytaglbnblfhfkeaa
open Go.RowKit

theorem below_set10 {B b : Nat} {a w : World} (h : Below B a w) (hb : B ≤ b) (v0 v1 v2 v3 v4 v5 v6 v7 v8 v9 : Value) :
    Below B a ((((((((((w.setCell ⟨b, 0, none⟩ v0).setCell ⟨b, 1, none⟩ v1).setCell ⟨b, 2, none⟩ v2).setCell ⟨b, 3, none⟩ v3).setCell ⟨b, 4, none⟩ v4).setCell ⟨b, 5, none⟩ v5).setCell ⟨b, 6, none⟩ v6).setCell ⟨b, 7, none⟩ v7).setCell ⟨b, 8, none⟩ v8).setCell ⟨b, 9, none⟩ v9) :=
  (((((((((h.setCell hb _).setCell hb _).setCell hb _).setCell hb _).setCell hb _).setCell hb _).setCell hb _).setCell hb _).setCell hb _).setCell hb _

def TaskOut (m : Mx) (w : World) (e : Ending) (w' : World) : Prop := ∃ a' c' F, e = .returned (.agg #[.int .i64 (m).r0.a, .int .i64 (m).r0.b, .int .i64 (m).r0.c, .int .i64 (m).r0.d, .int .i64 (m).r1.a, .int .i64 (m).r1.b, .int .i64 (m).r1.c, .int .i64 (m).r1.d, .int .i64 ((m).n : Int), .slice a' F.length c']) ∧ OwnV w' w.heap.size (.slice a' F.length c') F ∧ AllBasic m F ∧ Below w.heap.size w w'

theorem OwnV.setOther {w : World} {base b : Nat} {val : Value} {l : List Vec} (h : OwnV w base val l) (hb : b < base) (j : Nat) (v : Value) : OwnV (w.setCell ⟨b, j, none⟩ v) base val l := by
  refine ⟨h.1, ?_⟩
  rcases h.2 with hn | ⟨g, cap', cur, he, hbg, hg, r⟩
  · exact Or.inl hn
  · refine Or.inr ⟨g, cap', cur, he, hbg, ?_, r⟩
    rw [heap_setCell_other _ _ _ _ (by simp; omega)]
    exact hg
theorem own_set10 {base b : Nat} {w : World} {val : Value} {l : List Vec} (h : OwnV w base val l) (hb : b < base) (v0 v1 v2 v3 v4 v5 v6 v7 v8 v9 : Value) :
    OwnV ((((((((((w.setCell ⟨b, 0, none⟩ v0).setCell ⟨b, 1, none⟩ v1).setCell ⟨b, 2, none⟩ v2).setCell ⟨b, 3, none⟩ v3).setCell ⟨b, 4, none⟩ v4).setCell ⟨b, 5, none⟩ v5).setCell ⟨b, 6, none⟩ v6).setCell ⟨b, 7, none⟩ v7).setCell ⟨b, 8, none⟩ v8).setCell ⟨b, 9, none⟩ v9) base val l :=
  (((((((((h.setOther hb _ _).setOther hb _ _).setOther hb _ _).setOther hb _ _).setOther hb _ _).setOther hb _ _).setOther hb _ _).setOther hb _ _).setOther hb _ _).setOther hb _ _

def zeroT : Array Value := #[.int .i64 0, .int .i64 0, .int .i64 0, .int .i64 0, .int .i64 0, .int .i64 0, .int .i64 0, .int .i64 0, .int .i64 0, .slice none 0 0]
theorem ten_cells {w : World} {b : Nat} {T : TypeId} (h : w.heap[b]? = some (.cells zeroT T)) :
    w.cell? ⟨b, 0, none⟩ = some (.int .i64 0) ∧ w.cell? ⟨b, 1, none⟩ = some (.int .i64 0) ∧ w.cell? ⟨b, 2, none⟩ = some (.int .i64 0) ∧ w.cell? ⟨b, 3, none⟩ = some (.int .i64 0) ∧ w.cell? ⟨b, 4, none⟩ = some (.int .i64 0) ∧
    w.cell? ⟨b, 5, none⟩ = some (.int .i64 0) ∧ w.cell? ⟨b, 6, none⟩ = some (.int .i64 0) ∧ w.cell? ⟨b, 7, none⟩ = some (.int .i64 0) ∧ w.cell? ⟨b, 8, none⟩ = some (.int .i64 0) ∧ w.cell? ⟨b, 9, none⟩ = some (.slice none 0 0) ∧ ∀ j, w.frozen? ⟨b, j, none⟩ = false :=
  ⟨block_cell h 0, block_cell h 1, block_cell h 2, block_cell h 3, block_cell h 4, block_cell h 5, block_cell h 6, block_cell h 7, block_cell h 8, block_cell h 9, block_free h⟩

set_option maxHeartbeats 4000000 in
set_option maxRecDepth 100000 in
theorem newTask_any (m : Mx) (w : World) (hm : m.ok) : Calls Try.prog 65 #[.agg #[.int .i64 (m).r0.a, .int .i64 (m).r0.b, .int .i64 (m).r0.c, .int .i64 (m).r0.d, .int .i64 (m).r1.a, .int .i64 (m).r1.b, .int .i64 (m).r1.c, .int .i64 (m).r1.d, .int .i64 ((m).n : Int)]] w fun e w' => TaskOut m w e w' := by
  have HM := Lib.hid hm
  clear hm
  go_enter Try.func65, Try.ntmps65
  go_wp2
  go_region_with (first
    | (go_at_call 64; refine (mbasic_any m _ HM.out).mono ?_; rintro e wc ⟨val, F, rfl, hO, hA, hb1⟩; obtain ⟨a1, c1, rfl, hV, hv1, hv2⟩ := hO.read; have HA := Lib.hid hA; have HO := Lib.hid hO; have HB1 := Lib.hid hb1; have q := matS_cells ((hb1.block w.heap.size (by simp; omega)).trans (heap_two1 w (.cells #[.int .i64 (m).r0.a, .int .i64 (m).r0.b, .int .i64 (m).r0.c, .int .i64 (m).r0.d, .int .i64 (m).r1.a, .int .i64 (m).r1.b, .int .i64 (m).r1.c, .int .i64 (m).r1.d, .int .i64 ((m).n : Int)] 64) (.cells zeroT 77))); have q2 := ten_cells ((hb1.block (w.heap.size + 1) (by simp)).trans (heap_two2 w (.cells #[.int .i64 (m).r0.a, .int .i64 (m).r0.b, .int .i64 (m).r0.c, .int .i64 (m).r0.d, .int .i64 (m).r1.a, .int .i64 (m).r1.b, .int .i64 (m).r1.c, .int .i64 (m).r1.d, .int .i64 ((m).n : Int)] 64) (.cells zeroT 77))); have hsz : w.heap.size + 1 < wc.heap.size := by {have := hb1.size; simp at this; omega}; clear hO hA hV hb1 hv1 hv2))
  all_goals go_wp2
  all_goals
    exact bodyPost_ret (v := .agg #[.int .i64 (m).r0.a, .int .i64 (m).r0.b, .int .i64 (m).r0.c, .int .i64 (m).r0.d, .int .i64 (m).r1.a, .int .i64 (m).r1.b, .int .i64 (m).r1.c, .int .i64 (m).r1.d, .int .i64 ((m).n : Int), .slice a1 F.length c1]) (by simp [results, Try.results65, go_sem, q2]) rfl
      ⟨a1, c1, F, rfl, (own_set10 HO.out (by simp) _ _ _ _ _ _ _ _ _ _).mono (by simp; omega), HA.out, below_set10 ((below_two w _ _).drew.trans (HB1.out.mono (by simp; omega))) (by omega) _ _ _ _ _ _ _ _ _ _⟩
end Go.Proofs.Ytaglbnblfhfkeaa
