import Derived.Test.YtcedhcpjnoppmaaN4
import Derived.Test.YtcedhcpjnoppmaaT2
import Derived.Test.YtcedhcpjnoppmaaT3
import Derived.Test.YtcedhcpjnoppmaaV4
import Derived.Test.YtcedhcpjnoppmaaV5
import Derived.Test.YtcedhcpjnoppmaaEn2
import Derived.Deep.DeepCutAuto
import Derived.Deep.RegionWith
import Derived.Deep.RegionHeld3
namespace Go.Proofs.Ytcedhcpjnoppmaa
open Go.RowKit

theorem bcell {W w1 : World} (hb : Below W.heap.size W w1) : (∀ b o, b < W.heap.size → w1.cell? ⟨b, o, none⟩ = W.cell? ⟨b, o, none⟩) ∧ (∀ b o, b < W.heap.size → w1.frozen? ⟨b, o, none⟩ = W.frozen? ⟨b, o, none⟩) :=
  ⟨fun b o h => hb.cell (p := ⟨b, o, none⟩) h, fun b o h => hb.frozen (p := ⟨b, o, none⟩) h⟩

/-- A fraction's cells, and the boxes. -/
structure LtAt (aT : Option Addr) (nT cT : Nat) (aL : Option Addr) (nL cL : Nat) (Y O : Int) (w wx : World) (b : Nat) (A B : Int) : Prop where
  c0 : wx.cell? ⟨b, 0, none⟩ = some (.int .i64 A)
  c1 : wx.cell? ⟨b, 1, none⟩ = some (.int .i64 B)
  base : NmAt aT nT cT aL nL cL Y O w wx

/-- What Taken, or Looks, gives, whatever it was given. -/
def FracAll (ok : Bool) (a b : Int) (w : World) (e : Ending) (w' : World) : Prop :=
  ∃ A B z : Int, e = .returned (.tuple #[.agg #[.int .i64 A, .int .i64 B], .int .i64 z]) ∧ Below w.heap.size w w' ∧
    (ok = true → frV a.toNat b.toNat = .agg #[.int .i64 A, .int .i64 B] ∧ z = 0) ∧ (ok = false → A = 0 ∧ B = 0 ∧ z = 2)

theorem taken_all (ok : Bool) (aT : Option Addr) (n cT : Nat) (aL : Option Addr) (m cL : Nat) (T L : Nat → Int) (Y O : Int) (w : World) (hok : (isPlan n m T L && isCh Y O) = ok) (hn : n ≤ 140737488351232) (hm : m ≤ 140737488351232) (hT : Ints w aT n T) (hL : Ints w aL m L) :
    Calls Try.prog 19 #[plV aT n cT aL m cL, chV Y O] w fun e w' => FracAll ok (tk Y O T L n) (O ^ n) w e w' := by
  cases ok with
  | true =>
    simp only [Bool.and_eq_true] at hok
    exact (taken_yes aT n cT aL m cL T L Y O w hok.1 hok.2 hT hL).mono fun e w' ⟨h1, h2⟩ => ⟨_, _, 0, h1, h2, fun _ => ⟨rfl, rfl⟩, fun h => by cases h⟩
  | false =>
    refine (taken_no aT n cT aL m cL T L Y O w ?_ hn hm hT hL).mono fun e w' ⟨h1, h2⟩ => ⟨0, 0, 2, h1, h2, fun h => (by cases h), fun _ => ⟨rfl, rfl, rfl⟩⟩
    cases h : isPlan n m T L
    · exact Or.inl rfl
    · rw [h] at hok; exact Or.inr (by simpa using hok)

theorem looks_all (ok : Bool) (aT : Option Addr) (n cT : Nat) (aL : Option Addr) (m cL : Nat) (T L : Nat → Int) (Y O : Int) (w : World) (hok : (isPlan n m T L && isCh Y O) = ok) (hn : n ≤ 140737488351232) (hm : m ≤ 140737488351232) (hT : Ints w aT n T) (hL : Ints w aL m L) :
    Calls Try.prog 22 #[plV aT n cT aL m cL, chV Y O] w fun e w' => FracAll ok (lk Y O T L n) (O ^ n) w e w' := by
  cases ok with
  | true =>
    simp only [Bool.and_eq_true] at hok
    exact (looks_yes aT n cT aL m cL T L Y O w hok.1 hok.2 hT hL).mono fun e w' ⟨h1, h2⟩ => ⟨_, _, 0, h1, h2, fun _ => ⟨rfl, rfl⟩, fun h => by cases h⟩
  | false =>
    refine (looks_no aT n cT aL m cL T L Y O w ?_ hn hm hT hL).mono fun e w' ⟨h1, h2⟩ => ⟨0, 0, 2, h1, h2, fun h => (by cases h), fun _ => ⟨rfl, rfl, rfl⟩⟩
    cases h : isPlan n m T L
    · exact Or.inl rfl
    · rw [h] at hok; exact Or.inr (by simpa using hok)

theorem nm_alloc {aT : Option Addr} {nT cT : Nat} {aL : Option Addr} {nL cL : Nat} {Y O : Int} {w wr : World} (h : NmAt aT nT cT aL nL cL Y O w wr) (o : Obj) : NmAt aT nT cT aL nL cL Y O w (wr.alloc o) := h.keep h.size (below_one _ _)
theorem nm_set2 {aT : Option Addr} {nT cT : Nat} {aL : Option Addr} {nL cL : Nat} {Y O : Int} {w wr : World} (h : NmAt aT nT cT aL nL cL Y O w wr) {b : Nat} (hb : w.heap.size + 2 ≤ b) (u v : Value) : NmAt aT nT cT aL nL cL Y O w ((wr.setCell ⟨b, 0, none⟩ u).setCell ⟨b, 1, none⟩ v) :=
  (h.set (a := ⟨b, 0, none⟩) hb u).set (a := ⟨b, 1, none⟩) hb v
theorem lt_new {aT : Option Addr} {nT cT : Nat} {aL : Option Addr} {nL cL : Nat} {Y O : Int} {w wr : World} (h : NmAt aT nT cT aL nL cL Y O w wr) (A B : Int) : LtAt aT nT cT aL nL cL Y O w (wr.alloc (.cells #[.int .i64 A, .int .i64 B] 28)) wr.heap.size A B :=
  ⟨block_cell (heap_alloc_new _ _) 0, block_cell (heap_alloc_new _ _) 1, nm_alloc h _⟩
theorem lt_set {aT : Option Addr} {nT cT : Nat} {aL : Option Addr} {nL cL : Nat} {Y O : Int} {w wr : World} (h : NmAt aT nT cT aL nL cL Y O w wr) {b : Nat} (hb : w.heap.size + 2 ≤ b) (ha : wr.heap[b]? = some (.cells #[.int .i64 0, .int .i64 0] 28)) (A B : Int) :
    LtAt aT nT cT aL nL cL Y O w ((wr.setCell ⟨b, 0, none⟩ (.int .i64 A)).setCell ⟨b, 1, none⟩ (.int .i64 B)) b A B := by
  have h1 := heap_setCell_same wr b 0 _ _ (.int .i64 A) ha
  have h2 := heap_setCell_same _ b 1 _ _ (.int .i64 B) h1
  exact ⟨by rw [block_cell h2]; rfl, by rw [block_cell h2]; rfl, nm_set2 h hb _ _⟩
theorem lt_keep {aT : Option Addr} {nT cT : Nat} {aL : Option Addr} {nL cL : Nat} {Y O : Int} {w wr wz : World} {b : Nat} {A B : Int} (h : LtAt aT nT cT aL nL cL Y O w wr b A B) (hb : Below wr.heap.size wr wz) : LtAt aT nT cT aL nL cL Y O w wz b A B :=
  ⟨(hb.cell (p := ⟨b, 0, none⟩) (World.block_lt_of_cell? _ _ h.c0)).trans h.c0, (hb.cell (p := ⟨b, 1, none⟩) (World.block_lt_of_cell? _ _ h.c1)).trans h.c1, h.base.keep h.base.size hb⟩
theorem blk_new {W W1 : World} {o : Obj} (hb : Below (W.alloc o).heap.size (W.alloc o) W1) : W1.heap[W.heap.size]? = some o := (hb.block _ (by simp)).trans (heap_alloc_new W o)
theorem blk_new2 {w W1 : World} {o1 o2 o : Obj} (hb : Below (((w.alloc o1).alloc o2).drew.alloc o).heap.size (((w.alloc o1).alloc o2).drew.alloc o) W1) : W1.heap[w.heap.size + 1 + 1]? = some o := by
  have h := blk_new hb
  have e : ((w.alloc o1).alloc o2).drew.heap.size = w.heap.size + 1 + 1 := by simp
  rw [e] at h; exact h
theorem blk_newd {W W1 : World} {o : Obj} (hb : Below (W.alloc o).drew.heap.size (W.alloc o).drew W1) : W1.heap[W.heap.size]? = some o := (hb.block _ (by show _ < (W.alloc o).heap.size; simp)).trans (heap_alloc_new W o)
theorem blk_newd2 {w W1 : World} {o1 o2 o : Obj} (hb : Below (((w.alloc o1).alloc o2).alloc o).drew.heap.size (((w.alloc o1).alloc o2).alloc o).drew W1) : W1.heap[w.heap.size + 1 + 1]? = some o := by
  have h := blk_newd hb
  have e : ((w.alloc o1).alloc o2).heap.size = w.heap.size + 1 + 1 := by simp
  rw [e] at h; exact h
theorem below_dra3 {w W1 : World} {o : Obj} (hb : Below (w.alloc o).drew.heap.size (w.alloc o).drew W1) : Below w.heap.size w W1 := ((below_one w o).drew).trans (hb.mono (by show _ ≤ (w.alloc o).heap.size; simp))
theorem blk_keep {w1 w2 : World} {k : Nat} {o : Obj} (h : w1.heap[k]? = some o) (hb : Below w1.heap.size w1 w2) : w2.heap[k]? = some o := (hb.block _ (Array.getElem?_eq_some_iff.1 h).1).trans h
theorem below_al {B : Nat} {a w1 w2 : World} {o : Obj} (h : Below B a w1) (hB : B ≤ w1.heap.size) (hb : Below (w1.alloc o).heap.size (w1.alloc o) w2) : Below B a w2 := (h.alloc hB o).trans (hb.mono (by simp; omega))
theorem ints_al {w1 w2 : World} {o : Obj} {a : Option Addr} {n : Nat} {z : Nat → Int} (h : Ints w1 a n z) (hb : Below (w1.alloc o).heap.size (w1.alloc o) w2) : Ints w2 a n z := h.keep (Nat.le_refl _) (band (below_one w1 o) hb)
theorem below_dr (w : World) : Below w.heap.size w w.drew := (Below.refl _ _).drew
theorem below_dra (w : World) (o : Obj) : Below w.heap.size w (w.drew.alloc o) := (below_dr w).alloc (Nat.le_refl _) o
theorem below_dra2 {w W1 : World} {o : Obj} (hb : Below (w.drew.alloc o).heap.size (w.drew.alloc o) W1) : Below w.heap.size w W1 := (below_dra w o).trans (hb.mono (by simp))
theorem below_set2 {B : Nat} {a w : World} (h : Below B a w) {b : Nat} (hb : B ≤ b) (u v : Value) : Below B a ((w.setCell ⟨b, 0, none⟩ u).setCell ⟨b, 1, none⟩ v) := (h.setCell hb u).setCell hb v
theorem nm_keep {aT : Option Addr} {nT cT : Nat} {aL : Option Addr} {nL cL : Nat} {Y O : Int} {w wr w1 : World} (h : NmAt aT nT cT aL nL cL Y O w wr) (hb : Below wr.heap.size wr w1) : NmAt aT nT cT aL nL cL Y O w w1 := h.keep h.size hb

set_option maxHeartbeats 4000000 in
set_option maxRecDepth 100000 in
theorem ltaken_any (aT : Option Addr) (n cT : Nat) (aL : Option Addr) (m cL : Nat) (T L : Nat → Int) (Y O : Int) (w : World) (hn : n ≤ cT) (hn8 : n * 8 ≤ 140737488355328) (hm : m ≤ cL) (hm8 : m * 8 ≤ 140737488355328) (hT : Ints w aT n T) (hL : Ints w aL m L) :
    Calls Try.prog 3 #[plV aT n cT aL m cL, chV Y O] w fun e w' => SomeB true w e w' := by
  have HT := Lib.hid hT
  have HL := Lib.hid hL
  have Hn := Lib.hid hn
  have Hm := Lib.hid hm
  have Hn8 := Lib.hid hn8
  have Hm8 := Lib.hid hm8
  clear hT hL hn hm hn8 hm8
  have HB0 := Lib.hid (NmAt.start (aT := aT) (nT := n) (cT := cT) (aL := aL) (nL := m) (cL := cL) (Y := Y) (O := O) w)
  have hb15 : min n 15 ≤ 140737488351232 := by omega
  have hb15m : min m 15 ≤ 140737488351232 := by omega
  go_enter Try.func3, Try.ntmps3
  go_upto_region 1 with fail
  go_cut [5, 6] (fun s5 s6 wx => ∃ (b5 : Nat) (A B z : Int), s5 = .pointer (some ⟨b5, 0, none⟩) ∧ s6 = .int .i64 z ∧ LtAt aT n cT aL m cL Y O w wx b5 A B ∧ Hid (((isPlan (min n 15) (min m 15) T L && isCh Y O) = true → frV (tk Y O T L (min n 15)).toNat (O ^ (min n 15)).toNat = .agg #[.int .i64 A, .int .i64 B] ∧ z = 0) ∧ ((isPlan (min n 15) (min m 15) T L && isCh Y O) = false → A = 0 ∧ B = 0 ∧ z = 2)))
  case first =>
    go_region_held3 (fun w' => w'.cell? ⟨w.heap.size, 0, none⟩ = some (.slice aT n cT) ∧ w'.cell? ⟨w.heap.size, 1, none⟩ = some (.slice aL m cL) ∧ w'.cell? ⟨w.heap.size + 1, 0, none⟩ = some (.int .i64 Y) ∧ w'.cell? ⟨w.heap.size + 1, 1, none⟩ = some (.int .i64 O))
      (first
        | (go_split_ands; exact HB3.out.cells)
        | (go_split_ands; exact HB2.out.cells)
        | (go_split_ands; exact HB1.out.cells)
        | (go_split_ands; exact (nm_alloc HB3.out _).cells)
        | (go_split_ands; exact (nm_set2 HB3.out HB2.out.size _ _).cells)
        | (go_split_ands; exact (nm_set2 HB3.out HB1.out.size _ _).cells)
        | (go_split_ands; exact (nm_set2 HB3.out (Nat.le_refl _) _ _).cells)
        | (go_split_ands; exact (nm_alloc HB2.out _).cells)
        | (go_split_ands; exact (nm_alloc HB1.out _).cells)
        | (go_split_ands; exact (nm_alloc HB0.out.drew _).cells)
        | (go_split_ands; exact (nm_alloc HB0.out _).drew.cells)
        | go_keep)
      ((first
        | ((first | (with_reducible refine (of_any aT n cT aL m cL T L _ Hn.out Hn8.out Hm.out Hm8.out (HT.out.keep (Nat.le_refl _) HB0.out.drew.bel) (HL.out.keep (Nat.le_refl _) HB0.out.drew.bel)).mono ?_) | (with_reducible refine (of_any aT n cT aL m cL T L _ Hn.out Hn8.out Hm.out Hm8.out (HT.out.keep (Nat.le_refl _) (nm_alloc HB0.out.drew _).bel) (HL.out.keep (Nat.le_refl _) (nm_alloc HB0.out.drew _).bel)).mono ?_) | (with_reducible refine (of_any aT n cT aL m cL T L _ Hn.out Hn8.out Hm.out Hm8.out (HT.out.keep (Nat.le_refl _) (nm_alloc HB0.out _).drew.bel) (HL.out.keep (Nat.le_refl _) (nm_alloc HB0.out _).drew.bel)).mono ?_)); rintro e w1 ⟨a1, c1, a2, c2, rfl, hO1, hO2, hb1⟩; have HI1 := Lib.hid hO1; have HI2 := Lib.hid hO2; (first | have HB1 : Hid (NmAt aT n cT aL m cL Y O w w1) := nm_keep HB0.out.drew hb1 | have HB1 : Hid (NmAt aT n cT aL m cL Y O w w1) := nm_keep (nm_alloc HB0.out.drew _) hb1 | have HB1 : Hid (NmAt aT n cT aL m cL Y O w w1) := nm_keep (nm_alloc HB0.out _).drew hb1); (first | have hA1 : w1.heap[w.heap.size + 1 + 1]? = some (.cells #[.int .i64 0, .int .i64 0] 28) := blk_newd2 hb1 | have hA1 : w1.heap[w.heap.size + 1 + 1]? = some (.cells #[.int .i64 0, .int .i64 0] 28) := blk_new2 hb1 | skip); clear hO1 hO2 hb1)
        | ((with_reducible refine (chance_any Y O _).mono ?_); rintro e w2 ⟨rfl, hb2⟩; (first | have HI1' := Lib.hid (HI1.out.keep (Nat.le_refl _) hb2) | have HI1' := Lib.hid (ints_al HI1.out hb2)); (first | have HI2' := Lib.hid (HI2.out.keep (Nat.le_refl _) hb2) | have HI2' := Lib.hid (ints_al HI2.out hb2)); (first | have HB2 : Hid (NmAt aT n cT aL m cL Y O w w2) := nm_keep HB1.out hb2 | have HB2 : Hid (NmAt aT n cT aL m cL Y O w w2) := nm_keep (nm_alloc HB1.out _) hb2); (first | have hA2 : w2.heap[w1.heap.size]? = some (.cells #[.int .i64 0, .int .i64 0] 28) := blk_new (W := w1) hb2 | have hA2' : w2.heap[w.heap.size + 1 + 1]? = some (.cells #[.int .i64 0, .int .i64 0] 28) := blk_keep hA1 hb2 | skip); clear hb2)
        | ((first | (with_reducible refine (taken_all (isPlan (min n 15) (min m 15) T L && isCh Y O) a1 (min n 15) c1 a2 (min m 15) c2 T L Y O _ rfl hb15 hb15m HI1'.out HI2'.out).mono ?_) | (with_reducible refine (taken_all (isPlan (min n 15) (min m 15) T L && isCh Y O) a1 (min n 15) c1 a2 (min m 15) c2 T L Y O _ rfl hb15 hb15m (HI1'.out.keep (Nat.le_refl _) (below_one _ _)) (HI2'.out.keep (Nat.le_refl _) (below_one _ _))).mono ?_)); rintro e w3 ⟨A, B, z, rfl, hb3, hk1, hk2⟩; have HK := Lib.hid (And.intro hk1 hk2); (first | have HB3 : Hid (NmAt aT n cT aL m cL Y O w w3) := nm_keep HB2.out hb3 | have HB3 : Hid (NmAt aT n cT aL m cL Y O w w3) := nm_keep (nm_alloc HB2.out _) hb3); (first | have hA3 : w3.heap[w2.heap.size]? = some (.cells #[.int .i64 0, .int .i64 0] 28) := blk_new (W := w2) hb3 | have hA3 : w3.heap[w1.heap.size]? = some (.cells #[.int .i64 0, .int .i64 0] 28) := blk_keep hA2 hb3 | have hA3 : w3.heap[w.heap.size + 1 + 1]? = some (.cells #[.int .i64 0, .int .i64 0] 28) := blk_keep hA2' hb3 | skip); (try (have y0 := block_cell hA3 0; have y1 := block_cell hA3 1; have y2 := block_free hA3 0; have y3 := block_free hA3 1; skip)); clear hb3 hk1 hk2)))
    all_goals go_wp2
    all_goals go_meet
    all_goals (first
      | exact ⟨_, A, B, z, rfl, rfl, lt_new HB3.out A B, HK.out⟩
      | exact ⟨_, A, B, z, rfl, rfl, lt_set HB3.out HB2.out.size hA3 A B, HK.out⟩
      | exact ⟨_, A, B, z, rfl, rfl, lt_set HB3.out HB1.out.size hA3 A B, HK.out⟩
      | exact ⟨_, A, B, z, rfl, rfl, lt_set HB3.out (Nat.le_refl _) hA3 A B, HK.out⟩)
  case rest =>
    rename World => wx
    obtain ⟨b5, A, B, z, rfl, rfl, hLt, hK⟩ := hcut
    have HLt := Lib.hid hLt
    have HK1 : Hid (((isPlan (min n 15) (min m 15) T L && isCh Y O) = true → frV (tk Y O T L (min n 15)).toNat (O ^ (min n 15)).toNat = .agg #[.int .i64 A, .int .i64 B] ∧ z = 0) ∧ ((isPlan (min n 15) (min m 15) T L && isCh Y O) = false → A = 0 ∧ B = 0 ∧ z = 2)) := hK
    clear hLt hK HB0
    have HB0 := Lib.hid HLt.out.base
    have hge := HB0.out.size
    obtain ⟨q1, q2, q3, q4⟩ := HB0.out.cells
    go_upto_region 2 with fail
    clear q1 q2 q3 q4
    go_cut [7, 8] (fun s7 s8 wy => ∃ (b7 : Nat) (C D z2 : Int), s7 = .pointer (some ⟨b7, 0, none⟩) ∧ s8 = .int .i64 z2 ∧ LtAt aT n cT aL m cL Y O w wy b5 A B ∧ LtAt aT n cT aL m cL Y O w wy b7 C D ∧ Hid (((isPlan (min n 15) (min m 15) T L && isCh Y O) = true → frV (lk Y O T L (min n 15)).toNat (O ^ (min n 15)).toNat = .agg #[.int .i64 C, .int .i64 D] ∧ z2 = 0) ∧ ((isPlan (min n 15) (min m 15) T L && isCh Y O) = false → C = 0 ∧ D = 0 ∧ z2 = 2)))
    case first =>
      go_region_held3 (fun w' => w'.cell? ⟨w.heap.size, 0, none⟩ = some (.slice aT n cT) ∧ w'.cell? ⟨w.heap.size, 1, none⟩ = some (.slice aL m cL) ∧ w'.cell? ⟨w.heap.size + 1, 0, none⟩ = some (.int .i64 Y) ∧ w'.cell? ⟨w.heap.size + 1, 1, none⟩ = some (.int .i64 O))
        (first
          | (go_split_ands; exact HB3.out.cells)
          | (go_split_ands; exact HB2.out.cells)
          | (go_split_ands; exact HB1.out.cells)
          | (go_split_ands; exact HB0.out.drew.cells)
          | (go_split_ands; exact (nm_alloc HB3.out _).cells)
          | (go_split_ands; exact (nm_set2 HB3.out HB2.out.size _ _).cells)
          | (go_split_ands; exact (nm_set2 HB3.out HB1.out.size _ _).cells)
          | (go_split_ands; exact (nm_set2 HB3.out HB0.out.size _ _).cells)
          | (go_split_ands; exact (nm_alloc HB2.out _).cells)
          | (go_split_ands; exact (nm_alloc HB1.out _).cells)
          | (go_split_ands; exact (nm_alloc HB0.out.drew _).cells)
          | (go_split_ands; exact (nm_alloc HB0.out _).drew.cells)
          | go_keep)
        ((first
          | ((first | (with_reducible refine (of_any aT n cT aL m cL T L _ Hn.out Hn8.out Hm.out Hm8.out (HT.out.keep (Nat.le_refl _) HB0.out.drew.bel) (HL.out.keep (Nat.le_refl _) HB0.out.drew.bel)).mono ?_) | (with_reducible refine (of_any aT n cT aL m cL T L _ Hn.out Hn8.out Hm.out Hm8.out (HT.out.keep (Nat.le_refl _) (nm_alloc HB0.out.drew _).bel) (HL.out.keep (Nat.le_refl _) (nm_alloc HB0.out.drew _).bel)).mono ?_) | (with_reducible refine (of_any aT n cT aL m cL T L _ Hn.out Hn8.out Hm.out Hm8.out (HT.out.keep (Nat.le_refl _) (nm_alloc HB0.out _).drew.bel) (HL.out.keep (Nat.le_refl _) (nm_alloc HB0.out _).drew.bel)).mono ?_)); rintro e w1 ⟨a1, c1, a2, c2, rfl, hO1, hO2, hb1⟩; have HI1 := Lib.hid hO1; have HI2 := Lib.hid hO2; (first | have HB1 : Hid (NmAt aT n cT aL m cL Y O w w1) := nm_keep HB0.out.drew hb1 | have HB1 : Hid (NmAt aT n cT aL m cL Y O w w1) := nm_keep (nm_alloc HB0.out.drew _) hb1 | have HB1 : Hid (NmAt aT n cT aL m cL Y O w w1) := nm_keep (nm_alloc HB0.out _).drew hb1); (first | have HW1 : Hid (Below wx.heap.size wx w1) := (below_dr wx).trans (hb1.mono (Nat.le_refl _)) | have HW1 : Hid (Below wx.heap.size wx w1) := below_dra2 hb1 | have HW1 : Hid (Below wx.heap.size wx w1) := below_dra3 hb1); (first | have hA1 : w1.heap[wx.heap.size]? = some (.cells #[.int .i64 0, .int .i64 0] 28) := blk_newd (W := wx) hb1 | have hA1 : w1.heap[wx.heap.size]? = some (.cells #[.int .i64 0, .int .i64 0] 28) := blk_new (W := wx.drew) hb1 | skip); clear hO1 hO2 hb1)
          | ((with_reducible refine (chance_any Y O _).mono ?_); rintro e w2 ⟨rfl, hb2⟩; (first | have HI1' := Lib.hid (HI1.out.keep (Nat.le_refl _) hb2) | have HI1' := Lib.hid (ints_al HI1.out hb2)); (first | have HI2' := Lib.hid (HI2.out.keep (Nat.le_refl _) hb2) | have HI2' := Lib.hid (ints_al HI2.out hb2)); (first | have HB2 : Hid (NmAt aT n cT aL m cL Y O w w2) := nm_keep HB1.out hb2 | have HB2 : Hid (NmAt aT n cT aL m cL Y O w w2) := nm_keep (nm_alloc HB1.out _) hb2); (first | have HW2 : Hid (Below wx.heap.size wx w2) := HW1.out.trans (hb2.mono HW1.out.size) | have HW2 : Hid (Below wx.heap.size wx w2) := below_al HW1.out HW1.out.size hb2); (first | have hA2 : w2.heap[w1.heap.size]? = some (.cells #[.int .i64 0, .int .i64 0] 28) := blk_new (W := w1) hb2 | have hA2' : w2.heap[wx.heap.size]? = some (.cells #[.int .i64 0, .int .i64 0] 28) := blk_keep hA1 hb2 | skip); clear hb2)
          | ((first | (with_reducible refine (looks_all (isPlan (min n 15) (min m 15) T L && isCh Y O) a1 (min n 15) c1 a2 (min m 15) c2 T L Y O _ rfl hb15 hb15m HI1'.out HI2'.out).mono ?_) | (with_reducible refine (looks_all (isPlan (min n 15) (min m 15) T L && isCh Y O) a1 (min n 15) c1 a2 (min m 15) c2 T L Y O _ rfl hb15 hb15m (HI1'.out.keep (Nat.le_refl _) (below_one _ _)) (HI2'.out.keep (Nat.le_refl _) (below_one _ _))).mono ?_)); rintro e w3 ⟨C, D, z2, rfl, hb3, hk1, hk2⟩; have HK := Lib.hid (And.intro hk1 hk2); (first | have HB3 : Hid (NmAt aT n cT aL m cL Y O w w3) := nm_keep HB2.out hb3 | have HB3 : Hid (NmAt aT n cT aL m cL Y O w w3) := nm_keep (nm_alloc HB2.out _) hb3); (first | have HW3 : Hid (Below wx.heap.size wx w3) := HW2.out.trans (hb3.mono HW2.out.size) | have HW3 : Hid (Below wx.heap.size wx w3) := below_al HW2.out HW2.out.size hb3); (first | have hA3 : w3.heap[w2.heap.size]? = some (.cells #[.int .i64 0, .int .i64 0] 28) := blk_new (W := w2) hb3 | have hA3 : w3.heap[w1.heap.size]? = some (.cells #[.int .i64 0, .int .i64 0] 28) := blk_keep hA2 hb3 | have hA3 : w3.heap[wx.heap.size]? = some (.cells #[.int .i64 0, .int .i64 0] 28) := blk_keep hA2' hb3 | skip); (try (have y0 := block_cell hA3 0; have y1 := block_cell hA3 1; have y2 := block_free hA3 0; have y3 := block_free hA3 1; skip)); clear hb3 hk1 hk2)))
      all_goals go_wp2
      all_goals go_meet
      all_goals (first
        | exact ⟨_, C, D, z2, rfl, rfl, lt_keep HLt.out (HW3.out.alloc HW3.out.size _), lt_new HB3.out C D, HK.out⟩
        | exact ⟨_, C, D, z2, rfl, rfl, lt_keep HLt.out (below_set2 HW3.out HW2.out.size _ _), lt_set HB3.out HB2.out.size hA3 C D, HK.out⟩
        | exact ⟨_, C, D, z2, rfl, rfl, lt_keep HLt.out (below_set2 HW3.out HW1.out.size _ _), lt_set HB3.out HB1.out.size hA3 C D, HK.out⟩
        | exact ⟨_, C, D, z2, rfl, rfl, lt_keep HLt.out (below_set2 HW3.out (Nat.le_refl _) _ _), lt_set HB3.out HB0.out.size hA3 C D, HK.out⟩)
    case rest =>
      rename World => wy
      obtain ⟨b7, C, D, z2, rfl, rfl, hL5, hL7, hK2⟩ := hcut
      have HL5 := Lib.hid hL5
      have HL7 := Lib.hid hL7
      have HK2 : Hid (((isPlan (min n 15) (min m 15) T L && isCh Y O) = true → frV (lk Y O T L (min n 15)).toNat (O ^ (min n 15)).toNat = .agg #[.int .i64 C, .int .i64 D] ∧ z2 = 0) ∧ ((isPlan (min n 15) (min m 15) T L && isCh Y O) = false → C = 0 ∧ D = 0 ∧ z2 = 2)) := hK2
      clear hL5 hL7 hK2 hge HB0 HLt
      obtain ⟨q1, q2, q3, q4⟩ := HL5.out.base.cells
      have e1 := HL5.out.c0
      have e2 := HL5.out.c1
      have e3 := HL7.out.c0
      have e4 := HL7.out.c1
      cases hp : isPlan n m T L
      · have HP := Lib.hid hp
        have h1 := HK1.out.2 (by rw [isPlan_cut, hp]; rfl)
        have h2 := HK2.out.2 (by rw [isPlan_cut, hp]; rfl)
        obtain ⟨rfl, rfl, rfl⟩ := h1
        obtain ⟨rfl, rfl, rfl⟩ := h2
        clear hp HK1 HK2
        go_wp2_with fail
        refine (rvalid_r false aT n cT aL m cL T L _ HP.out (by have := Hn8.out; omega) (by have := Hm8.out; omega) (HT.out.keep (Nat.le_refl _) HL5.out.base.bel) (HL.out.keep (Nat.le_refl _) HL5.out.base.bel)).mono ?_
        rintro e w4 ⟨rfl, hb4⟩
        have HM5 := Lib.hid (lt_keep HL5.out hb4)
        have HM7 := Lib.hid (lt_keep HL7.out hb4)
        clear hb4 q1 q2 q3 q4 e1 e2 e3 e4 HL5 HL7
        obtain ⟨q1, q2, q3, q4⟩ := HM5.out.base.cells
        have e1 := HM5.out.c0
        have e2 := HM5.out.c1
        have e3 := HM7.out.c0
        have e4 := HM7.out.c1
        go_wp2_with fail
        refine (none_zero _).mono ?_
        rintro e w6 ⟨rfl, hb6⟩
        have HO7 := Lib.hid (lt_keep HM7.out hb6)
        clear hb6 q1 q2 q3 q4 e1 e2 e3 e4
        have e3 := HO7.out.c0
        have e4 := HO7.out.c1
        go_wp2_with fail
        refine (none_zero _).mono ?_
        rintro e w7 ⟨rfl, hb7⟩
        have HQ7 := Lib.hid (lt_keep HO7.out hb7)
        clear hb7 e3 e4
        go_wp2_with fail
        refine (awake_any _).mono ?_
        rintro e w8 ⟨rfl, hb8⟩
        have HB8 := Lib.hid (band HQ7.out.base.bel hb8)
        clear hb8
        go_wp2
        go_ret
        exact ⟨rfl, HB8.out⟩
      · cases hch : isCh Y O
        · have HP := Lib.hid hp
          have HCh := Lib.hid hch
          have h1 := HK1.out.2 (by rw [isPlan_cut, hp, hch]; rfl)
          have h2 := HK2.out.2 (by rw [isPlan_cut, hp, hch]; rfl)
          obtain ⟨rfl, rfl, rfl⟩ := h1
          obtain ⟨rfl, rfl, rfl⟩ := h2
          clear hp hch HK1 HK2
          go_wp2_with fail
          refine (rvalid_r true aT n cT aL m cL T L _ HP.out (by have := Hn8.out; omega) (by have := Hm8.out; omega) (HT.out.keep (Nat.le_refl _) HL5.out.base.bel) (HL.out.keep (Nat.le_refl _) HL5.out.base.bel)).mono ?_
          rintro e w4 ⟨rfl, hb4⟩
          have HM5 := Lib.hid (lt_keep HL5.out hb4)
          have HM7 := Lib.hid (lt_keep HL7.out hb4)
          clear hb4 q1 q2 q3 q4 e1 e2 e3 e4 HL5 HL7
          obtain ⟨q1, q2, q3, q4⟩ := HM5.out.base.cells
          have e1 := HM5.out.c0
          have e2 := HM5.out.c1
          have e3 := HM7.out.c0
          have e4 := HM7.out.c1
          go_wp2_with fail
          refine (ris_r false Y O _ HCh.out).mono ?_
          rintro e w5 ⟨rfl, hb5⟩
          have HN5 := Lib.hid (lt_keep HM5.out hb5)
          have HN7 := Lib.hid (lt_keep HM7.out hb5)
          clear hb5 q1 q2 q3 q4 e1 e2 e3 e4 HM5 HM7
          obtain ⟨q1, q2, q3, q4⟩ := HN5.out.base.cells
          have e1 := HN5.out.c0
          have e2 := HN5.out.c1
          have e3 := HN7.out.c0
          have e4 := HN7.out.c1
          go_wp2_with fail
          refine (none_zero _).mono ?_
          rintro e w6 ⟨rfl, hb6⟩
          have HO7 := Lib.hid (lt_keep HN7.out hb6)
          clear hb6 q1 q2 q3 q4 e1 e2 e3 e4
          have e3 := HO7.out.c0
          have e4 := HO7.out.c1
          go_wp2_with fail
          refine (none_zero _).mono ?_
          rintro e w7 ⟨rfl, hb7⟩
          have HQ7 := Lib.hid (lt_keep HO7.out hb7)
          clear hb7 e3 e4
          go_wp2_with fail
          refine (awake_any _).mono ?_
          rintro e w8 ⟨rfl, hb8⟩
          have HB8 := Lib.hid (band HQ7.out.base.bel hb8)
          clear hb8
          go_wp2
          go_ret
          exact ⟨rfl, HB8.out⟩
        · have HP := Lib.hid hp
          have HCh := Lib.hid hch
          have hpp := isPlan_iff.1 hp
          have h1 := HK1.out.1 (by rw [isPlan_cut, hp, hch]; rfl)
          have h2 := HK2.out.1 (by rw [isPlan_cut, hp, hch]; rfl)
          rw [show min n 15 = n by omega] at h1 h2
          obtain ⟨hf1, rfl⟩ := h1
          obtain ⟨hf2, rfl⟩ := h2
          have HF1 := Lib.hid hf1
          have HF2 := Lib.hid hf2
          clear hp hch hpp hf1 hf2 HK1 HK2
          go_wp2_with fail
          refine (rvalid_r true aT n cT aL m cL T L _ HP.out (by have := Hn8.out; omega) (by have := Hm8.out; omega) (HT.out.keep (Nat.le_refl _) HL5.out.base.bel) (HL.out.keep (Nat.le_refl _) HL5.out.base.bel)).mono ?_
          rintro e w4 ⟨rfl, hb4⟩
          have HM5 := Lib.hid (lt_keep HL5.out hb4)
          have HM7 := Lib.hid (lt_keep HL7.out hb4)
          clear hb4 q1 q2 q3 q4 e1 e2 e3 e4 HL5 HL7
          obtain ⟨q1, q2, q3, q4⟩ := HM5.out.base.cells
          have e1 := HM5.out.c0
          have e2 := HM5.out.c1
          have e3 := HM7.out.c0
          have e4 := HM7.out.c1
          go_wp2_with fail
          refine (ris_r true Y O _ HCh.out).mono ?_
          rintro e w5 ⟨rfl, hb5⟩
          have HN5 := Lib.hid (lt_keep HM5.out hb5)
          have HN7 := Lib.hid (lt_keep HM7.out hb5)
          clear hb5 q1 q2 q3 q4 e1 e2 e3 e4 HM5 HM7
          obtain ⟨q1, q2, q3, q4⟩ := HN5.out.base.cells
          have e1 := HN5.out.c0
          have e2 := HN5.out.c1
          have e3 := HN7.out.c0
          have e4 := HN7.out.c1
          go_wp2
          go_region_held3 (fun w' => w'.cell? ⟨w.heap.size, 0, none⟩ = some (.slice aT n cT) ∧ w'.cell? ⟨w.heap.size, 1, none⟩ = some (.slice aL m cL) ∧ w'.cell? ⟨w.heap.size + 1, 0, none⟩ = some (.int .i64 Y) ∧ w'.cell? ⟨w.heap.size + 1, 1, none⟩ = some (.int .i64 O) ∧
              w'.cell? ⟨b5, 0, none⟩ = some (.int .i64 A) ∧ w'.cell? ⟨b5, 1, none⟩ = some (.int .i64 B) ∧ w'.cell? ⟨b7, 0, none⟩ = some (.int .i64 C) ∧ w'.cell? ⟨b7, 1, none⟩ = some (.int .i64 D))
            (first
              | (go_split_ands; exact ⟨HS5.out.base.cells.1, HS5.out.base.cells.2.1, HS5.out.base.cells.2.2.1, HS5.out.base.cells.2.2.2, HS5.out.c0, HS5.out.c1, HS7.out.c0, HS7.out.c1⟩)
              | (go_split_ands; exact ⟨HR5.out.base.cells.1, HR5.out.base.cells.2.1, HR5.out.base.cells.2.2.1, HR5.out.base.cells.2.2.2, HR5.out.c0, HR5.out.c1, HR7.out.c0, HR7.out.c1⟩)
              | (go_split_ands; exact ⟨HX5.out.base.cells.1, HX5.out.base.cells.2.1, HX5.out.base.cells.2.2.1, HX5.out.base.cells.2.2.2, HX5.out.c0, HX5.out.c1, HX7.out.c0, HX7.out.c1⟩)
              | go_keep)
            ((first
              | ((with_reducible refine (rtaken_any aT n cT aL m cL T L Y O _ HP.out HCh.out (HT.out.keep (Nat.le_refl _) HN5.out.base.bel.drew) (HL.out.keep (Nat.le_refl _) HN5.out.base.bel.drew)).mono ?_); rintro e w6 ⟨rfl, hb6⟩; rw [HF1.out]; have HX5 := Lib.hid (lt_keep HN5.out ((below_dr _).trans (hb6.mono (Nat.le_refl _)))); have HX7 := Lib.hid (lt_keep HN7.out ((below_dr _).trans (hb6.mono (Nat.le_refl _)))); clear hb6)
              | ((with_reducible refine (rlooks_any aT n cT aL m cL T L Y O _ HP.out HCh.out (HT.out.keep (Nat.le_refl _) HX5.out.base.bel) (HL.out.keep (Nat.le_refl _) HX5.out.base.bel)).mono ?_); rintro e w7 ⟨rfl, hb7⟩; rw [HF2.out]; have HR5 := Lib.hid (lt_keep HX5.out hb7); have HR7 := Lib.hid (lt_keep HX7.out hb7); clear hb7)
              | ((with_reducible refine (awake_any _).mono ?_); rintro e w8 ⟨rfl, hb8⟩; have HS5 := Lib.hid (lt_keep HR5.out hb8); have HS7 := Lib.hid (lt_keep HR7.out hb8); clear hb8)))
          all_goals go_wp2
          all_goals go_ret
          all_goals exact ⟨rfl, HS5.out.base.bel⟩

end Go.Proofs.Ytcedhcpjnoppmaa
