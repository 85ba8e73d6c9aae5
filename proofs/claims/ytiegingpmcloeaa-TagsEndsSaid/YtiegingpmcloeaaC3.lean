import Derived.Test.YtiegingpmcloeaaC2
namespace Go.Proofs.Ytiegingpmcloeaa
open Go.RowKit

/-- Is a pair of numbers a circle of the run, with its end among m places? -/
def ckB (N : Nat → QN) (s : Pl) (m : Nat) (i j : Int) : Bool := decide (0 ≤ i ∧ i < j ∧ j < m) && isC N s i.toNat j.toNat

theorem iscircle_any (N : Nat → QN) (s : Pl) (n cap : Nat) (a : Option Addr) (w : World) (al : Option Addr) (m cl : Nat) (i j : Int) (hm : m ≤ 2000) (hcl : m ≤ cl) (hcm : cl ≤ maxLen) (hN : okN n N) (hs : s.o < n) (hM : Ords w a n (fun k => (N k).z)) (hP : PlsAt w al m (pl N s)) :
    Calls Try.prog 36 #[.slice a n cap, .slice al m cl, .int .i64 i, .int .i64 j] w fun r w' => SomeB (ckB N s m i j) w r w' := by
  by_cases h : 0 ≤ i ∧ i < j ∧ j < m
  · obtain ⟨I, rfl⟩ : ∃ I : Nat, i = I := ⟨i.toNat, by omega⟩
    obtain ⟨J, rfl⟩ : ∃ J : Nat, j = J := ⟨j.toNat, by omega⟩
    have e : ckB N s m I J = decide (circR N (pl N s) I J) := by unfold ckB; rw [decide_eq_true h]; simp [isC]
    rw [e]
    exact iscircle_in N (pl N s) n cap a w al m cl I J hm hcl hcm (by omega) (by omega) hN hM hP (fun k => pl_lt hN hs k)
  · have e : ckB N s m i j = false := by unfold ckB; rw [decide_eq_false h]; rfl
    rw [e]
    exact iscircle_out n cap a w al m cl i j hm h

set_option maxRecDepth 100000 in
theorem check_bad (M : Nat → Q) (n cap : Nat) (a : Option Addr) (x y i j : Int) (w : World) (hn : n ≤ 1000) (hr : (isM n M && decide ((0 ≤ x ∧ x ≤ 100) ∧ 0 ≤ y ∧ y ≤ 100)) = false) (hM : Ords w a n M) :
    Calls Try.prog 18 #[.slice a n cap, .agg #[.int .i64 x, .int .i64 y], .agg #[.int .i64 i, .int .i64 j]] w fun r w' => r = .returned (.tuple #[.bool false, .int .i64 2]) ∧ Below w.heap.size w w' := by
  have HC := Lib.hid (fun W (hW : Below w.heap.size w W) => canRun_r false M n cap a x y W hn hr (hM.keep (Nat.le_refl _) hW))
  clear hM hr
  go_enter Try.func18, Try.ntmps18
  go_wp2_with fail
  refine (HC.out _ ?_).mono ?_
  · first | exact one_le _ _ | exact two_le _ _ _
  rintro r w2 ⟨rfl, hb2⟩
  have HB : Hid (Below w.heap.size w w2) := by first | exact band (one_le _ _) hb2 | exact band (two_le _ _ _) hb2
  clear hb2
  go_wp2
  go_ret2
  exact ⟨rfl, HB.out⟩

set_option maxHeartbeats 1000000 in
set_option maxRecDepth 100000 in
theorem check_good (N : Nat → QN) (n cap : Nat) (a : Option Addr) (x y : Nat) (i j : Int) (w : World) (hN : okN n N) (hx : x ≤ 100) (hy : y ≤ 100) (hM : Ords w a n (fun k => (N k).z)) :
    Calls Try.prog 18 #[.slice a n cap, .agg #[.int .i64 x, .int .i64 y], .agg #[.int .i64 i, .int .i64 j]] w fun r w' => r = .returned (.tuple #[.bool (ckB N ⟨0, x, y⟩ (dn N ⟨0, x, y⟩ 1000 + 1) i j), .int .i64 0]) ∧ Below w.heap.size w w' := by
  have hn : n ≤ 1000 := by have := hN.few; omega
  have HC := Lib.hid (fun W (hW : Below w.heap.size w W) => canRun_r true (fun k => (N k).z) n cap a x y W hn (by rw [okN_isM hN]; simp; omega) (hM.keep (Nat.le_refl _) hW))
  have HPl : Hid (∀ W, Below w.heap.size w W → Calls Try.prog 35 #[.slice a n cap, .agg #[.int .i64 x, .int .i64 y], .int .i64 1000] W fun r w' => PpOut N ⟨0, x, y⟩ 1000 W r w') :=
    fun W hW => places_any N n cap a x y 1000 W hN hx hy (Nat.le_refl _) (hM.keep (Nat.le_refl _) hW)
  have hd := dn_le (N := N) (s := ⟨0, x, y⟩) 1000
  have HIs := Lib.hid (fun W al cl i j (hW : Below w.heap.size w W) h1 h2 hP => iscircle_any N ⟨0, x, y⟩ n cap a W al (dn N ⟨0, x, y⟩ 1000 + 1) cl i j (by omega) h1 h2 hN hN.pos (hM.keep (Nat.le_refl _) hW) hP)
  unfold PpOut at HPl
  generalize (⟨0, x, y⟩ : Pl) = s at *
  clear hM hN
  go_enter Try.func18, Try.ntmps18
  go_wp2_with fail
  refine (HC.out _ (two_le _ _ _)).mono ?_
  rintro r w2 ⟨rfl, hb2⟩
  have HB := Lib.hid (band (two_le _ _ _) hb2)
  have k1 := (hb2.block w.heap.size (by simp; omega)).trans (heap_two1 w _ _)
  have k2 := (hb2.block (w.heap.size + 1) (by simp)).trans (heap_two2 w _ _)
  have HS2 : Hid (w2.cell? ⟨w.heap.size, 0, none⟩ = some (.int .i64 x) ∧ w2.cell? ⟨w.heap.size, 1, none⟩ = some (.int .i64 y) ∧ w2.cell? ⟨w.heap.size + 1, 0, none⟩ = some (.int .i64 i) ∧ w2.cell? ⟨w.heap.size + 1, 1, none⟩ = some (.int .i64 j)) :=
    ⟨block_cell k1 0, block_cell k1 1, block_cell k2 0, block_cell k2 1⟩
  have HK : Hid (∀ v, Below w2.heap.size w2 v → v.cell? ⟨w.heap.size, 0, none⟩ = some (.int .i64 x) ∧ v.cell? ⟨w.heap.size, 1, none⟩ = some (.int .i64 y) ∧ v.cell? ⟨w.heap.size + 1, 0, none⟩ = some (.int .i64 i) ∧ v.cell? ⟨w.heap.size + 1, 1, none⟩ = some (.int .i64 j)) := by
    intro v hv
    have q1 := (hv.block _ (Array.getElem?_eq_some_iff.1 k1).1).trans k1
    have q2 := (hv.block _ (Array.getElem?_eq_some_iff.1 k2).1).trans k2
    exact ⟨block_cell q1 0, block_cell q1 1, block_cell q2 0, block_cell q2 1⟩
  have HBd := Lib.hid HB.out.drew
  clear hb2 k1 k2
  obtain ⟨x0, x1, y0, y1⟩ := HS2.out
  go_wp2
  go_region_held3 (fun w' => w'.cell? ⟨w.heap.size, 0, none⟩ = some (.int .i64 x) ∧ w'.cell? ⟨w.heap.size, 1, none⟩ = some (.int .i64 y) ∧ w'.cell? ⟨w.heap.size + 1, 0, none⟩ = some (.int .i64 i) ∧ w'.cell? ⟨w.heap.size + 1, 1, none⟩ = some (.int .i64 j))
    (first
      | (go_split_ands; exact HS4.out)
      | (go_split_ands; exact HS3.out)
      | go_keep)
    ((first
      | (go_at_call 35; (with_reducible refine (HPl.out _ HBd.out).mono ?_); rintro r w3 ⟨v, rfl, hO, hb3⟩; obtain ⟨al, cl, rfl, h1, h2, hC⟩ := own_pls hO; have H1 := Lib.hid h1; have H2 := Lib.hid h2; have HC3 := Lib.hid hC; have HBx := Lib.hid (below_drew1 hb3); have HB3 := Lib.hid (band HB.out HBx.out); have HS3 := Lib.hid (HK.out _ HBx.out); clear hO hb3 h1 h2 hC)
      | (go_at_call 36; (with_reducible refine (HIs.out _ _ _ _ _ HB3.out H1.out H2.out HC3.out).mono ?_); rintro r w4 ⟨rfl, hb4⟩; have HB4 := Lib.hid (band HB3.out hb4); have HS4 := Lib.hid (HK.out _ (band HBx.out hb4)); clear hb4)))
  all_goals
    go_wp2
    go_ret2
    exact ⟨rfl, HB4.out⟩

end Go.Proofs.Ytiegingpmcloeaa
