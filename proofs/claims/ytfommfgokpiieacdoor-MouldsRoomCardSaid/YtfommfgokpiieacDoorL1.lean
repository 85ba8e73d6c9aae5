import Derived.Test.YtfommfgokpiieacDoorA5
import Derived.Test.YtfommfgokpiieacDoorC6
namespace Go.Proofs.YtfommfgokpiieacDoor
open Go.RowKit

def SomeB (r : Bool) (w : World) (e : Ending) (w' : World) : Prop := e = .returned (.bool r) ∧ Below w.heap.size w w'

theorem u64_pos (j : Int) : 0 ≤ IntKind.u64.wrap j := by
  unfold IntKind.wrap
  simp [IntKind.signed, IntKind.bits]
  omega
theorem conv (m : Int) (h0 : 0 < m) (h1 : m ≤ 1000) (j : Int) : ∃ d : Nat, (d : Int) < m ∧ wrap64 ((IntKind.u64.wrap j).tmod m) = d := by
  have hp := u64_pos j
  generalize IntKind.u64.wrap j = u at *
  have e : u.tmod m = u % m := Int.tmod_eq_emod_of_nonneg hp
  have h2 := Int.emod_nonneg u (show m ≠ 0 by omega)
  have h3 := Int.emod_lt_of_pos u h0
  refine ⟨(u % m).toNat, by omega, ?_⟩
  rw [e, show ((u % m).toNat : Int) = u % m by omega]
  exact IntWalk.wrap64_in _ (by omega)

theorem cellsB_min {n : Nat} {X Y : Nat → Int} : cellsB (min n 33) X Y = cellsB n X Y := by
  by_cases h : n ≤ 33
  · rw [show min n 33 = n by omega]
  · rw [cellsB_no (fun h' => by omega), cellsB_no (fun h' => by omega)]

/-- No two cells are moved onto each other by sums of vectors that fill a tray. -/
theorem moved_no {n : Nat} {X Y : Nat → Int} {vx vy wx wy I J : Int} (h : fillsB n X Y vx vy wx wy = true) (hn : 1 ≤ n) (hij : ¬ (I = 0 ∧ J = 0)) {a : Nat} (ha : a < n) :
    hasB n X Y (X a + I * vx + J * wx) (Y a + I * vy + J * wy) = false := by
  cases hb : hasB n X Y (X a + I * vx + J * wx) (Y a + I * vy + J * wy)
  · rfl
  · exfalso
    obtain ⟨b, hbn, hx, hy⟩ := hasB_iff.1 hb
    obtain ⟨hA, hF⟩ := fillsB_iff.1 h
    have hA0 : crossN vx vy wx wy ≠ 0 := by omega
    have k1 : crossN (X b - X a) (Y b - Y a) wx wy = I * crossN vx vy wx wy := by
      rw [hx, hy]; unfold crossN; grind
    have k2 : crossN vx vy (X b - X a) (Y b - Y a) = J * crossN vx vy wx wy := by
      rw [hx, hy]; unfold crossN; grind
    have k3 : crossN (X a - X b) (Y a - Y b) wx wy = (-I) * crossN vx vy wx wy := by
      rw [hx, hy]; unfold crossN; grind
    have k4 : crossN vx vy (X a - X b) (Y a - Y b) = (-J) * crossN vx vy wx wy := by
      rw [hx, hy]; unfold crossN; grind
    rcases Nat.lt_trichotomy a b with hab | hab | hab
    · exact hF b hbn a hab ⟨by rw [k1]; exact Int.mul_tmod_left _ _, by rw [k2]; exact Int.mul_tmod_left _ _⟩
    · subst hab
      have e1 : crossN (X a - X a) (Y a - Y a) wx wy = 0 := by unfold crossN; grind
      have e2 : crossN vx vy (X a - X a) (Y a - Y a) = 0 := by unfold crossN; grind
      rw [e1] at k1
      rw [e2] at k2
      apply hij
      constructor
      · rcases Int.mul_eq_zero.1 k1.symm with h | h
        · exact h
        · exact absurd h hA0
      · rcases Int.mul_eq_zero.1 k2.symm with h | h
        · exact h
        · exact absurd h hA0
    · exact hF a ha b hab ⟨by rw [k3]; exact Int.mul_tmod_left _ _, by rw [k4]; exact Int.mul_tmod_left _ _⟩

set_option maxHeartbeats 8000000 in
set_option maxRecDepth 100000 in
theorem room_bad (W : World) (a : Option Addr) (n cap : Nat) (X Y : Nat → Int) (vx vy wx wy i j : Int) (hn : n ≤ cap) (hn8 : n ≤ 8796093022208) (hC : CellsAt W a 2 n (fun i => pcell (X i) (Y i))) (hS : StepsAt W)
    (h : okF n X Y vx vy wx wy = false) :
    Calls Tryd.prog 6 #[.slice a n cap, pV vx vy, pV wx wy, .int .i64 i, .int .i64 j] W fun e W' => SomeB true W e W' := by
  have HV := Lib.hid (VW.of W vx vy wx wy 31)
  have HL := Lib.hid (list_any a cap n X Y (((W.alloc (.cells #[.int .i64 vx, .int .i64 vy] 31)).alloc (.cells #[.int .i64 wx, .int .i64 wy] 31)).drew) hn hn8 ((hC.keep (Nat.le_refl _) HV.out.bel).keep (Nat.le_refl _) (Below.drew (Below.refl _ _))))
  have h' : okF (min n 33) X Y vx vy wx wy = false := by unfold okF at h ⊢; rw [cellsB_min]; exact h
  have HF := Lib.hid (fun a' cap' W' hC' => fFills_bad a' (min n 33) cap' X Y vx vy wx wy W' (Nat.min_le_right _ _) h' hC')
  have HS := Lib.hid (hS.keep HV.out.bel)
  have HAw := Lib.hid (fun W' h => awake_any W' h)
  clear hC hS h h'
  obtain ⟨v0, v1, vf0, vf1⟩ := HV.out.v
  obtain ⟨g0, g1, gf0, gf1⟩ := HV.out.w
  go_enter Tryd.func6, Tryd.ntmps6
  go_wp2
  obtain ⟨W0, hW0⟩ : ∃ W0, W0 = (W.alloc (.cells #[.int .i64 vx, .int .i64 vy] 31)).alloc (.cells #[.int .i64 wx, .int .i64 wy] 31) := ⟨_, rfl⟩
  rw [← hW0] at HV HL HS v0 v1 vf0 vf1 g0 g1 gf0 gf1 ⊢
  have HW0 := Lib.hid hW0
  clear hW0
  have HK : Hid (∀ v, Below W0.heap.size W0 v → v.cell? ⟨W.heap.size, 0, none⟩ = some (.int .i64 vx) ∧ v.cell? ⟨W.heap.size, 1, none⟩ = some (.int .i64 vy) ∧ v.cell? ⟨W.heap.size + 1, 0, none⟩ = some (.int .i64 wx) ∧ v.cell? ⟨W.heap.size + 1, 1, none⟩ = some (.int .i64 wy)) := by
    intro v hv
    have h := HV.out.keep hv
    exact ⟨h.v.c0, h.v.c1, h.w.c0, h.w.c1⟩
  go_region_held3 (fun v => v.cell? ⟨W.heap.size, 0, none⟩ = some (.int .i64 vx) ∧ v.cell? ⟨W.heap.size, 1, none⟩ = some (.int .i64 vy) ∧ v.cell? ⟨W.heap.size + 1, 0, none⟩ = some (.int .i64 wx) ∧ v.cell? ⟨W.heap.size + 1, 1, none⟩ = some (.int .i64 wy))
    (first
      | (go_split_ands; exact HS2.out)
      | (go_split_ands; exact HS1.out)
      | go_keep)
    ((first
      | (go_at_call 15; (with_reducible refine HL.out.mono ?_); rintro r w1 ⟨a', cap', rfl, h1, h2, h3, hb⟩; have HC1 := Lib.hid h3; have HB1 := Lib.hid (below_drew1 hb); have HS1 := Lib.hid (HK.out _ HB1.out); clear h1 h2 h3 hb)
      | (go_at_call 14; (with_reducible refine (HF.out _ _ _ HC1.out).mono ?_); rintro r w2 ⟨rfl, hb⟩; have HB2 := Lib.hid (band HB1.out hb); have HS2 := Lib.hid (HK.out _ HB2.out); clear hb)))
  all_goals
    have HBW : Hid (Below W.heap.size W w2) := band HV.out.bel HB2.out
    have HSt : Hid (StepsAt w2) := HS.out.keep HB2.out
    go_wp2_with fail
    refine (HAw.out _ HSt.out).mono ?_
    rintro r w3 ⟨rfl, hb⟩
    have HBZ := Lib.hid (band HBW.out hb)
    clear hb
    go_wp2
    go_ret
    exact ⟨rfl, HBZ.out⟩
end Go.Proofs.YtfommfgokpiieacDoor
