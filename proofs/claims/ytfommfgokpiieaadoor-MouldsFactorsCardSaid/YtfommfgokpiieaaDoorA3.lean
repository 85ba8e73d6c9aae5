import Derived.Test.YtfommfgokpiieaaDoorA2
import Derived.IntWalk
namespace Go.Proofs.YtfommfgokpiieaaDoor
open Go.RowKit

theorem CellsAt.two {w : World} {a : Option Addr} {m : Nat} {X Y : Nat → Int} (h : CellsAt w a 2 m (fun i => pcell (X i) (Y i))) {k : Nat} (hk : k < m) :
    ∃ b o, a = some ⟨b, o, none⟩ ∧ w.cell? ⟨b, o + k * 2, none⟩ = some (.int .i64 (X k)) ∧ w.cell? ⟨b, o + k * 2 + 1, none⟩ = some (.int .i64 (Y k)) := by
  obtain ⟨b, o, ha, hc⟩ := h k hk
  exact ⟨b, o, ha, by have := hc 0 _ rfl; simpa using this, hc 1 _ rfl⟩

set_option maxHeartbeats 1000000 in
set_option maxRecDepth 100000 in
theorem end_any (s : ByteArray) (l : List UInt8) (w : World) (hl : s.data.toList = l) (hw : wordB l = true) (hS : StepsAt w) :
    Calls Tryd.prog 46 #[.string s] w fun r w' => r = .returned (pV (px l l.length) (py l l.length)) ∧ Below w.heap.size w w' := by
  have hn : l.length ≤ 24 := (wordB_iff.1 hw).1
  have HP := Lib.hid (path_any s l (w.alloc (.cells #[.int .i64 0, .int .i64 0] 33)) hl hw (hS.keep (one_le _ _)))
  have HB := Lib.hid (one_le w (.cells #[.int .i64 0, .int .i64 0] 33))
  have HA := Lib.hid (At2.of (heap_alloc_new w (.cells #[.int .i64 0, .int .i64 0] 33)))
  clear hl hw hS
  go_enter Tryd.func46, Tryd.ntmps46
  go_wp2_with fail
  refine HP.out.mono ?_
  rintro r w2 ⟨v, rfl, hO, hb2⟩
  obtain ⟨a, cap, rfl, hC, hc1, hc2⟩ := OwnC.read (s := 2) (fun i => pcell_len (px l i) (py l i)) hO
  obtain ⟨b, o, rfl, d0, d1⟩ := hC.two (show l.length < l.length + 1 by omega)
  have HB2 : Hid (Below w.heap.size w w2) := band HB.out hb2
  have HA2 := Lib.hid (HA.out.keep hb2)
  obtain ⟨q0, q1, qf0, qf1⟩ := HA2.out
  have hl2 := HA2.out.lt
  clear hO hC hb2 HP
  obtain ⟨X, hX⟩ : ∃ X, px l l.length = X := ⟨_, rfl⟩
  obtain ⟨Y, hY⟩ : ∃ Y, py l l.length = Y := ⟨_, rfl⟩
  obtain ⟨n, hN⟩ : ∃ n, l.length = n := ⟨_, rfl⟩
  have HR : Hid (Ending.returned (pV (px l l.length) (py l l.length)) = .returned (pV X Y)) := by simp only [Hid]; rw [hX, hY]
  rw [hX] at d0
  rw [hY] at d1
  rw [hN] at hn hc1 d0 d1
  rw [hN]
  clear hN hX hY
  have HS := Lib.hid (HA2.out.set (.int .i64 X) (.int .i64 Y))
  go_wp2
  have e0 := HS.out.c0
  have e1 := HS.out.c1
  refine bodyPost_ret (v := .agg #[.int .i64 X, .int .i64 Y]) (by simp [results, Tryd.results46, go_sem, e0, e1]) rfl ⟨HR.out.symm, ?_⟩
  exact below_set2 HB2.out (Nat.le_refl _) _ _

set_option maxHeartbeats 2000000 in
set_option maxRecDepth 100000 in
theorem area_any (s : ByteArray) (l : List UInt8) (w : World) (hl : s.data.toList = l) (hw : wordB l = true) (h4 : 4 ≤ l.length) (hS : StepsAt w) :
    Calls Tryd.prog 32 #[.string s] w fun r w' => r = .returned (.int .i64 (ar l l.length)) ∧ Below w.heap.size w w' := by
  have hn0 : l.length ≤ 24 := (wordB_iff.1 hw).1
  have HP := Lib.hid (path_any s l w hl hw hS)
  clear hl hw hS
  obtain ⟨n, hN⟩ : ∃ n, n = l.length := ⟨_, rfl⟩
  have HN := Lib.hid hN
  have hn : n ≤ 24 := by omega
  have hn4 : 4 ≤ n := by omega
  clear hN hn0 h4
  go_enter Tryd.func32, Tryd.ntmps32
  go_wp2_with fail
  refine HP.out.mono ?_
  rintro r w0 ⟨v, rfl, hO, hb2⟩
  rw [← HN.out] at hO
  obtain ⟨a, cap, rfl, hC, hc1, hc2⟩ := OwnC.read (s := 2) (fun i => pcell_len (px l i) (py l i)) hO
  have HC := Lib.hid hC
  obtain ⟨b, o, rfl, d0, d1⟩ := hC.two (show 0 < n + 1 by omega)
  have HB2 := Lib.hid hb2
  clear hO hC hb2 HP d0 d1
  unfold maxLen at hc2
  have hcap : (1 : Int) < cap := by omega
  have hcap1 : ¬ cap = 1 := by omega
  go_wp2
  go_loopw [3, 12] (fun v i wr => ∃ k : Nat, i = .int .i64 k ∧ v = .int .i64 (ar l k) ∧ k ≤ n ∧ Below w0.heap.size w0 wr) (fun _ i _ => n - (intOf i).toNat)
  case atStart => exact ⟨0, rfl, rfl, Nat.zero_le _, Below.refl _ _⟩
  case round =>
    obtain ⟨k, rfl, rfl, hk, hB⟩ := hrel
    have HB := Lib.hid hB
    have hC := HC.out.keep (Nat.le_refl _) hB
    clear hB
    by_cases hlt : k < n
    · obtain ⟨b', o', e1, d0, d1⟩ := hC.two (show k < n + 1 by omega)
      obtain ⟨b'', o'', e2, d2, d3⟩ := hC.two (show k + 1 < n + 1 by omega)
      injection e1 with e1; injection e1 with e1 e1'; subst e1; subst e1'
      injection e2 with e2; injection e2 with e2 e2'; subst e2; subst e2'
      have h2 : o + (k + 1) * 2 = o + 2 + k * 2 := by omega
      rw [h2] at d2 d3
      have hblt := World.block_lt_of_cell? _ _ d0
      have HA : Hid (ar l (k + 1) = ar l k + px l (k + 1) * (py l (k + 1) - py l k)) := rfl
      have b1 := ar_bd l k (by omega)
      have b2 := px_bd l (k + 1)
      have b3 := py_bd l (k + 1)
      have b4 := py_bd l k
      have b5 := sy_bd (lt l k)
      have b6 : py l (k + 1) - py l k = sy (lt l k) := by simp only [py]; omega
      have b7 := mul_bd (M := 30) (a := px l (k + 1)) (b := py l (k + 1) - py l k) (by omega) (by omega) (by omega) (by omega)
      clear b5 b6 hC h2
      have HL := Lib.hid (HB.out.trans ((one_le wr (.cells #[.int .i64 (px l (k + 1)), .int .i64 (py l (k + 1))] 33)).mono HB.out.size))
      generalize px l (k + 1) = X at *
      generalize py l (k + 1) = Y at *
      generalize py l k = Z at *
      generalize ar l k = A at *
      obtain ⟨m, hm⟩ : ∃ m, X * (Y - Z) = m := ⟨_, rfl⟩
      rw [hm] at b7
      have s1 : IntKind.i64.wrap (Y - Z) = Y - Z := IntWalk.i64_in _ (by omega)
      have s2 : IntKind.i64.wrap (X * (Y - Z)) = X * (Y - Z) := IntWalk.i64_in _ (by omega)
      have s3 : IntKind.i64.wrap (A + X * (Y - Z)) = A + X * (Y - Z) := IntWalk.i64_in _ (by omega)
      have HM := Lib.hid hm
      clear b1 b2 b3 b4 b7 hm
      go_wp2
      go_quiet (fail)
      clear s1 s2 s3
      go_wp2
      go_roundw
      case rel => exact ⟨k + 1, by go_num, by rw [HA.out], by omega, below_drewN HL.out _⟩
      case measure => simp [intOf]; omega
    · have e : l.length = k := by rw [← HN.out]; omega
      have E := Lib.hid e
      have hge : (n : Int) ≤ k := by omega
      clear e
      go_wp2
      go_ret
      exact ⟨by rw [E.out]; rfl, band HB2.out HB.out⟩
end Go.Proofs.YtfommfgokpiieaaDoor
