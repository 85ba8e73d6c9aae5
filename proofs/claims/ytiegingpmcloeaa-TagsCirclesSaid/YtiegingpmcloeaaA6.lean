import Derived.Test.YtiegingpmcloeaaA5
import Derived.BigRegion
namespace Go.Proofs.Ytiegingpmcloeaa
open Go.RowKit

theorem Try.infoTO : (Try.prog.info? 57).map (fun i => (i.zero, i.size, i.bytes)) = some (some (.agg #[.int .i64 0, .int .i64 0, .int .i64 0, .int .i64 0]), 4, 32) := by kernel_rfl

theorem qcell_len (q : Q) : (qcell q).length = 4 := rfl
theorem qcell_ok (q : Q) : ∀ u ∈ qcell q, u.oneCell' = true := by
  intro u hu
  simp [qcell] at hu
  rcases hu with rfl | rfl | rfl | rfl <;> rfl
theorem two_new (w : World) (o1 : Obj) (l : List Value) (T : TypeId) : ∀ j u, l[j]? = some u → ((w.alloc o1).alloc (.cells l.toArray T)).cell? ((⟨w.heap.size + 1, 0, none⟩ : Addr).add j) = some u := by
  have := new_cells (w.alloc o1) l T
  simpa using this

set_option maxHeartbeats 1000000 in
set_option maxRecDepth 100000 in
theorem of_any (M : Nat → Q) (n cap : Nat) (a : Option Addr) (w : World) (hn : n ≤ 140737488351232) (hM : Ords w a n M) :
    Calls Try.prog 11 #[.slice a n cap] w fun r w' => ∃ v, r = .returned v ∧ OwnC w' w.heap.size 57 4 v (min n 11) (fun k => qcell (M k)) ∧ Below w.heap.size w w' := by
  have HM := Lib.hid hM
  clear hM
  go_enter Try.func11, Try.ntmps11
  go_wp2
  go_loopw [3, 4, 5, 8] (fun v _ _ i wr => ∃ k m : Nat, k ≤ n ∧ Hid (m = min k 11) ∧ i = .int .i64 k ∧ OwnC wr w.heap.size 57 4 v m (fun k => qcell (M k)) ∧ Below w.heap.size w wr) (fun _ _ _ i _ => n - (intOf i).toNat)
  case atStart => exact ⟨0, 0, Nat.zero_le _, by simp [Hid], rfl, OwnC.nil _ _ _ _ _, Below.refl _ _⟩
  case round =>
    obtain ⟨k, m, hk, hm, rfl, hO, hb⟩ := hrel
    have HO := Lib.hid hO
    have HB := Lib.hid hb
    have hBs := hb.size
    clear hO hb
    by_cases hlt : k < n
    · obtain ⟨b, o, rfl, c0, c1, c2, c3⟩ := (HM.out.keep (Nat.le_refl _) HB.out) k hlt
      have hbl := World.block_lt_of_cell? _ _ c0
      by_cases h11 : k < 11
      · have hm' : m = k := by have := hm.out; omega
        have hm2 : Hid (k + 1 = min (k + 1) 11) := by simp [Hid]; omega
        subst hm'
        obtain ⟨i0, hi, hz0, hz1, hz2⟩ := info_parts Try.infoTO
        have HQ := Lib.hid (qcell_len (M m))
        go_wp2_with (at_builtin; refine wpList_append_own _ rfl _ _ 27 rfl w.heap.size 57 i0 (.agg #[.int .i64 0, .int .i64 0, .int .i64 0, .int .i64 0]) 4 32 Try.underlying27 hi hz0 hz1 hz2 rfl (by decide) _ _ _ rfl ((HO.out.keep (two_le _ _ _)) : World.ownsRow _ _ _ _ _ _ _) ⟨wr.heap.size + 1, 0, none⟩ 1 1 (qcell (M m)) rfl rfl (two_new _ _ _ _) (qcell_ok _) (by unfold maxLen; omega) (by omega) (by simp; omega) ?_)
        intro v' w5 hown hgrow _
        have hO5 : OwnC w5 w.heap.size 57 4 v' (m + 1) (fun k => qcell (M k)) := OwnC.snoc rfl hown
        have hB5 : Below w.heap.size w w5 := (HB.out.trans ((two_le _ _ _).mono hBs)).grown hgrow (by simp; omega) (fun k hk => (World.ownsRow.lt HO.out k hk).1)
        have HO5 := Lib.hid hO5
        have HB5 := Lib.hid hB5
        clear hown hgrow hO5 hB5
        go_wp2
        go_roundw
        case rel => exact ⟨m + 1, m + 1, by omega, hm2, by go_num, HO5.out, HB5.out⟩
        case measure => simp [intOf]; omega
      · have hm2 : Hid (m = min (k + 1) 11) := by have := hm.out; simp [Hid]; omega
        have h11' : decide ((k : Int) < 11) = false := by simp; omega
        have HF : Hid (∀ o1, Below w.heap.size w (wr.alloc o1)) := fun o1 => HB.out.alloc hBs _
        have HO5 := Lib.hid (fun o1 => HO.out.keep (one_le wr o1))
        clear h11
        go_wp2
        go_roundw
        case rel => exact ⟨k + 1, m, by omega, hm2, by go_num, HO5.out _, HF.out _⟩
        case measure => simp [intOf]; omega
    · have e : n = k := by omega
      have hm2 : m = min n 11 := by rw [e]; exact hm.out
      have HM2 := Lib.hid hm2
      clear hm2
      have hge : (n : Int) ≤ k := by omega
      have E := Lib.hid e
      clear e
      go_wp2
      go_ret
      exact ⟨_, rfl, by rw [← HM2.out]; exact HO.out, HB.out⟩

set_option maxHeartbeats 1000000 in
set_option maxRecDepth 100000 in
theorem tgo_bad (M : Nat → Q) (n cap : Nat) (a : Option Addr) (x y m : Int) (w : World) (hn : n ≤ 1000) (hr : (isM n M && decide ((0 ≤ x ∧ x ≤ 100) ∧ 0 ≤ y ∧ y ≤ 100)) = false) (hM : Ords w a n M) :
    Calls Try.prog 10 #[.slice a n cap, .agg #[.int .i64 x, .int .i64 y], .int .i64 m] w fun r w' => r = .returned (.tuple #[.int .i64 0, .agg #[.int .i64 0, .int .i64 0], .int .i64 0, .int .i64 2]) ∧ Below w.heap.size w w' := by
  have HC := Lib.hid (fun o1 o2 => canRun_r false M n cap a x y ((w.alloc o1).alloc o2) hn hr (hM.keep (Nat.le_refl _) (two_le _ _ _)))
  clear hM hr
  go_enter Try.func10, Try.ntmps10
  go_wp2_with fail
  refine (HC.out _ _).mono ?_
  rintro r w2 ⟨rfl, hb2⟩
  have HB : Hid (Below w.heap.size w w2) := band (two_le _ _ _) hb2
  have k2 := (hb2.block (w.heap.size + 1) (by simp)).trans (heap_two2 w _ _)
  have l2 := (Array.getElem?_eq_some_iff.1 k2).1
  have x0 := block_cell k2 0
  have x1 := block_cell k2 1
  have f0 := block_free k2 0
  have f1 := block_free k2 1
  simp at x0 x1
  clear hb2 k2
  go_wp2
  exact bodyPost_ret (v := .tuple #[.int .i64 0, .agg #[.int .i64 0, .int .i64 0], .int .i64 0, .int .i64 2]) (by simp [results, Try.results10, go_sem, x0, x1]) rfl ⟨rfl, (HB.out.setCell (by simp) _).setCell (by simp) _⟩

set_option maxHeartbeats 1000000 in
set_option maxRecDepth 100000 in
theorem tgo_off (M : Nat → Q) (n cap : Nat) (a : Option Addr) (x y m : Int) (w : World) (hn : n ≤ 1000) (hr : (isM n M && decide ((0 ≤ x ∧ x ≤ 100) ∧ 0 ≤ y ∧ y ≤ 100)) = true) (hm : ¬ (0 ≤ m ∧ m ≤ 1000)) (hM : Ords w a n M) :
    Calls Try.prog 10 #[.slice a n cap, .agg #[.int .i64 x, .int .i64 y], .int .i64 m] w fun r w' => r = .returned (.tuple #[.int .i64 0, .agg #[.int .i64 0, .int .i64 0], .int .i64 0, .int .i64 2]) ∧ Below w.heap.size w w' := by
  have HC := Lib.hid (fun o1 o2 => canRun_r true M n cap a x y ((w.alloc o1).alloc o2) hn hr (hM.keep (Nat.le_refl _) (two_le _ _ _)))
  have hb1 : ∀ W2 b T, W2.heap[b]? = some (.cells #[.int .i64 m] T) → Calls Try.prog 31 #[.int .i64 0, .int .i64 1000, .slice (some ⟨b, 0, none⟩) 1 1] W2 fun e w' => e = .returned (.bool false) ∧ W2 = w' :=
    fun W2 b T h => between_one false b _ T m 0 1000 W2 h rfl (by simpa using hm)
  have HB1 := Lib.hid hb1
  clear hM hr hm hb1
  go_enter Try.func10, Try.ntmps10
  go_wp2_with fail
  refine (HC.out _ _).mono ?_
  rintro r w2 ⟨rfl, hb2⟩
  have HB : Hid (Below w.heap.size w (w2.alloc (.cells #[.int .i64 m] 3))) := (band (two_le _ _ _) hb2).alloc (band (two_le _ _ _) hb2).size _
  have k0 := (hb2.block (w.heap.size + 1) (by simp)).trans (heap_two2 w _ _)
  have k2 : (w2.alloc (.cells #[.int .i64 m] 3)).heap[w.heap.size + 1]? = _ := (Below.heap_alloc _ _ _ (Array.getElem?_eq_some_iff.1 k0).1).trans k0
  have l2 := (Array.getElem?_eq_some_iff.1 k2).1
  have x0 := block_cell k2 0
  have x1 := block_cell k2 1
  have f0 := block_free k2 0
  have f1 := block_free k2 1
  simp at x0 x1
  clear hb2 k2 k0
  go_wp2_with fail
  refine (HB1.out _ _ _ (heap_alloc_new _ _)).mono ?_
  rintro r w3 ⟨rfl, rfl⟩
  go_wp2
  exact bodyPost_ret (v := .tuple #[.int .i64 0, .agg #[.int .i64 0, .int .i64 0], .int .i64 0, .int .i64 2]) (by simp [results, Try.results10, go_sem, x0, x1]) rfl ⟨rfl, (HB.out.setCell (by simp) _).setCell (by simp) _⟩

set_option maxHeartbeats 1000000 in
set_option maxRecDepth 100000 in
theorem tgo_good (N : Nat → QN) (n cap : Nat) (a : Option Addr) (x y m : Nat) (w : World) (hN : okN n N) (hx : x ≤ 100) (hy : y ≤ 100) (hm : m ≤ 1000) (hM : Ords w a n (fun k => (N k).z)) :
    Calls Try.prog 10 #[.slice a n cap, .agg #[.int .i64 x, .int .i64 y], .int .i64 m] w fun r w' =>
      r = .returned (.tuple #[.int .i64 (pl N ⟨0, x, y⟩ m).o, .agg #[.int .i64 (pl N ⟨0, x, y⟩ m).x, .int .i64 (pl N ⟨0, x, y⟩ m).y], .int .i64 (dn N ⟨0, x, y⟩ m), .int .i64 0]) ∧ Below w.heap.size w w' := by
  have hn : n ≤ 1000 := by have := hN.few; omega
  have HC := Lib.hid (fun o1 o2 => canRun_r true (fun k => (N k).z) n cap a x y ((w.alloc o1).alloc o2) hn (by rw [okN_isM hN]; simp; omega) (hM.keep (Nat.le_refl _) (two_le _ _ _)))
  have hb1 : ∀ W2 b T, W2.heap[b]? = some (.cells #[.int .i64 m] T) → Calls Try.prog 31 #[.int .i64 0, .int .i64 1000, .slice (some ⟨b, 0, none⟩) 1 1] W2 fun e w' => e = .returned (.bool true) ∧ W2 = w' :=
    fun W2 b T h => between_one true b _ T m 0 1000 W2 h rfl (by simp; omega)
  have HB1 := Lib.hid hb1
  have HRun := Lib.hid (fun W (hW : Below w.heap.size w W) => run_any N n cap a x y m W hN hx hy hm (hM.keep (Nat.le_refl _) hW))
  generalize pl N ⟨0, x, y⟩ m = p at *
  generalize dn N ⟨0, x, y⟩ m = d at *
  clear hM hb1 hN
  go_enter Try.func10, Try.ntmps10
  go_wp2_with fail
  refine (HC.out _ _).mono ?_
  rintro r w2 ⟨rfl, hb2⟩
  have HB : Hid (Below w.heap.size w (w2.alloc (.cells #[.int .i64 m] 3))) := (band (two_le _ _ _) hb2).alloc (band (two_le _ _ _) hb2).size _
  have k0 := (hb2.block (w.heap.size + 1) (by simp)).trans (heap_two2 w _ _)
  have k2 : (w2.alloc (.cells #[.int .i64 m] 3)).heap[w.heap.size + 1]? = _ := (Below.heap_alloc _ _ _ (Array.getElem?_eq_some_iff.1 k0).1).trans k0
  have j0 := (hb2.block w.heap.size (by simp; omega)).trans (heap_two1 w _ _)
  have j2 : (w2.alloc (.cells #[.int .i64 m] 3)).heap[w.heap.size]? = _ := (Below.heap_alloc _ _ _ (Array.getElem?_eq_some_iff.1 j0).1).trans j0
  have HK := Lib.hid k2
  have l1 := (Array.getElem?_eq_some_iff.1 j2).1
  have y0 := block_cell j2 0
  have y1 := block_cell j2 1
  simp at y0 y1
  clear hb2 k2 k0 j0 j2
  go_wp2_with fail
  refine (HB1.out _ _ _ (heap_alloc_new _ _)).mono ?_
  rintro r w3 ⟨rfl, rfl⟩
  go_wp2_with fail
  refine (HRun.out _ HB.out).mono ?_
  rintro r w4 ⟨rfl, hb4⟩
  have HB4 : Hid (Below w.heap.size w w4) := HB.out.trans (hb4.mono HB.out.size)
  have k2 := (hb4.block _ (Array.getElem?_eq_some_iff.1 HK.out).1).trans HK.out
  obtain ⟨W5, hW5⟩ : ∃ W5, W5 = w4.alloc (.cells #[.int .i64 p.o, .int .i64 p.x, .int .i64 p.y] 62) := ⟨_, rfl⟩
  have HB5 : Hid (Below w.heap.size w W5) := by rw [hW5]; exact HB4.out.alloc HB4.out.size _
  have k5 : W5.heap[w.heap.size + 1]? = some (.cells #[.int .i64 0, .int .i64 0] 23) := by rw [hW5]; exact (Below.heap_alloc _ _ _ (Array.getElem?_eq_some_iff.1 k2).1).trans k2
  have j5 : W5.heap[w4.heap.size]? = some (.cells #[.int .i64 p.o, .int .i64 p.x, .int .i64 p.y] 62) := by rw [hW5]; exact heap_alloc_new _ _
  have x0 := block_cell k5 0
  have x1 := block_cell k5 1
  have f0 := block_free k5 0
  have f1 := block_free k5 1
  have z0 := block_cell j5 0
  have z1 := block_cell j5 1
  have z2 := block_cell j5 2
  have l2 := (Array.getElem?_eq_some_iff.1 k5).1
  simp at x0 x1 z0 z1 z2
  have HW5 := Lib.hid hW5
  clear hb4 k2 k5 j5 hW5
  go_wp2
  rw [← HW5.out]
  go_region
  all_goals
    go_wp2
    refine bodyPost_ret (v := .tuple #[.int .i64 p.o, .agg #[.int .i64 p.x, .int .i64 p.y], .int .i64 d, .int .i64 0]) ?_ rfl ⟨rfl, ?_⟩
    · simp [results, Try.results10, go_sem, x0, x1]
    · exact ((HB5.out.setCell (by simp) _).setCell (by simp) _).drew

set_option maxHeartbeats 1000000 in
set_option maxRecDepth 100000 in
theorem ends_bad (M : Nat → Q) (n cap : Nat) (a : Option Addr) (x y : Int) (w : World) (hn : n ≤ 1000) (hr : (isM n M && decide ((0 ≤ x ∧ x ≤ 100) ∧ 0 ≤ y ∧ y ≤ 100)) = false) (hM : Ords w a n M) :
    Calls Try.prog 16 #[.slice a n cap, .agg #[.int .i64 x, .int .i64 y]] w fun r w' => r = .returned (.tuple #[.int .i64 0, .int .i64 2]) ∧ Below w.heap.size w w' := by
  have HC := Lib.hid (fun o1 => canRun_r false M n cap a x y (w.alloc o1) hn hr (hM.keep (Nat.le_refl _) (one_le _ _)))
  have HC0 := Lib.hid (canRun_r false M n cap a x y w hn hr hM)
  clear hM hr
  go_enter Try.func16, Try.ntmps16
  go_wp2_with fail
  first
    | (refine HC0.out.mono ?_
       rintro r w2 ⟨rfl, hb2⟩
       have HB : Hid (Below w.heap.size w w2) := hb2
       clear hb2
       go_wp2
       go_ret2
       exact ⟨rfl, HB.out⟩)
    | (refine (HC.out _).mono ?_
       rintro r w2 ⟨rfl, hb2⟩
       have HB : Hid (Below w.heap.size w w2) := band (one_le _ _) hb2
       clear hb2
       go_wp2
       go_ret2
       exact ⟨rfl, HB.out⟩)

/-- What Ends tells. -/
def endsE (N : Nat → QN) (s : Pl) : Int := if isEnd N (pl N s 1000) = true then 0 else 4
def endsK (N : Nat → QN) (s : Pl) : Nat := if isEnd N (pl N s 1000) = true then dn N s 1000 else 0

set_option maxHeartbeats 1000000 in
set_option maxRecDepth 100000 in
theorem ends_good (N : Nat → QN) (n cap : Nat) (a : Option Addr) (x y : Nat) (w : World) (hN : okN n N) (hx : x ≤ 100) (hy : y ≤ 100) (hM : Ords w a n (fun k => (N k).z)) :
    Calls Try.prog 16 #[.slice a n cap, .agg #[.int .i64 x, .int .i64 y]] w fun r w' => r = .returned (.tuple #[.int .i64 (endsK N ⟨0, x, y⟩), .int .i64 (endsE N ⟨0, x, y⟩)]) ∧ Below w.heap.size w w' := by
  have hn : n ≤ 1000 := by have := hN.few; omega
  have HC := Lib.hid (fun o1 => canRun_r true (fun k => (N k).z) n cap a x y (w.alloc o1) hn (by rw [okN_isM hN]; simp; omega) (hM.keep (Nat.le_refl _) (one_le _ _)))
  have HRun := Lib.hid (fun W (hW : Below w.heap.size w W) => run_any N n cap a x y 1000 W hN hx hy (Nat.le_refl _) (hM.keep (Nat.le_refl _) hW))
  have HE := Lib.hid (fun W (hW : Below w.heap.size w W) => ended_any N n cap a (pl N ⟨0, x, y⟩ 1000) W hn (pl_lt hN (show (⟨0, x, y⟩ : Pl).o < n from hN.pos) 1000) hN (hM.keep (Nat.le_refl _) hW))
  cases hE : isEnd N (pl N ⟨0, x, y⟩ 1000)
  · have H1 : Hid (endsK N ⟨0, x, y⟩ = 0) := by simp [Hid, endsK, hE]
    have H2 : Hid (endsE N ⟨0, x, y⟩ = 4) := by simp [Hid, endsE, hE]
    have HE0 := Lib.hid hE
    generalize pl N ⟨0, x, y⟩ 1000 = p at *
    generalize dn N ⟨0, x, y⟩ 1000 = d at *
    clear hM hN hE
    go_enter Try.func16, Try.ntmps16
    go_wp2_with fail
    refine (HC.out _).mono ?_
    rintro r w2 ⟨rfl, hb2⟩
    have HB : Hid (Below w.heap.size w w2) := band (one_le _ _) hb2
    have k1 := (hb2.block w.heap.size (by simp)).trans (heap_alloc_new w _)
    have l1 := (Array.getElem?_eq_some_iff.1 k1).1
    have y0 := block_cell k1 0
    have y1 := block_cell k1 1
    simp at y0 y1
    clear hb2 k1
    go_wp2_with fail
    refine (HRun.out _ HB.out).mono ?_
    rintro r w4 ⟨rfl, hb4⟩
    have HB4 : Hid (Below w.heap.size w w4) := HB.out.trans (hb4.mono HB.out.size)
    clear hb4
    go_wp2_with fail
    first
      | (refine (HE.out _ HB4.out).mono ?_)
      | (refine (HE.out _ (HB4.out.alloc HB4.out.size _)).mono ?_)
    rintro r w5 ⟨rfl, hb5⟩
    rw [HE0.out]
    have HB5 : Hid (Below w.heap.size w w5) := by first | exact HB4.out.trans (hb5.mono HB4.out.size) | exact (HB4.out.alloc HB4.out.size _).trans (hb5.mono (by have := HB4.out.size; simp; omega))
    clear hb5
    go_wp2
    go_ret2
    exact ⟨by rw [H1.out, H2.out]; rfl, HB5.out⟩
  · have H1 : Hid (endsK N ⟨0, x, y⟩ = dn N ⟨0, x, y⟩ 1000) := by simp [Hid, endsK, hE]
    have H2 : Hid (endsE N ⟨0, x, y⟩ = 0) := by simp [Hid, endsE, hE]
    have HE0 := Lib.hid hE
    generalize pl N ⟨0, x, y⟩ 1000 = p at *
    generalize dn N ⟨0, x, y⟩ 1000 = d at *
    clear hM hN hE
    go_enter Try.func16, Try.ntmps16
    go_wp2_with fail
    refine (HC.out _).mono ?_
    rintro r w2 ⟨rfl, hb2⟩
    have HB : Hid (Below w.heap.size w w2) := band (one_le _ _) hb2
    have k1 := (hb2.block w.heap.size (by simp)).trans (heap_alloc_new w _)
    have l1 := (Array.getElem?_eq_some_iff.1 k1).1
    have y0 := block_cell k1 0
    have y1 := block_cell k1 1
    simp at y0 y1
    clear hb2 k1
    go_wp2_with fail
    refine (HRun.out _ HB.out).mono ?_
    rintro r w4 ⟨rfl, hb4⟩
    have HB4 : Hid (Below w.heap.size w w4) := HB.out.trans (hb4.mono HB.out.size)
    clear hb4
    go_wp2_with fail
    first
      | (refine (HE.out _ HB4.out).mono ?_)
      | (refine (HE.out _ (HB4.out.alloc HB4.out.size _)).mono ?_)
    rintro r w5 ⟨rfl, hb5⟩
    rw [HE0.out]
    have HB5 : Hid (Below w.heap.size w w5) := by first | exact HB4.out.trans (hb5.mono HB4.out.size) | exact (HB4.out.alloc HB4.out.size _).trans (hb5.mono (by have := HB4.out.size; simp; omega))
    clear hb5
    go_wp2
    go_ret2
    exact ⟨by rw [H1.out, H2.out]; rfl, HB5.out⟩

/-- The machine of 'awake'. -/
def awN (k : Nat) : QN := if k = 0 then ⟨1, 0, 1, 0⟩ else ⟨0, 0, 0, 0⟩
theorem awN_ok : okN 2 awN := by
  refine ⟨by decide, by decide, ?_, ?_, ?_, ?_⟩ <;> intro k hk <;> have : k = 0 ∨ k = 1 := (by omega) <;> rcases this with rfl | rfl <;> decide
theorem awN_end : endsK awN ⟨0, 0, 0⟩ = 1 ∧ endsE awN ⟨0, 0, 0⟩ = 0 := by
  have h : isEnd awN (pl awN ⟨0, 0, 0⟩ 1) = true := by decide
  have h2 := pl_at h (show 1 ≤ 1000 by decide)
  have h3 : dn awN ⟨0, 0, 0⟩ 1 = 1 := by decide
  unfold endsK endsE
  rw [h2.1, h, h2.2, h3]
  exact ⟨rfl, rfl⟩

set_option maxRecDepth 100000 in
theorem awake_any (w : World) :
    Calls Try.prog 14 #[] w fun e w' => e = .returned (.bool true) ∧ Below w.heap.size w w' := by
  have hE := fun W cap a (h : Ords W a 2 (fun k => (awN k).z)) => ends_good awN 2 cap a 0 0 W awN_ok (by decide) (by decide) h
  rw [awN_end.1, awN_end.2] at hE
  have HE := Lib.hid hE
  clear hE
  go_enter Try.func14, Try.ntmps14
  go_wp2_with fail
  refine (HE.out _ _ _ ?_).mono ?_
  · intro k hk
    have := heap_alloc_new w (.cells #[.int .i64 1, .int .i64 0, .int .i64 1, .int .i64 0, .int .i64 0, .int .i64 0, .int .i64 0, .int .i64 0] 57)
    have hk2 : k = 0 ∨ k = 1 := by omega
    rcases hk2 with rfl | rfl
    · exact ⟨_, 0, rfl, block_cell this 0, block_cell this 1, block_cell this 2, block_cell this 3⟩
    · exact ⟨_, 0, rfl, block_cell this 4, block_cell this 5, block_cell this 6, block_cell this 7⟩
  rintro r w2 ⟨rfl, hb2⟩
  have HB : Hid (Below w.heap.size w w2) := band (one_le _ _) hb2
  clear hb2
  go_wp2
  go_ret
  exact ⟨rfl, HB.out⟩

end Go.Proofs.Ytiegingpmcloeaa
