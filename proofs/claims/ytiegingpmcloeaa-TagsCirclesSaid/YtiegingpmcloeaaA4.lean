import Derived.Test.YtiegingpmcloeaaA3
import Derived.Test.YtiegingpmcloeaaMath2
namespace Go.Proofs.Ytiegingpmcloeaa
open Go.RowKit

/-- What lies in the blocks of 'step'. -/
theorem three_at {w w2 : World} {o1 o2 o3 : Obj} (h : Below (((w.alloc o1).alloc o2).alloc o3).heap.size (((w.alloc o1).alloc o2).alloc o3) w2) :
    w2.heap[w.heap.size]? = some o1 ∧ w2.heap[w.heap.size + 1]? = some o2 ∧ w2.heap[w.heap.size + 1 + 1]? = some o3 ∧ Below w.heap.size w w2 := by
  have hs : (((w.alloc o1).alloc o2).alloc o3).heap.size = w.heap.size + 3 := by simp
  have hb0 : Below w.heap.size w (((w.alloc o1).alloc o2).alloc o3) := (two_le w o1 o2).alloc (by simp; omega) _
  refine ⟨?_, ?_, ?_, hb0.trans (h.mono (by omega))⟩
  · rw [h.block _ (by omega), Below.heap_alloc _ _ _ (by simp; omega)]; exact heap_two1 w o1 o2
  · rw [h.block _ (by omega), Below.heap_alloc _ _ _ (by simp)]; exact heap_two2 w o1 o2
  · rw [h.block _ (by omega)]
    have := heap_two2 (w.alloc o1) o2 o3
    simpa using this

set_option maxHeartbeats 1000000 in
set_option maxRecDepth 100000 in
theorem step_none (N : Nat → QN) (n cap : Nat) (a : Option Addr) (p : Pl) (w : World) (hn : n ≤ 1000) (hp : p.o < n) (_hx : p.x ≤ 100000) (_hy : p.y ≤ 100000) (hN : okN n N) (hM : Ords w a n (fun k => (N k).z)) (hb : noB N p = true) :
    Calls Try.prog 40 #[.slice a n cap, plV p] w fun r w' => r = .returned (plV (stp N p)) ∧ Below w.heap.size w w' := by
  have HE := Lib.hid (fun o1 o2 o3 => empty_any N n cap a p (((w.alloc o1).alloc o2).alloc o3) hn hp hN (hM.keep (Nat.le_refl _) ((two_le w o1 o2).alloc (by simp; omega) _)))
  obtain ⟨b, o, rfl, c0, c1, c2, c3⟩ := hM.at hp
  have hlt := World.block_lt_of_cell? _ _ c0
  have hd : (N p.o).d = 2 := (of_decide_eq_true hb).1
  have HS : Hid (stp N p = ⟨(N p.o).e, p.x, p.y⟩) := by unfold Hid stp stpQ; unfold noB at hb; simp [hb]
  have HNB := Lib.hid hb
  have e0 : ((N p.o).d : Int) = 2 := by omega
  rw [e0] at c0
  clear e0
  clear hb hd
  clear hM hN
  go_enter Try.func40, Try.ntmps40
  go_wp2_with fail
  refine (HE.out _ _ _).mono ?_
  rintro r w2 ⟨rfl, hb2⟩
  rw [HNB.out]
  obtain ⟨k1, k2, k3, hb⟩ := three_at hb2
  have HB := Lib.hid hb
  have l1 := (Array.getElem?_eq_some_iff.1 k1).1
  have l2 := (Array.getElem?_eq_some_iff.1 k2).1
  have x0 := block_cell k1 0
  have x1 := block_cell k1 1
  have x2 := block_cell k1 2
  have y0 := block_cell k2 0
  have y1 := block_cell k2 1
  have y2 := block_cell k2 2
  have z0 := block_cell k3 0
  have z1 := block_cell k3 1
  have z2 := block_cell k3 2
  have z3 := block_cell k3 3
  have f0 := block_free k1 0
  have f1 := block_free k1 1
  have f2 := block_free k1 2
  have g0 := block_free k2 0
  have g1 := block_free k2 1
  have g2 := block_free k2 2
  simp at x0 x1 x2 y0 y1 y2 z0 z1 z2 z3
  clear hb2 hb k1 k2 k3 c0 c1 c2 c3 HE
  go_wp2
  refine bodyPost_ret (v := plV (stp N p)) ?_ rfl ⟨rfl, ?_⟩
  · rw [HS.out]
    simp [results, Try.results40, go_sem, plV, y0, y1, y2]
  · repeat' (first | exact HB.out | with_reducible refine Below.setCell ?_ (by simp) _)

set_option maxHeartbeats 1000000 in
set_option maxRecDepth 100000 in
theorem step_put0 (N : Nat → QN) (n cap : Nat) (a : Option Addr) (p : Pl) (w : World) (hn : n ≤ 1000) (hp : p.o < n) (hx : p.x ≤ 100000) (_hy : p.y ≤ 100000) (hN : okN n N) (hM : Ords w a n (fun k => (N k).z)) (hb : noB N p = false) (hd : (N p.o).d = 1) (hj : (N p.o).j = 0) :
    Calls Try.prog 40 #[.slice a n cap, plV p] w fun r w' => r = .returned (plV (stp N p)) ∧ Below w.heap.size w w' := by
  have HE := Lib.hid (fun o1 o2 o3 => empty_any N n cap a p (((w.alloc o1).alloc o2).alloc o3) hn hp hN (hM.keep (Nat.le_refl _) ((two_le w o1 o2).alloc (by simp; omega) _)))
  obtain ⟨b, o, rfl, c0, c1, c2, c3⟩ := hM.at hp
  have hlt := World.block_lt_of_cell? _ _ c0
  have HS : Hid (stp N p = ⟨(N p.o).t, p.x + 1, p.y⟩) := by unfold Hid stp stpQ; unfold noB at hb; simp [hb, hd, hj]
  have HNB := Lib.hid hb
  have e0 : ((N p.o).d : Int) = 1 := by omega
  rw [e0] at c0
  clear e0
  have e1 : ((N p.o).j : Int) = 0 := by omega
  rw [e1] at c1
  clear e1
  clear hb hd hj
  clear hM hN
  go_enter Try.func40, Try.ntmps40
  go_wp2_with fail
  refine (HE.out _ _ _).mono ?_
  rintro r w2 ⟨rfl, hb2⟩
  rw [HNB.out]
  obtain ⟨k1, k2, k3, hb⟩ := three_at hb2
  have HB := Lib.hid hb
  have l1 := (Array.getElem?_eq_some_iff.1 k1).1
  have l2 := (Array.getElem?_eq_some_iff.1 k2).1
  have x0 := block_cell k1 0
  have x1 := block_cell k1 1
  have x2 := block_cell k1 2
  have y0 := block_cell k2 0
  have y1 := block_cell k2 1
  have y2 := block_cell k2 2
  have z0 := block_cell k3 0
  have z1 := block_cell k3 1
  have z2 := block_cell k3 2
  have z3 := block_cell k3 3
  have f0 := block_free k1 0
  have f1 := block_free k1 1
  have f2 := block_free k1 2
  have g0 := block_free k2 0
  have g1 := block_free k2 1
  have g2 := block_free k2 2
  simp at x0 x1 x2 y0 y1 y2 z0 z1 z2 z3
  clear hb2 hb k1 k2 k3 c0 c1 c2 c3 HE
  go_wp2
  refine bodyPost_ret (v := plV (stp N p)) ?_ rfl ⟨rfl, ?_⟩
  · rw [HS.out]
    simp [results, Try.results40, go_sem, plV, y0, y1, y2]
  · repeat' (first | exact HB.out | with_reducible refine Below.setCell ?_ (by simp) _)

set_option maxHeartbeats 1000000 in
set_option maxRecDepth 100000 in
theorem step_put1 (N : Nat → QN) (n cap : Nat) (a : Option Addr) (p : Pl) (w : World) (hn : n ≤ 1000) (hp : p.o < n) (_hx : p.x ≤ 100000) (hy : p.y ≤ 100000) (hN : okN n N) (hM : Ords w a n (fun k => (N k).z)) (hb : noB N p = false) (hd : (N p.o).d = 1) (hj : (N p.o).j = 1) :
    Calls Try.prog 40 #[.slice a n cap, plV p] w fun r w' => r = .returned (plV (stp N p)) ∧ Below w.heap.size w w' := by
  have HE := Lib.hid (fun o1 o2 o3 => empty_any N n cap a p (((w.alloc o1).alloc o2).alloc o3) hn hp hN (hM.keep (Nat.le_refl _) ((two_le w o1 o2).alloc (by simp; omega) _)))
  obtain ⟨b, o, rfl, c0, c1, c2, c3⟩ := hM.at hp
  have hlt := World.block_lt_of_cell? _ _ c0
  have HS : Hid (stp N p = ⟨(N p.o).t, p.x, p.y + 1⟩) := by unfold Hid stp stpQ; unfold noB at hb; simp [hb, hd, hj]
  have HNB := Lib.hid hb
  have e0 : ((N p.o).d : Int) = 1 := by omega
  rw [e0] at c0
  clear e0
  have e1 : ((N p.o).j : Int) = 1 := by omega
  rw [e1] at c1
  clear e1
  clear hb hd hj
  clear hM hN
  go_enter Try.func40, Try.ntmps40
  go_wp2_with fail
  refine (HE.out _ _ _).mono ?_
  rintro r w2 ⟨rfl, hb2⟩
  rw [HNB.out]
  obtain ⟨k1, k2, k3, hb⟩ := three_at hb2
  have HB := Lib.hid hb
  have l1 := (Array.getElem?_eq_some_iff.1 k1).1
  have l2 := (Array.getElem?_eq_some_iff.1 k2).1
  have x0 := block_cell k1 0
  have x1 := block_cell k1 1
  have x2 := block_cell k1 2
  have y0 := block_cell k2 0
  have y1 := block_cell k2 1
  have y2 := block_cell k2 2
  have z0 := block_cell k3 0
  have z1 := block_cell k3 1
  have z2 := block_cell k3 2
  have z3 := block_cell k3 3
  have f0 := block_free k1 0
  have f1 := block_free k1 1
  have f2 := block_free k1 2
  have g0 := block_free k2 0
  have g1 := block_free k2 1
  have g2 := block_free k2 2
  simp at x0 x1 x2 y0 y1 y2 z0 z1 z2 z3
  clear hb2 hb k1 k2 k3 c0 c1 c2 c3 HE
  go_wp2
  refine bodyPost_ret (v := plV (stp N p)) ?_ rfl ⟨rfl, ?_⟩
  · rw [HS.out]
    simp [results, Try.results40, go_sem, plV, y0, y1, y2]
  · repeat' (first | exact HB.out | with_reducible refine Below.setCell ?_ (by simp) _)

set_option maxHeartbeats 1000000 in
set_option maxRecDepth 100000 in
theorem step_take0 (N : Nat → QN) (n cap : Nat) (a : Option Addr) (p : Pl) (w : World) (hn : n ≤ 1000) (hp : p.o < n) (hx : p.x ≤ 100000) (_hy : p.y ≤ 100000) (hN : okN n N) (hM : Ords w a n (fun k => (N k).z)) (hb : noB N p = false) (hd : (N p.o).d = 2) (hj : (N p.o).j = 0) :
    Calls Try.prog 40 #[.slice a n cap, plV p] w fun r w' => r = .returned (plV (stp N p)) ∧ Below w.heap.size w w' := by
  have HE := Lib.hid (fun o1 o2 o3 => empty_any N n cap a p (((w.alloc o1).alloc o2).alloc o3) hn hp hN (hM.keep (Nat.le_refl _) ((two_le w o1 o2).alloc (by simp; omega) _)))
  obtain ⟨b, o, rfl, c0, c1, c2, c3⟩ := hM.at hp
  have hlt := World.block_lt_of_cell? _ _ c0
  have hz : 1 ≤ p.x := by have := of_decide_eq_false hb; simp [hd, Pl.jar, hj] at this; omega
  have HS : Hid (stp N p = ⟨(N p.o).t, p.x - 1, p.y⟩) := by unfold Hid stp stpQ; unfold noB at hb; simp [hb, hd, hj]
  have HNB := Lib.hid hb
  have e0 : ((N p.o).d : Int) = 2 := by omega
  rw [e0] at c0
  clear e0
  have e1 : ((N p.o).j : Int) = 0 := by omega
  rw [e1] at c1
  clear e1
  clear hb hd hj
  clear hM hN
  go_enter Try.func40, Try.ntmps40
  go_wp2_with fail
  refine (HE.out _ _ _).mono ?_
  rintro r w2 ⟨rfl, hb2⟩
  rw [HNB.out]
  obtain ⟨k1, k2, k3, hb⟩ := three_at hb2
  have HB := Lib.hid hb
  have l1 := (Array.getElem?_eq_some_iff.1 k1).1
  have l2 := (Array.getElem?_eq_some_iff.1 k2).1
  have x0 := block_cell k1 0
  have x1 := block_cell k1 1
  have x2 := block_cell k1 2
  have y0 := block_cell k2 0
  have y1 := block_cell k2 1
  have y2 := block_cell k2 2
  have z0 := block_cell k3 0
  have z1 := block_cell k3 1
  have z2 := block_cell k3 2
  have z3 := block_cell k3 3
  have f0 := block_free k1 0
  have f1 := block_free k1 1
  have f2 := block_free k1 2
  have g0 := block_free k2 0
  have g1 := block_free k2 1
  have g2 := block_free k2 2
  simp at x0 x1 x2 y0 y1 y2 z0 z1 z2 z3
  clear hb2 hb k1 k2 k3 c0 c1 c2 c3 HE
  go_wp2
  refine bodyPost_ret (v := plV (stp N p)) ?_ rfl ⟨rfl, ?_⟩
  · rw [HS.out]
    simp [results, Try.results40, go_sem, plV, y0, y1, y2]
    omega
  · repeat' (first | exact HB.out | with_reducible refine Below.setCell ?_ (by simp) _)

set_option maxHeartbeats 1000000 in
set_option maxRecDepth 100000 in
theorem step_take1 (N : Nat → QN) (n cap : Nat) (a : Option Addr) (p : Pl) (w : World) (hn : n ≤ 1000) (hp : p.o < n) (_hx : p.x ≤ 100000) (hy : p.y ≤ 100000) (hN : okN n N) (hM : Ords w a n (fun k => (N k).z)) (hb : noB N p = false) (hd : (N p.o).d = 2) (hj : (N p.o).j = 1) :
    Calls Try.prog 40 #[.slice a n cap, plV p] w fun r w' => r = .returned (plV (stp N p)) ∧ Below w.heap.size w w' := by
  have HE := Lib.hid (fun o1 o2 o3 => empty_any N n cap a p (((w.alloc o1).alloc o2).alloc o3) hn hp hN (hM.keep (Nat.le_refl _) ((two_le w o1 o2).alloc (by simp; omega) _)))
  obtain ⟨b, o, rfl, c0, c1, c2, c3⟩ := hM.at hp
  have hlt := World.block_lt_of_cell? _ _ c0
  have hz : 1 ≤ p.y := by have := of_decide_eq_false hb; simp [hd, Pl.jar, hj] at this; omega
  have HS : Hid (stp N p = ⟨(N p.o).t, p.x, p.y - 1⟩) := by unfold Hid stp stpQ; unfold noB at hb; simp [hb, hd, hj]
  have HNB := Lib.hid hb
  have e0 : ((N p.o).d : Int) = 2 := by omega
  rw [e0] at c0
  clear e0
  have e1 : ((N p.o).j : Int) = 1 := by omega
  rw [e1] at c1
  clear e1
  clear hb hd hj
  clear hM hN
  go_enter Try.func40, Try.ntmps40
  go_wp2_with fail
  refine (HE.out _ _ _).mono ?_
  rintro r w2 ⟨rfl, hb2⟩
  rw [HNB.out]
  obtain ⟨k1, k2, k3, hb⟩ := three_at hb2
  have HB := Lib.hid hb
  have l1 := (Array.getElem?_eq_some_iff.1 k1).1
  have l2 := (Array.getElem?_eq_some_iff.1 k2).1
  have x0 := block_cell k1 0
  have x1 := block_cell k1 1
  have x2 := block_cell k1 2
  have y0 := block_cell k2 0
  have y1 := block_cell k2 1
  have y2 := block_cell k2 2
  have z0 := block_cell k3 0
  have z1 := block_cell k3 1
  have z2 := block_cell k3 2
  have z3 := block_cell k3 3
  have f0 := block_free k1 0
  have f1 := block_free k1 1
  have f2 := block_free k1 2
  have g0 := block_free k2 0
  have g1 := block_free k2 1
  have g2 := block_free k2 2
  simp at x0 x1 x2 y0 y1 y2 z0 z1 z2 z3
  clear hb2 hb k1 k2 k3 c0 c1 c2 c3 HE
  go_wp2
  refine bodyPost_ret (v := plV (stp N p)) ?_ rfl ⟨rfl, ?_⟩
  · rw [HS.out]
    simp [results, Try.results40, go_sem, plV, y0, y1, y2]
    omega
  · repeat' (first | exact HB.out | with_reducible refine Below.setCell ?_ (by simp) _)

theorem step_any (N : Nat → QN) (n cap : Nat) (a : Option Addr) (p : Pl) (w : World) (hn : n ≤ 1000) (hp : p.o < n) (hx : p.x ≤ 100000) (hy : p.y ≤ 100000) (hN : okN n N) (he : isEnd N p = false) (hM : Ords w a n (fun k => (N k).z)) :
    Calls Try.prog 40 #[.slice a n cap, plV p] w fun r w' => r = .returned (plV (stp N p)) ∧ Below w.heap.size w w' := by
  have hd := not_end hN hp he
  have hj : (N p.o).j = 0 ∨ (N p.o).j = 1 := by have := hN.j p.o hp; omega
  cases hb : noB N p
  · rcases hd with hd | hd <;> rcases hj with hj | hj
    · exact step_put0 N n cap a p w hn hp hx hy hN hM hb hd hj
    · exact step_put1 N n cap a p w hn hp hx hy hN hM hb hd hj
    · exact step_take0 N n cap a p w hn hp hx hy hN hM hb hd hj
    · exact step_take1 N n cap a p w hn hp hx hy hN hM hb hd hj
  · exact step_none N n cap a p w hn hp hx hy hN hM hb

end Go.Proofs.Ytiegingpmcloeaa
