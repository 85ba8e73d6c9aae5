import Derived.Test.YtiegingpmcloeaaB1
import Derived.Test.YtiegingpmcloeaaL0
namespace Go.Proofs.Ytiegingpmcloeaa
open Go.RowKit

theorem Try.infoRPl : (Try.prog.info? 70).map (fun i => (i.zero, i.size, i.bytes)) = some (some (.agg #[.int .i64 0, .int .i64 0, .int .i64 0, .int .i64 0]), 4, 32) := by kernel_rfl
/-- The jar that is found empty at a place, -1: none. -/
def found (N : Nat → QN) (p : Pl) : Int := if noB N p = true then ((N p.o).j : Int) else -1
def rpcell (N : Nat → QN) (p : Pl) : List Value := [.int .i64 p.o, .int .i64 p.x, .int .i64 p.y, .int .i64 (found N p)]
theorem rpcell_len (N : Nat → QN) (p : Pl) : (rpcell N p).length = 4 := rfl
theorem four_ok (a b c d : Int) : ∀ u ∈ [Value.int .i64 a, .int .i64 b, .int .i64 c, .int .i64 d], u.oneCell' = true := by
  intro u hu
  simp at hu
  rcases hu with rfl | rfl | rfl | rfl <;> rfl
theorem three_new (w : World) (o1 o2 : Obj) (l : List Value) (T : TypeId) : ∀ j u, l[j]? = some u → (((w.alloc o1).alloc o2).alloc (.cells l.toArray T)).cell? ((⟨w.heap.size + 1 + 1, 0, none⟩ : Addr).add j) = some u := by
  have := new_cells ((w.alloc o1).alloc o2) l T
  simpa using this
theorem OwnC.setCell {w : World} {base : Nat} {e : TypeId} {s : Nat} {v : Value} {m : Nat} {c : Nat → List Value} (h : OwnC w base e s v m c) {p : Addr} (hp : p.block < base) (u : Value) : OwnC (w.setCell p u) base e s v m c := by
  refine ⟨h.1, ?_⟩
  rcases h.2 with hn | ⟨g, cap, cur, rfl, hbg, hg, r⟩
  · exact Or.inl hn
  · exact Or.inr ⟨g, cap, cur, rfl, hbg, (Below.heap_setCell _ _ _ _ (by omega)).trans hg, r⟩
theorem At2.under {w w' : World} {b B : Nat} {v0 v1 : Value} (h : At2 w b v0 v1) (hb : Below B w w') (hB : b < B) : At2 w' b v0 v1 := by
  have e : w'.heap[b]? = w.heap[b]? := hb.block b hB
  have k : ∀ j, w'.cell? ⟨b, j, none⟩ = w.cell? ⟨b, j, none⟩ := fun j => World.cell?_of_block e
  have f : ∀ j, w'.frozen? ⟨b, j, none⟩ = w.frozen? ⟨b, j, none⟩ := fun j => by unfold World.frozen?; simp only [e]
  exact ⟨by rw [k]; exact h.c0, by rw [k]; exact h.c1, by rw [f]; exact h.f0, by rw [f]; exact h.f1⟩
theorem below_drewN {B : Nat} {a w : World} (h : Below B a w) (n : Nat) : Below B a (w.drewN n) := ⟨h.os, h.tape, h.output, h.size, h.block⟩

theorem three_le (w : World) (o1 o2 o3 : Obj) : Below w.heap.size w (((w.alloc o1).alloc o2).alloc o3) := (two_le w o1 o2).alloc (by simp; omega) _
theorem three_first (w : World) (o1 o2 o3 : Obj) : (((w.alloc o1).alloc o2).alloc o3).heap[w.heap.size]? = some o1 := by
  rw [Below.heap_alloc _ _ _ (by simp; omega)]; exact heap_two1 w o1 o2
theorem three_second (w : World) (o1 o2 o3 : Obj) : (((w.alloc o1).alloc o2).alloc o3).heap[w.heap.size + 1]? = some o2 := by
  rw [Below.heap_alloc _ _ _ (by simp)]; exact heap_two2 w o1 o2

/-- What holds ahead of the round k. -/
structure RInv (N : Nat → QN) (s : Pl) (m : Nat) (w wr : World) (v : Value) (k : Nat) : Prop where
  le : k ≤ m
  bel : Below w.heap.size w wr
  at2 : At2 wr w.heap.size (.int .i64 (pl N s k).x) (.int .i64 (pl N s k).y)
  own : OwnC wr (w.heap.size + 1) 70 4 v k (fun i => rpcell N (pl N s i))
  go : ∀ i, i < k → isEnd N (pl N s i) = false
/-- What Places hands back. -/
def PlOut (N : Nat → QN) (s : Pl) (m : Nat) (w : World) (r : Ending) (w' : World) : Prop :=
  ∃ v, r = .returned (.tuple #[v, .bool (isEnd N (pl N s m))]) ∧ OwnC w' (w.heap.size + 1) 70 4 v (dn N s m + 1) (fun i => rpcell N (pl N s i)) ∧ Below w.heap.size w w'
theorem RInv.next {N : Nat → QN} {s : Pl} {m : Nat} {w wr w5 : World} {v v' : Value} {k : Nat} (h : RInv N s m w wr v k) (hk : k < m) (he : isEnd N (pl N s k) = false) (hb : Below (w.heap.size + 1) wr w5) (ho : OwnC w5 (w.heap.size + 1) 70 4 v' (k + 1) (fun i => rpcell N (pl N s i))) (j : Nat) (u : Value)
    (hc : At2 (w5.setCell ⟨w.heap.size, j, none⟩ u) w.heap.size (.int .i64 (pl N s (k + 1)).x) (.int .i64 (pl N s (k + 1)).y)) : RInv N s m w (w5.setCell ⟨w.heap.size, j, none⟩ u) v' (k + 1) :=
  ⟨hk, (h.bel.trans (hb.mono (Nat.le_succ _))).setCell (Nat.le_refl _) _, hc, ho.setCell (Nat.lt_succ_self _) _, fun i hi => by
    by_cases e : i = k
    · subst e; exact he
    · exact h.go i (by omega)⟩
theorem RInv.next0 {N : Nat → QN} {s : Pl} {m : Nat} {w wr w5 : World} {v v' : Value} {k : Nat} (h : RInv N s m w wr v k) (hk : k < m) (he : isEnd N (pl N s k) = false) (hb : Below (w.heap.size + 1) wr w5) (ho : OwnC w5 (w.heap.size + 1) 70 4 v' (k + 1) (fun i => rpcell N (pl N s i)))
    (hc : At2 w5 w.heap.size (.int .i64 (pl N s (k + 1)).x) (.int .i64 (pl N s (k + 1)).y)) : RInv N s m w w5 v' (k + 1) :=
  ⟨hk, h.bel.trans (hb.mono (Nat.le_succ _)), hc, ho, fun i hi => by
    by_cases e : i = k
    · subst e; exact he
    · exact h.go i (by omega)⟩
theorem RInv.out {N : Nat → QN} {s : Pl} {m : Nat} {w wr w5 : World} {v v' : Value} {k : Nat} (h : RInv N s m w wr v k) (he : isEnd N (pl N s k) = true ∨ k = m) (hb : Below (w.heap.size + 1) wr w5) (ho : OwnC w5 (w.heap.size + 1) 70 4 v' (k + 1) (fun i => rpcell N (pl N s i))) (q : Nat) (r : Bool) (hr : isEnd N (pl N s k) = r) :
    PlOut N s m w (.returned (.tuple #[v', .bool r])) (w5.drewN q) := by
  have e1 : isEnd N (pl N s m) = r ∧ dn N s m = k := by
    rcases he with he | rfl
    · have := pl_at he h.le
      rw [this.1, this.2, dn_go k h.go]; exact ⟨hr, rfl⟩
    · exact ⟨hr, dn_go k h.go⟩
  refine ⟨v', by rw [e1.1], ?_, below_drewN (h.bel.trans (hb.mono (Nat.le_succ _))) q⟩
  rw [e1.2]
  exact ho.keep (below_drewN (Below.refl _ _) q)

set_option maxHeartbeats 16000000 in
set_option maxRecDepth 100000 in
theorem rplaces_any (N : Nat → QN) (n cap : Nat) (a : Option Addr) (x y m : Nat) (w : World) (hN : okN n N) (hx : x ≤ 100) (hy : y ≤ 100) (hm : m ≤ 1000) (hM : Ords w a n (fun k => (N k).z)) :
    Calls Try.prog 33 #[.slice a n cap, .agg #[.int .i64 x, .int .i64 y], .int .i64 m] w fun r w' => PlOut N ⟨0, x, y⟩ m w r w' := by
  have HM := Lib.hid hM
  have HN := Lib.hid hN
  have HP := Lib.hid (fun k => pl_lt hN (show (⟨0, x, y⟩ : Pl).o < n from hN.pos) k)
  have HL := Lib.hid (fun k => pl_le (N := N) (s := ⟨0, x, y⟩) k)
  have I0 : Hid (RInv N ⟨0, x, y⟩ m w (w.alloc (.cells #[.int .i64 x, .int .i64 y] 23)) (.slice none 0 0) 0) :=
    ⟨Nat.zero_le _, one_le _ _, At2.of (heap_alloc_new w _), OwnC.nil _ _ _ _ _, fun i hi => absurd hi (Nat.not_lt_zero _)⟩
  have hn : n ≤ 1000 := by have := hN.few; omega
  generalize hs : (⟨0, x, y⟩ : Pl) = s at *
  have hs0 : Hid (s.o = 0) := by rw [← hs]; rfl
  have hsx : Hid (s.x = x) := by rw [← hs]; rfl
  have hsy : Hid (s.y = y) := by rw [← hs]; rfl
  clear hs
  clear hM hN
  go_enter Try.func33, Try.ntmps33
  go_wp2
  go_loopw [8, 9, 10] (fun t8 v t10 wr => ∃ k : Nat, t8 = .int .i64 (pl N s k).o ∧ t10 = .int .i64 k ∧ RInv N s m w wr v k) (fun _ _ t _ => m - (intOf t).toNat)
  case atStart => exact ⟨0, by simp only [pl]; rw [hs0.out]; rfl, rfl, I0.out⟩
  case round =>
    obtain ⟨k, rfl, rfl, hI⟩ := hrel
    have HI := Lib.hid hI
    have hk := hI.le
    have hB := hI.bel
    have hsz1 : w.heap.size + 1 ≤ wr.heap.size := hI.at2.lt
    have hl0 := hI.at2.lt
    obtain ⟨a0, a1, f0, f1⟩ := hI.at2
    have ho := HP.out k
    have hlx := (HL.out k).1
    have hly := (HL.out k).2
    rw [hsx.out] at hlx
    rw [hsy.out] at hly
    obtain ⟨b, o, rfl, c0, c1, c2, c3⟩ := (HM.out.keep (Nat.le_refl _) hB).at ho
    have hbl := World.block_lt_of_cell? _ _ c0
    have hj1 := HN.out.j _ ho
    have hu := HN.out.u _ ho
    clear hI hB
    cases hE : isEnd N (pl N s k)
    · have hd' := not_end HN.out ho hE
      have hj' : (N (pl N s k).o).j = 0 ∨ (N (pl N s k).o).j = 1 := by omega
      clear hu
      by_cases hkm : k = m
      · subst hkm
        rcases hd' with hd | hd
        · rcases hj' with hj | hj
          · have e0 : ((N (pl N s k).o).d : Int) = 1 := by omega
            rw [e0] at c0
            have e1 : ((N (pl N s k).o).j : Int) = 0 := by omega
            rw [e1] at c1
            clear e1
            clear e0
            have hnb : noB N (pl N s k) = false := decide_eq_false (fun h => by have h2 := h.1; omega)
            have HC : Hid (rpcell N (pl N s k) = [.int .i64 ((pl N s k).o : Int), .int .i64 ((pl N s k).x : Int), .int .i64 ((pl N s k).y : Int), .int .i64 (-1)]) := by simp [Hid, rpcell, found, hnb]
            have HE := Lib.hid hE
            clear hnb hE hd hj
            obtain ⟨i0, hi, hz0, hz1', hz2⟩ := info_parts Try.infoRPl
            go_wp2_with (at_builtin; refine wpList_append_own _ rfl _ _ 66 rfl (w.heap.size + 1) 70 i0 (.agg #[.int .i64 0, .int .i64 0, .int .i64 0, .int .i64 0]) 4 32 Try.underlying66 hi hz0 hz1' hz2 rfl (by decide) _ _ _ rfl ((HI.out.own.keep (three_le _ _ _ _)) : World.ownsRow _ _ _ _ _ _ _) ⟨wr.heap.size + 1 + 1, 0, none⟩ 1 1 [.int .i64 ((pl N s k).o : Int), .int .i64 ((pl N s k).x : Int), .int .i64 ((pl N s k).y : Int), .int .i64 (-1)] rfl rfl (three_new _ _ _ _ _) (four_ok _ _ _ _) (by unfold maxLen; omega) (by omega) (by simp; omega) ?_)
            intro v' w5 hown hgrow _
            have HO5 : Hid (OwnC w5 (w.heap.size + 1) 70 4 v' (k + 1) (fun i => rpcell N (pl N s i))) := OwnC.snoc HC.out hown
            have HB5 : Hid (Below (w.heap.size + 1) wr w5) := ((three_le wr _ _ _).mono hsz1).grown hgrow (by simp <;> omega) (fun k hk => (World.ownsRow.lt HI.out.own k hk).1)
            have hA5 := HI.out.at2.under HB5.out (Nat.lt_succ_self _)
            have HA5 := Lib.hid hA5
            have hl5 := hA5.lt
            obtain ⟨u0, u1, v0, v1⟩ := hA5
            have hl6 := hgrow.size
            simp at hl6
            have ko := (hgrow.block wr.heap.size (by simp <;> omega) (fun e => by have := (World.ownsRow.lt HI.out.own _ e.symm).2; omega)).trans (three_first wr _ _ _)
            have kp := (hgrow.block (wr.heap.size + 1) (by simp <;> omega) (fun e => by have := (World.ownsRow.lt HI.out.own _ e.symm).2; omega)).trans (three_second wr _ _ _)
            have o0 := block_cell ko 0
            have o1 := block_cell ko 1
            have o2 := block_cell ko 2
            have o3 := block_cell ko 3
            have p2 := block_cell kp 3
            simp at o0 o1 o2 o3 p2
            clear hown hgrow ko kp c0 c1 c2 c3 a0 a1
            go_wp2
            go_quiet (fail)
            go_wp2
            go_ret2
            exact HI.out.out (Or.inr rfl) HB5.out HO5.out _ false HE.out
          · have e0 : ((N (pl N s k).o).d : Int) = 1 := by omega
            rw [e0] at c0
            have e1 : ((N (pl N s k).o).j : Int) = 1 := by omega
            rw [e1] at c1
            clear e1
            clear e0
            have hnb : noB N (pl N s k) = false := decide_eq_false (fun h => by have h2 := h.1; omega)
            have HC : Hid (rpcell N (pl N s k) = [.int .i64 ((pl N s k).o : Int), .int .i64 ((pl N s k).x : Int), .int .i64 ((pl N s k).y : Int), .int .i64 (-1)]) := by simp [Hid, rpcell, found, hnb]
            have HE := Lib.hid hE
            clear hnb hE hd hj
            obtain ⟨i0, hi, hz0, hz1', hz2⟩ := info_parts Try.infoRPl
            go_wp2_with (at_builtin; refine wpList_append_own _ rfl _ _ 66 rfl (w.heap.size + 1) 70 i0 (.agg #[.int .i64 0, .int .i64 0, .int .i64 0, .int .i64 0]) 4 32 Try.underlying66 hi hz0 hz1' hz2 rfl (by decide) _ _ _ rfl ((HI.out.own.keep (three_le _ _ _ _)) : World.ownsRow _ _ _ _ _ _ _) ⟨wr.heap.size + 1 + 1, 0, none⟩ 1 1 [.int .i64 ((pl N s k).o : Int), .int .i64 ((pl N s k).x : Int), .int .i64 ((pl N s k).y : Int), .int .i64 (-1)] rfl rfl (three_new _ _ _ _ _) (four_ok _ _ _ _) (by unfold maxLen; omega) (by omega) (by simp; omega) ?_)
            intro v' w5 hown hgrow _
            have HO5 : Hid (OwnC w5 (w.heap.size + 1) 70 4 v' (k + 1) (fun i => rpcell N (pl N s i))) := OwnC.snoc HC.out hown
            have HB5 : Hid (Below (w.heap.size + 1) wr w5) := ((three_le wr _ _ _).mono hsz1).grown hgrow (by simp <;> omega) (fun k hk => (World.ownsRow.lt HI.out.own k hk).1)
            have hA5 := HI.out.at2.under HB5.out (Nat.lt_succ_self _)
            have HA5 := Lib.hid hA5
            have hl5 := hA5.lt
            obtain ⟨u0, u1, v0, v1⟩ := hA5
            have hl6 := hgrow.size
            simp at hl6
            have ko := (hgrow.block wr.heap.size (by simp <;> omega) (fun e => by have := (World.ownsRow.lt HI.out.own _ e.symm).2; omega)).trans (three_first wr _ _ _)
            have kp := (hgrow.block (wr.heap.size + 1) (by simp <;> omega) (fun e => by have := (World.ownsRow.lt HI.out.own _ e.symm).2; omega)).trans (three_second wr _ _ _)
            have o0 := block_cell ko 0
            have o1 := block_cell ko 1
            have o2 := block_cell ko 2
            have o3 := block_cell ko 3
            have p2 := block_cell kp 3
            simp at o0 o1 o2 o3 p2
            clear hown hgrow ko kp c0 c1 c2 c3 a0 a1
            go_wp2
            go_quiet (fail)
            go_wp2
            go_ret2
            exact HI.out.out (Or.inr rfl) HB5.out HO5.out _ false HE.out
        · rcases hj' with hj | hj
          · by_cases hz : (pl N s k).x = 0
            · have e0 : ((N (pl N s k).o).d : Int) = 2 := by omega
              rw [e0] at c0
              have e1 : ((N (pl N s k).o).j : Int) = 0 := by omega
              rw [e1] at c1
              clear e1
              clear e0
              have hnb : noB N (pl N s k) = true := decide_eq_true ⟨hd, by unfold Pl.jar; simp [hj, hz]⟩
              have HC : Hid (rpcell N (pl N s k) = [.int .i64 ((pl N s k).o : Int), .int .i64 0, .int .i64 ((pl N s k).y : Int), .int .i64 0]) := by simp [Hid, rpcell, found, hnb, hj, hz]
              have hz' : ((pl N s k).x : Int) = 0 := by omega
              rw [hz'] at a0
              clear hz'
              have HE := Lib.hid hE
              clear hnb hE hd hj hz
              obtain ⟨i0, hi, hz0, hz1', hz2⟩ := info_parts Try.infoRPl
              go_wp2_with (at_builtin; refine wpList_append_own _ rfl _ _ 66 rfl (w.heap.size + 1) 70 i0 (.agg #[.int .i64 0, .int .i64 0, .int .i64 0, .int .i64 0]) 4 32 Try.underlying66 hi hz0 hz1' hz2 rfl (by decide) _ _ _ rfl ((HI.out.own.keep (three_le _ _ _ _)) : World.ownsRow _ _ _ _ _ _ _) ⟨wr.heap.size + 1 + 1, 0, none⟩ 1 1 [.int .i64 ((pl N s k).o : Int), .int .i64 0, .int .i64 ((pl N s k).y : Int), .int .i64 0] rfl rfl (three_new _ _ _ _ _) (four_ok _ _ _ _) (by unfold maxLen; omega) (by omega) (by simp; omega) ?_)
              intro v' w5 hown hgrow _
              have HO5 : Hid (OwnC w5 (w.heap.size + 1) 70 4 v' (k + 1) (fun i => rpcell N (pl N s i))) := OwnC.snoc HC.out hown
              have HB5 : Hid (Below (w.heap.size + 1) wr w5) := ((three_le wr _ _ _).mono hsz1).grown hgrow (by simp <;> omega) (fun k hk => (World.ownsRow.lt HI.out.own k hk).1)
              have hA5 := HI.out.at2.under HB5.out (Nat.lt_succ_self _)
              have HA5 := Lib.hid hA5
              have hl5 := hA5.lt
              obtain ⟨u0, u1, v0, v1⟩ := hA5
              have hl6 := hgrow.size
              simp at hl6
              have ko := (hgrow.block wr.heap.size (by simp <;> omega) (fun e => by have := (World.ownsRow.lt HI.out.own _ e.symm).2; omega)).trans (three_first wr _ _ _)
              have kp := (hgrow.block (wr.heap.size + 1) (by simp <;> omega) (fun e => by have := (World.ownsRow.lt HI.out.own _ e.symm).2; omega)).trans (three_second wr _ _ _)
              have o0 := block_cell ko 0
              have o1 := block_cell ko 1
              have o2 := block_cell ko 2
              have o3 := block_cell ko 3
              have p2 := block_cell kp 3
              simp at o0 o1 o2 o3 p2
              clear hown hgrow ko kp c0 c1 c2 c3 a0 a1
              go_wp2
              go_quiet (fail)
              go_wp2
              go_ret2
              exact HI.out.out (Or.inr rfl) HB5.out HO5.out _ false HE.out
            · have e0 : ((N (pl N s k).o).d : Int) = 2 := by omega
              rw [e0] at c0
              have e1 : ((N (pl N s k).o).j : Int) = 0 := by omega
              rw [e1] at c1
              clear e1
              clear e0
              have hnb : noB N (pl N s k) = false := decide_eq_false (fun h => hz (by have h2 := h.2; unfold Pl.jar at h2; simpa [hj] using h2))
              have HC : Hid (rpcell N (pl N s k) = [.int .i64 ((pl N s k).o : Int), .int .i64 ((pl N s k).x : Int), .int .i64 ((pl N s k).y : Int), .int .i64 (-1)]) := by simp [Hid, rpcell, found, hnb]
              have K1 : (((pl N s k).x : Int) == 0) = false := by simpa using hz
              have hz1 : 1 ≤ (pl N s k).x := by omega
              have HE := Lib.hid hE
              clear hnb hE hd hj hz
              obtain ⟨i0, hi, hz0, hz1', hz2⟩ := info_parts Try.infoRPl
              go_wp2_with (at_builtin; refine wpList_append_own _ rfl _ _ 66 rfl (w.heap.size + 1) 70 i0 (.agg #[.int .i64 0, .int .i64 0, .int .i64 0, .int .i64 0]) 4 32 Try.underlying66 hi hz0 hz1' hz2 rfl (by decide) _ _ _ rfl ((HI.out.own.keep (three_le _ _ _ _)) : World.ownsRow _ _ _ _ _ _ _) ⟨wr.heap.size + 1 + 1, 0, none⟩ 1 1 [.int .i64 ((pl N s k).o : Int), .int .i64 ((pl N s k).x : Int), .int .i64 ((pl N s k).y : Int), .int .i64 (-1)] rfl rfl (three_new _ _ _ _ _) (four_ok _ _ _ _) (by unfold maxLen; omega) (by omega) (by simp; omega) ?_)
              intro v' w5 hown hgrow _
              have HO5 : Hid (OwnC w5 (w.heap.size + 1) 70 4 v' (k + 1) (fun i => rpcell N (pl N s i))) := OwnC.snoc HC.out hown
              have HB5 : Hid (Below (w.heap.size + 1) wr w5) := ((three_le wr _ _ _).mono hsz1).grown hgrow (by simp <;> omega) (fun k hk => (World.ownsRow.lt HI.out.own k hk).1)
              have hA5 := HI.out.at2.under HB5.out (Nat.lt_succ_self _)
              have HA5 := Lib.hid hA5
              have hl5 := hA5.lt
              obtain ⟨u0, u1, v0, v1⟩ := hA5
              have hl6 := hgrow.size
              simp at hl6
              have ko := (hgrow.block wr.heap.size (by simp <;> omega) (fun e => by have := (World.ownsRow.lt HI.out.own _ e.symm).2; omega)).trans (three_first wr _ _ _)
              have kp := (hgrow.block (wr.heap.size + 1) (by simp <;> omega) (fun e => by have := (World.ownsRow.lt HI.out.own _ e.symm).2; omega)).trans (three_second wr _ _ _)
              have o0 := block_cell ko 0
              have o1 := block_cell ko 1
              have o2 := block_cell ko 2
              have o3 := block_cell ko 3
              have p2 := block_cell kp 3
              simp at o0 o1 o2 o3 p2
              clear hown hgrow ko kp c0 c1 c2 c3 a0 a1
              go_wp2
              go_quiet (fail)
              go_wp2
              go_ret2
              exact HI.out.out (Or.inr rfl) HB5.out HO5.out _ false HE.out
          · by_cases hz : (pl N s k).y = 0
            · have e0 : ((N (pl N s k).o).d : Int) = 2 := by omega
              rw [e0] at c0
              have e1 : ((N (pl N s k).o).j : Int) = 1 := by omega
              rw [e1] at c1
              clear e1
              clear e0
              have hnb : noB N (pl N s k) = true := decide_eq_true ⟨hd, by unfold Pl.jar; simp [hj, hz]⟩
              have HC : Hid (rpcell N (pl N s k) = [.int .i64 ((pl N s k).o : Int), .int .i64 ((pl N s k).x : Int), .int .i64 0, .int .i64 1]) := by simp [Hid, rpcell, found, hnb, hj, hz]
              have hz' : ((pl N s k).y : Int) = 0 := by omega
              rw [hz'] at a1
              clear hz'
              have HE := Lib.hid hE
              clear hnb hE hd hj hz
              obtain ⟨i0, hi, hz0, hz1', hz2⟩ := info_parts Try.infoRPl
              go_wp2_with (at_builtin; refine wpList_append_own _ rfl _ _ 66 rfl (w.heap.size + 1) 70 i0 (.agg #[.int .i64 0, .int .i64 0, .int .i64 0, .int .i64 0]) 4 32 Try.underlying66 hi hz0 hz1' hz2 rfl (by decide) _ _ _ rfl ((HI.out.own.keep (three_le _ _ _ _)) : World.ownsRow _ _ _ _ _ _ _) ⟨wr.heap.size + 1 + 1, 0, none⟩ 1 1 [.int .i64 ((pl N s k).o : Int), .int .i64 ((pl N s k).x : Int), .int .i64 0, .int .i64 1] rfl rfl (three_new _ _ _ _ _) (four_ok _ _ _ _) (by unfold maxLen; omega) (by omega) (by simp; omega) ?_)
              intro v' w5 hown hgrow _
              have HO5 : Hid (OwnC w5 (w.heap.size + 1) 70 4 v' (k + 1) (fun i => rpcell N (pl N s i))) := OwnC.snoc HC.out hown
              have HB5 : Hid (Below (w.heap.size + 1) wr w5) := ((three_le wr _ _ _).mono hsz1).grown hgrow (by simp <;> omega) (fun k hk => (World.ownsRow.lt HI.out.own k hk).1)
              have hA5 := HI.out.at2.under HB5.out (Nat.lt_succ_self _)
              have HA5 := Lib.hid hA5
              have hl5 := hA5.lt
              obtain ⟨u0, u1, v0, v1⟩ := hA5
              have hl6 := hgrow.size
              simp at hl6
              have ko := (hgrow.block wr.heap.size (by simp <;> omega) (fun e => by have := (World.ownsRow.lt HI.out.own _ e.symm).2; omega)).trans (three_first wr _ _ _)
              have kp := (hgrow.block (wr.heap.size + 1) (by simp <;> omega) (fun e => by have := (World.ownsRow.lt HI.out.own _ e.symm).2; omega)).trans (three_second wr _ _ _)
              have o0 := block_cell ko 0
              have o1 := block_cell ko 1
              have o2 := block_cell ko 2
              have o3 := block_cell ko 3
              have p2 := block_cell kp 3
              simp at o0 o1 o2 o3 p2
              clear hown hgrow ko kp c0 c1 c2 c3 a0 a1
              go_wp2
              go_quiet (fail)
              go_wp2
              go_ret2
              exact HI.out.out (Or.inr rfl) HB5.out HO5.out _ false HE.out
            · have e0 : ((N (pl N s k).o).d : Int) = 2 := by omega
              rw [e0] at c0
              have e1 : ((N (pl N s k).o).j : Int) = 1 := by omega
              rw [e1] at c1
              clear e1
              clear e0
              have hnb : noB N (pl N s k) = false := decide_eq_false (fun h => hz (by have h2 := h.2; unfold Pl.jar at h2; simpa [hj] using h2))
              have HC : Hid (rpcell N (pl N s k) = [.int .i64 ((pl N s k).o : Int), .int .i64 ((pl N s k).x : Int), .int .i64 ((pl N s k).y : Int), .int .i64 (-1)]) := by simp [Hid, rpcell, found, hnb]
              have K1 : (((pl N s k).y : Int) == 0) = false := by simpa using hz
              have hz1 : 1 ≤ (pl N s k).y := by omega
              have HE := Lib.hid hE
              clear hnb hE hd hj hz
              obtain ⟨i0, hi, hz0, hz1', hz2⟩ := info_parts Try.infoRPl
              go_wp2_with (at_builtin; refine wpList_append_own _ rfl _ _ 66 rfl (w.heap.size + 1) 70 i0 (.agg #[.int .i64 0, .int .i64 0, .int .i64 0, .int .i64 0]) 4 32 Try.underlying66 hi hz0 hz1' hz2 rfl (by decide) _ _ _ rfl ((HI.out.own.keep (three_le _ _ _ _)) : World.ownsRow _ _ _ _ _ _ _) ⟨wr.heap.size + 1 + 1, 0, none⟩ 1 1 [.int .i64 ((pl N s k).o : Int), .int .i64 ((pl N s k).x : Int), .int .i64 ((pl N s k).y : Int), .int .i64 (-1)] rfl rfl (three_new _ _ _ _ _) (four_ok _ _ _ _) (by unfold maxLen; omega) (by omega) (by simp; omega) ?_)
              intro v' w5 hown hgrow _
              have HO5 : Hid (OwnC w5 (w.heap.size + 1) 70 4 v' (k + 1) (fun i => rpcell N (pl N s i))) := OwnC.snoc HC.out hown
              have HB5 : Hid (Below (w.heap.size + 1) wr w5) := ((three_le wr _ _ _).mono hsz1).grown hgrow (by simp <;> omega) (fun k hk => (World.ownsRow.lt HI.out.own k hk).1)
              have hA5 := HI.out.at2.under HB5.out (Nat.lt_succ_self _)
              have HA5 := Lib.hid hA5
              have hl5 := hA5.lt
              obtain ⟨u0, u1, v0, v1⟩ := hA5
              have hl6 := hgrow.size
              simp at hl6
              have ko := (hgrow.block wr.heap.size (by simp <;> omega) (fun e => by have := (World.ownsRow.lt HI.out.own _ e.symm).2; omega)).trans (three_first wr _ _ _)
              have kp := (hgrow.block (wr.heap.size + 1) (by simp <;> omega) (fun e => by have := (World.ownsRow.lt HI.out.own _ e.symm).2; omega)).trans (three_second wr _ _ _)
              have o0 := block_cell ko 0
              have o1 := block_cell ko 1
              have o2 := block_cell ko 2
              have o3 := block_cell ko 3
              have p2 := block_cell kp 3
              simp at o0 o1 o2 o3 p2
              clear hown hgrow ko kp c0 c1 c2 c3 a0 a1
              go_wp2
              go_quiet (fail)
              go_wp2
              go_ret2
              exact HI.out.out (Or.inr rfl) HB5.out HO5.out _ false HE.out
      · rcases hd' with hd | hd
        · rcases hj' with hj | hj
          · have e0 : ((N (pl N s k).o).d : Int) = 1 := by omega
            rw [e0] at c0
            have e1 : ((N (pl N s k).o).j : Int) = 0 := by omega
            rw [e1] at c1
            clear e1
            clear e0
            have hnb : noB N (pl N s k) = false := decide_eq_false (fun h => by have h2 := h.1; omega)
            have HC : Hid (rpcell N (pl N s k) = [.int .i64 ((pl N s k).o : Int), .int .i64 ((pl N s k).x : Int), .int .i64 ((pl N s k).y : Int), .int .i64 (-1)]) := by simp [Hid, rpcell, found, hnb]
            have HS : Hid (pl N s (k + 1) = ⟨(N (pl N s k).o).t, (pl N s k).x + 1, (pl N s k).y⟩) := by unfold Hid; rw [pl_succ hE]; unfold stp stpQ; unfold noB at hnb; simp [hnb, hd, hj]
            have K0 : ((k : Int) == (m : Int)) = false := by simp; omega
            have HE := Lib.hid hE
            clear hnb hE hd hj
            obtain ⟨i0, hi, hz0, hz1', hz2⟩ := info_parts Try.infoRPl
            go_wp2_with (at_builtin; refine wpList_append_own _ rfl _ _ 66 rfl (w.heap.size + 1) 70 i0 (.agg #[.int .i64 0, .int .i64 0, .int .i64 0, .int .i64 0]) 4 32 Try.underlying66 hi hz0 hz1' hz2 rfl (by decide) _ _ _ rfl ((HI.out.own.keep (three_le _ _ _ _)) : World.ownsRow _ _ _ _ _ _ _) ⟨wr.heap.size + 1 + 1, 0, none⟩ 1 1 [.int .i64 ((pl N s k).o : Int), .int .i64 ((pl N s k).x : Int), .int .i64 ((pl N s k).y : Int), .int .i64 (-1)] rfl rfl (three_new _ _ _ _ _) (four_ok _ _ _ _) (by unfold maxLen; omega) (by omega) (by simp; omega) ?_)
            intro v' w5 hown hgrow _
            have HO5 : Hid (OwnC w5 (w.heap.size + 1) 70 4 v' (k + 1) (fun i => rpcell N (pl N s i))) := OwnC.snoc HC.out hown
            have HB5 : Hid (Below (w.heap.size + 1) wr w5) := ((three_le wr _ _ _).mono hsz1).grown hgrow (by simp <;> omega) (fun k hk => (World.ownsRow.lt HI.out.own k hk).1)
            have hA5 := HI.out.at2.under HB5.out (Nat.lt_succ_self _)
            have HA5 := Lib.hid hA5
            have hl5 := hA5.lt
            obtain ⟨u0, u1, v0, v1⟩ := hA5
            have hl6 := hgrow.size
            simp at hl6
            have ko := (hgrow.block wr.heap.size (by simp <;> omega) (fun e => by have := (World.ownsRow.lt HI.out.own _ e.symm).2; omega)).trans (three_first wr _ _ _)
            have kp := (hgrow.block (wr.heap.size + 1) (by simp <;> omega) (fun e => by have := (World.ownsRow.lt HI.out.own _ e.symm).2; omega)).trans (three_second wr _ _ _)
            have o0 := block_cell ko 0
            have o1 := block_cell ko 1
            have o2 := block_cell ko 2
            have o3 := block_cell ko 3
            have p2 := block_cell kp 3
            simp at o0 o1 o2 o3 p2
            clear hown hgrow ko kp c0 c1 c2 c3 a0 a1
            go_wp2
            go_roundw
            case rel => exact ⟨k + 1, by rw [HS.out], by go_num, HI.out.next (by omega) HE.out HB5.out HO5.out _ _ (by rw [HS.out]; have h := HA5.out.set0 (.int .i64 (((pl N s k).x + 1 : Nat) : Int)); simpa using h)⟩
            case measure => simp [intOf]; omega
          · have e0 : ((N (pl N s k).o).d : Int) = 1 := by omega
            rw [e0] at c0
            have e1 : ((N (pl N s k).o).j : Int) = 1 := by omega
            rw [e1] at c1
            clear e1
            clear e0
            have hnb : noB N (pl N s k) = false := decide_eq_false (fun h => by have h2 := h.1; omega)
            have HC : Hid (rpcell N (pl N s k) = [.int .i64 ((pl N s k).o : Int), .int .i64 ((pl N s k).x : Int), .int .i64 ((pl N s k).y : Int), .int .i64 (-1)]) := by simp [Hid, rpcell, found, hnb]
            have HS : Hid (pl N s (k + 1) = ⟨(N (pl N s k).o).t, (pl N s k).x, (pl N s k).y + 1⟩) := by unfold Hid; rw [pl_succ hE]; unfold stp stpQ; unfold noB at hnb; simp [hnb, hd, hj]
            have K0 : ((k : Int) == (m : Int)) = false := by simp; omega
            have HE := Lib.hid hE
            clear hnb hE hd hj
            obtain ⟨i0, hi, hz0, hz1', hz2⟩ := info_parts Try.infoRPl
            go_wp2_with (at_builtin; refine wpList_append_own _ rfl _ _ 66 rfl (w.heap.size + 1) 70 i0 (.agg #[.int .i64 0, .int .i64 0, .int .i64 0, .int .i64 0]) 4 32 Try.underlying66 hi hz0 hz1' hz2 rfl (by decide) _ _ _ rfl ((HI.out.own.keep (three_le _ _ _ _)) : World.ownsRow _ _ _ _ _ _ _) ⟨wr.heap.size + 1 + 1, 0, none⟩ 1 1 [.int .i64 ((pl N s k).o : Int), .int .i64 ((pl N s k).x : Int), .int .i64 ((pl N s k).y : Int), .int .i64 (-1)] rfl rfl (three_new _ _ _ _ _) (four_ok _ _ _ _) (by unfold maxLen; omega) (by omega) (by simp; omega) ?_)
            intro v' w5 hown hgrow _
            have HO5 : Hid (OwnC w5 (w.heap.size + 1) 70 4 v' (k + 1) (fun i => rpcell N (pl N s i))) := OwnC.snoc HC.out hown
            have HB5 : Hid (Below (w.heap.size + 1) wr w5) := ((three_le wr _ _ _).mono hsz1).grown hgrow (by simp <;> omega) (fun k hk => (World.ownsRow.lt HI.out.own k hk).1)
            have hA5 := HI.out.at2.under HB5.out (Nat.lt_succ_self _)
            have HA5 := Lib.hid hA5
            have hl5 := hA5.lt
            obtain ⟨u0, u1, v0, v1⟩ := hA5
            have hl6 := hgrow.size
            simp at hl6
            have ko := (hgrow.block wr.heap.size (by simp <;> omega) (fun e => by have := (World.ownsRow.lt HI.out.own _ e.symm).2; omega)).trans (three_first wr _ _ _)
            have kp := (hgrow.block (wr.heap.size + 1) (by simp <;> omega) (fun e => by have := (World.ownsRow.lt HI.out.own _ e.symm).2; omega)).trans (three_second wr _ _ _)
            have o0 := block_cell ko 0
            have o1 := block_cell ko 1
            have o2 := block_cell ko 2
            have o3 := block_cell ko 3
            have p2 := block_cell kp 3
            simp at o0 o1 o2 o3 p2
            clear hown hgrow ko kp c0 c1 c2 c3 a0 a1
            go_wp2
            go_roundw
            case rel => exact ⟨k + 1, by rw [HS.out], by go_num, HI.out.next (by omega) HE.out HB5.out HO5.out _ _ (by rw [HS.out]; have h := HA5.out.set1 (.int .i64 (((pl N s k).y + 1 : Nat) : Int)); simpa using h)⟩
            case measure => simp [intOf]; omega
        · rcases hj' with hj | hj
          · by_cases hz : (pl N s k).x = 0
            · have e0 : ((N (pl N s k).o).d : Int) = 2 := by omega
              rw [e0] at c0
              have e1 : ((N (pl N s k).o).j : Int) = 0 := by omega
              rw [e1] at c1
              clear e1
              clear e0
              have hnb : noB N (pl N s k) = true := decide_eq_true ⟨hd, by unfold Pl.jar; simp [hj, hz]⟩
              have HC : Hid (rpcell N (pl N s k) = [.int .i64 ((pl N s k).o : Int), .int .i64 0, .int .i64 ((pl N s k).y : Int), .int .i64 0]) := by simp [Hid, rpcell, found, hnb, hj, hz]
              have HS : Hid (pl N s (k + 1) = ⟨(N (pl N s k).o).e, (pl N s k).x, (pl N s k).y⟩) := by unfold Hid; rw [pl_succ hE]; unfold stp stpQ; unfold noB at hnb; simp [hnb]
              have K0 : ((k : Int) == (m : Int)) = false := by simp; omega
              have hz' : ((pl N s k).x : Int) = 0 := by omega
              rw [hz'] at a0
              clear hz'
              have HE := Lib.hid hE
              clear hnb hE hd hj hz
              obtain ⟨i0, hi, hz0, hz1', hz2⟩ := info_parts Try.infoRPl
              go_wp2_with (at_builtin; refine wpList_append_own _ rfl _ _ 66 rfl (w.heap.size + 1) 70 i0 (.agg #[.int .i64 0, .int .i64 0, .int .i64 0, .int .i64 0]) 4 32 Try.underlying66 hi hz0 hz1' hz2 rfl (by decide) _ _ _ rfl ((HI.out.own.keep (three_le _ _ _ _)) : World.ownsRow _ _ _ _ _ _ _) ⟨wr.heap.size + 1 + 1, 0, none⟩ 1 1 [.int .i64 ((pl N s k).o : Int), .int .i64 0, .int .i64 ((pl N s k).y : Int), .int .i64 0] rfl rfl (three_new _ _ _ _ _) (four_ok _ _ _ _) (by unfold maxLen; omega) (by omega) (by simp; omega) ?_)
              intro v' w5 hown hgrow _
              have HO5 : Hid (OwnC w5 (w.heap.size + 1) 70 4 v' (k + 1) (fun i => rpcell N (pl N s i))) := OwnC.snoc HC.out hown
              have HB5 : Hid (Below (w.heap.size + 1) wr w5) := ((three_le wr _ _ _).mono hsz1).grown hgrow (by simp <;> omega) (fun k hk => (World.ownsRow.lt HI.out.own k hk).1)
              have hA5 := HI.out.at2.under HB5.out (Nat.lt_succ_self _)
              have HA5 := Lib.hid hA5
              have hl5 := hA5.lt
              obtain ⟨u0, u1, v0, v1⟩ := hA5
              have hl6 := hgrow.size
              simp at hl6
              have ko := (hgrow.block wr.heap.size (by simp <;> omega) (fun e => by have := (World.ownsRow.lt HI.out.own _ e.symm).2; omega)).trans (three_first wr _ _ _)
              have kp := (hgrow.block (wr.heap.size + 1) (by simp <;> omega) (fun e => by have := (World.ownsRow.lt HI.out.own _ e.symm).2; omega)).trans (three_second wr _ _ _)
              have o0 := block_cell ko 0
              have o1 := block_cell ko 1
              have o2 := block_cell ko 2
              have o3 := block_cell ko 3
              have p2 := block_cell kp 3
              simp at o0 o1 o2 o3 p2
              clear hown hgrow ko kp c0 c1 c2 c3 a0 a1
              go_wp2
              go_roundw
              case rel => exact ⟨k + 1, by rw [HS.out], by go_num, HI.out.next0 (by omega) HE.out HB5.out HO5.out (by rw [HS.out]; exact HA5.out)⟩
              case measure => simp [intOf]; omega
            · have e0 : ((N (pl N s k).o).d : Int) = 2 := by omega
              rw [e0] at c0
              have e1 : ((N (pl N s k).o).j : Int) = 0 := by omega
              rw [e1] at c1
              clear e1
              clear e0
              have hnb : noB N (pl N s k) = false := decide_eq_false (fun h => hz (by have h2 := h.2; unfold Pl.jar at h2; simpa [hj] using h2))
              have HC : Hid (rpcell N (pl N s k) = [.int .i64 ((pl N s k).o : Int), .int .i64 ((pl N s k).x : Int), .int .i64 ((pl N s k).y : Int), .int .i64 (-1)]) := by simp [Hid, rpcell, found, hnb]
              have HS : Hid (pl N s (k + 1) = ⟨(N (pl N s k).o).t, (pl N s k).x - 1, (pl N s k).y⟩) := by unfold Hid; rw [pl_succ hE]; unfold stp stpQ; unfold noB at hnb; simp [hnb, hd, hj]
              have K0 : ((k : Int) == (m : Int)) = false := by simp; omega
              have K1 : (((pl N s k).x : Int) == 0) = false := by simpa using hz
              have hz1 : 1 ≤ (pl N s k).x := by omega
              have HE := Lib.hid hE
              clear hnb hE hd hj hz
              obtain ⟨i0, hi, hz0, hz1', hz2⟩ := info_parts Try.infoRPl
              go_wp2_with (at_builtin; refine wpList_append_own _ rfl _ _ 66 rfl (w.heap.size + 1) 70 i0 (.agg #[.int .i64 0, .int .i64 0, .int .i64 0, .int .i64 0]) 4 32 Try.underlying66 hi hz0 hz1' hz2 rfl (by decide) _ _ _ rfl ((HI.out.own.keep (three_le _ _ _ _)) : World.ownsRow _ _ _ _ _ _ _) ⟨wr.heap.size + 1 + 1, 0, none⟩ 1 1 [.int .i64 ((pl N s k).o : Int), .int .i64 ((pl N s k).x : Int), .int .i64 ((pl N s k).y : Int), .int .i64 (-1)] rfl rfl (three_new _ _ _ _ _) (four_ok _ _ _ _) (by unfold maxLen; omega) (by omega) (by simp; omega) ?_)
              intro v' w5 hown hgrow _
              have HO5 : Hid (OwnC w5 (w.heap.size + 1) 70 4 v' (k + 1) (fun i => rpcell N (pl N s i))) := OwnC.snoc HC.out hown
              have HB5 : Hid (Below (w.heap.size + 1) wr w5) := ((three_le wr _ _ _).mono hsz1).grown hgrow (by simp <;> omega) (fun k hk => (World.ownsRow.lt HI.out.own k hk).1)
              have hA5 := HI.out.at2.under HB5.out (Nat.lt_succ_self _)
              have HA5 := Lib.hid hA5
              have hl5 := hA5.lt
              obtain ⟨u0, u1, v0, v1⟩ := hA5
              have hl6 := hgrow.size
              simp at hl6
              have ko := (hgrow.block wr.heap.size (by simp <;> omega) (fun e => by have := (World.ownsRow.lt HI.out.own _ e.symm).2; omega)).trans (three_first wr _ _ _)
              have kp := (hgrow.block (wr.heap.size + 1) (by simp <;> omega) (fun e => by have := (World.ownsRow.lt HI.out.own _ e.symm).2; omega)).trans (three_second wr _ _ _)
              have o0 := block_cell ko 0
              have o1 := block_cell ko 1
              have o2 := block_cell ko 2
              have o3 := block_cell ko 3
              have p2 := block_cell kp 3
              simp at o0 o1 o2 o3 p2
              clear hown hgrow ko kp c0 c1 c2 c3 a0 a1
              go_wp2
              go_roundw
              case rel => exact ⟨k + 1, by rw [HS.out], by go_num, HI.out.next (by omega) HE.out HB5.out HO5.out _ _ (by rw [HS.out]; have h := HA5.out.set0 (.int .i64 (((pl N s k).x - 1 : Nat) : Int)); (have e : (((pl N s k).x - 1 : Nat) : Int) = ((pl N s k).x : Int) - 1 := by omega); simp only [e] at h ⊢; exact h)⟩
              case measure => simp [intOf]; omega
          · by_cases hz : (pl N s k).y = 0
            · have e0 : ((N (pl N s k).o).d : Int) = 2 := by omega
              rw [e0] at c0
              have e1 : ((N (pl N s k).o).j : Int) = 1 := by omega
              rw [e1] at c1
              clear e1
              clear e0
              have hnb : noB N (pl N s k) = true := decide_eq_true ⟨hd, by unfold Pl.jar; simp [hj, hz]⟩
              have HC : Hid (rpcell N (pl N s k) = [.int .i64 ((pl N s k).o : Int), .int .i64 ((pl N s k).x : Int), .int .i64 0, .int .i64 1]) := by simp [Hid, rpcell, found, hnb, hj, hz]
              have HS : Hid (pl N s (k + 1) = ⟨(N (pl N s k).o).e, (pl N s k).x, (pl N s k).y⟩) := by unfold Hid; rw [pl_succ hE]; unfold stp stpQ; unfold noB at hnb; simp [hnb]
              have K0 : ((k : Int) == (m : Int)) = false := by simp; omega
              have hz' : ((pl N s k).y : Int) = 0 := by omega
              rw [hz'] at a1
              clear hz'
              have HE := Lib.hid hE
              clear hnb hE hd hj hz
              obtain ⟨i0, hi, hz0, hz1', hz2⟩ := info_parts Try.infoRPl
              go_wp2_with (at_builtin; refine wpList_append_own _ rfl _ _ 66 rfl (w.heap.size + 1) 70 i0 (.agg #[.int .i64 0, .int .i64 0, .int .i64 0, .int .i64 0]) 4 32 Try.underlying66 hi hz0 hz1' hz2 rfl (by decide) _ _ _ rfl ((HI.out.own.keep (three_le _ _ _ _)) : World.ownsRow _ _ _ _ _ _ _) ⟨wr.heap.size + 1 + 1, 0, none⟩ 1 1 [.int .i64 ((pl N s k).o : Int), .int .i64 ((pl N s k).x : Int), .int .i64 0, .int .i64 1] rfl rfl (three_new _ _ _ _ _) (four_ok _ _ _ _) (by unfold maxLen; omega) (by omega) (by simp; omega) ?_)
              intro v' w5 hown hgrow _
              have HO5 : Hid (OwnC w5 (w.heap.size + 1) 70 4 v' (k + 1) (fun i => rpcell N (pl N s i))) := OwnC.snoc HC.out hown
              have HB5 : Hid (Below (w.heap.size + 1) wr w5) := ((three_le wr _ _ _).mono hsz1).grown hgrow (by simp <;> omega) (fun k hk => (World.ownsRow.lt HI.out.own k hk).1)
              have hA5 := HI.out.at2.under HB5.out (Nat.lt_succ_self _)
              have HA5 := Lib.hid hA5
              have hl5 := hA5.lt
              obtain ⟨u0, u1, v0, v1⟩ := hA5
              have hl6 := hgrow.size
              simp at hl6
              have ko := (hgrow.block wr.heap.size (by simp <;> omega) (fun e => by have := (World.ownsRow.lt HI.out.own _ e.symm).2; omega)).trans (three_first wr _ _ _)
              have kp := (hgrow.block (wr.heap.size + 1) (by simp <;> omega) (fun e => by have := (World.ownsRow.lt HI.out.own _ e.symm).2; omega)).trans (three_second wr _ _ _)
              have o0 := block_cell ko 0
              have o1 := block_cell ko 1
              have o2 := block_cell ko 2
              have o3 := block_cell ko 3
              have p2 := block_cell kp 3
              simp at o0 o1 o2 o3 p2
              clear hown hgrow ko kp c0 c1 c2 c3 a0 a1
              go_wp2
              go_roundw
              case rel => exact ⟨k + 1, by rw [HS.out], by go_num, HI.out.next0 (by omega) HE.out HB5.out HO5.out (by rw [HS.out]; exact HA5.out)⟩
              case measure => simp [intOf]; omega
            · have e0 : ((N (pl N s k).o).d : Int) = 2 := by omega
              rw [e0] at c0
              have e1 : ((N (pl N s k).o).j : Int) = 1 := by omega
              rw [e1] at c1
              clear e1
              clear e0
              have hnb : noB N (pl N s k) = false := decide_eq_false (fun h => hz (by have h2 := h.2; unfold Pl.jar at h2; simpa [hj] using h2))
              have HC : Hid (rpcell N (pl N s k) = [.int .i64 ((pl N s k).o : Int), .int .i64 ((pl N s k).x : Int), .int .i64 ((pl N s k).y : Int), .int .i64 (-1)]) := by simp [Hid, rpcell, found, hnb]
              have HS : Hid (pl N s (k + 1) = ⟨(N (pl N s k).o).t, (pl N s k).x, (pl N s k).y - 1⟩) := by unfold Hid; rw [pl_succ hE]; unfold stp stpQ; unfold noB at hnb; simp [hnb, hd, hj]
              have K0 : ((k : Int) == (m : Int)) = false := by simp; omega
              have K1 : (((pl N s k).y : Int) == 0) = false := by simpa using hz
              have hz1 : 1 ≤ (pl N s k).y := by omega
              have HE := Lib.hid hE
              clear hnb hE hd hj hz
              obtain ⟨i0, hi, hz0, hz1', hz2⟩ := info_parts Try.infoRPl
              go_wp2_with (at_builtin; refine wpList_append_own _ rfl _ _ 66 rfl (w.heap.size + 1) 70 i0 (.agg #[.int .i64 0, .int .i64 0, .int .i64 0, .int .i64 0]) 4 32 Try.underlying66 hi hz0 hz1' hz2 rfl (by decide) _ _ _ rfl ((HI.out.own.keep (three_le _ _ _ _)) : World.ownsRow _ _ _ _ _ _ _) ⟨wr.heap.size + 1 + 1, 0, none⟩ 1 1 [.int .i64 ((pl N s k).o : Int), .int .i64 ((pl N s k).x : Int), .int .i64 ((pl N s k).y : Int), .int .i64 (-1)] rfl rfl (three_new _ _ _ _ _) (four_ok _ _ _ _) (by unfold maxLen; omega) (by omega) (by simp; omega) ?_)
              intro v' w5 hown hgrow _
              have HO5 : Hid (OwnC w5 (w.heap.size + 1) 70 4 v' (k + 1) (fun i => rpcell N (pl N s i))) := OwnC.snoc HC.out hown
              have HB5 : Hid (Below (w.heap.size + 1) wr w5) := ((three_le wr _ _ _).mono hsz1).grown hgrow (by simp <;> omega) (fun k hk => (World.ownsRow.lt HI.out.own k hk).1)
              have hA5 := HI.out.at2.under HB5.out (Nat.lt_succ_self _)
              have HA5 := Lib.hid hA5
              have hl5 := hA5.lt
              obtain ⟨u0, u1, v0, v1⟩ := hA5
              have hl6 := hgrow.size
              simp at hl6
              have ko := (hgrow.block wr.heap.size (by simp <;> omega) (fun e => by have := (World.ownsRow.lt HI.out.own _ e.symm).2; omega)).trans (three_first wr _ _ _)
              have kp := (hgrow.block (wr.heap.size + 1) (by simp <;> omega) (fun e => by have := (World.ownsRow.lt HI.out.own _ e.symm).2; omega)).trans (three_second wr _ _ _)
              have o0 := block_cell ko 0
              have o1 := block_cell ko 1
              have o2 := block_cell ko 2
              have o3 := block_cell ko 3
              have p2 := block_cell kp 3
              simp at o0 o1 o2 o3 p2
              clear hown hgrow ko kp c0 c1 c2 c3 a0 a1
              go_wp2
              go_roundw
              case rel => exact ⟨k + 1, by rw [HS.out], by go_num, HI.out.next (by omega) HE.out HB5.out HO5.out _ _ (by rw [HS.out]; have h := HA5.out.set1 (.int .i64 (((pl N s k).y - 1 : Nat) : Int)); (have e : (((pl N s k).y - 1 : Nat) : Int) = ((pl N s k).y : Int) - 1 := by omega); simp only [e] at h ⊢; exact h)⟩
              case measure => simp [intOf]; omega
    · have hd : (N (pl N s k).o).d = 0 := of_decide_eq_true hE
      have e0 : ((N (pl N s k).o).d : Int) = 0 := by omega
      rw [e0] at c0
      have ec1 : ((N (pl N s k).o).j : Int) = 0 := by omega
      rw [ec1] at c1
      clear ec1
      have ec2 : ((N (pl N s k).o).t : Int) = 0 := by omega
      rw [ec2] at c2
      clear ec2
      have ec3 : ((N (pl N s k).o).e : Int) = 0 := by omega
      rw [ec3] at c3
      clear ec3
      clear e0
      have hnb : noB N (pl N s k) = false := decide_eq_false (fun h => by have h2 := h.1; omega)
      have HC : Hid (rpcell N (pl N s k) = [.int .i64 ((pl N s k).o : Int), .int .i64 ((pl N s k).x : Int), .int .i64 ((pl N s k).y : Int), .int .i64 (-1)]) := by simp [Hid, rpcell, found, hnb]
      have HE := Lib.hid hE
      clear hnb hE hd
      obtain ⟨i0, hi, hz0, hz1', hz2⟩ := info_parts Try.infoRPl
      go_wp2_with (at_builtin; refine wpList_append_own _ rfl _ _ 66 rfl (w.heap.size + 1) 70 i0 (.agg #[.int .i64 0, .int .i64 0, .int .i64 0, .int .i64 0]) 4 32 Try.underlying66 hi hz0 hz1' hz2 rfl (by decide) _ _ _ rfl ((HI.out.own.keep (three_le _ _ _ _)) : World.ownsRow _ _ _ _ _ _ _) ⟨wr.heap.size + 1 + 1, 0, none⟩ 1 1 [.int .i64 ((pl N s k).o : Int), .int .i64 ((pl N s k).x : Int), .int .i64 ((pl N s k).y : Int), .int .i64 (-1)] rfl rfl (three_new _ _ _ _ _) (four_ok _ _ _ _) (by unfold maxLen; omega) (by omega) (by simp; omega) ?_)
      intro v' w5 hown hgrow _
      have HO5 : Hid (OwnC w5 (w.heap.size + 1) 70 4 v' (k + 1) (fun i => rpcell N (pl N s i))) := OwnC.snoc HC.out hown
      have HB5 : Hid (Below (w.heap.size + 1) wr w5) := ((three_le wr _ _ _).mono hsz1).grown hgrow (by simp <;> omega) (fun k hk => (World.ownsRow.lt HI.out.own k hk).1)
      have hA5 := HI.out.at2.under HB5.out (Nat.lt_succ_self _)
      have HA5 := Lib.hid hA5
      have hl5 := hA5.lt
      obtain ⟨u0, u1, v0, v1⟩ := hA5
      have hl6 := hgrow.size
      simp at hl6
      have ko := (hgrow.block wr.heap.size (by simp <;> omega) (fun e => by have := (World.ownsRow.lt HI.out.own _ e.symm).2; omega)).trans (three_first wr _ _ _)
      have kp := (hgrow.block (wr.heap.size + 1) (by simp <;> omega) (fun e => by have := (World.ownsRow.lt HI.out.own _ e.symm).2; omega)).trans (three_second wr _ _ _)
      have o0 := block_cell ko 0
      have o1 := block_cell ko 1
      have o2 := block_cell ko 2
      have o3 := block_cell ko 3
      have p2 := block_cell kp 3
      simp at o0 o1 o2 o3 p2
      clear hown hgrow ko kp c0 c1 c2 c3 a0 a1
      go_wp2
      go_quiet (fail)
      go_wp2
      go_ret2
      exact HI.out.out (Or.inl HE.out) HB5.out HO5.out _ true HE.out

end Go.Proofs.Ytiegingpmcloeaa
