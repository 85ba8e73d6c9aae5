import Derived.Test.YtiegingpmcloeaaB3
namespace Go.Proofs.Ytiegingpmcloeaa
open Go.RowKit

theorem Try.infoTP : (Try.prog.info? 62).map (fun i => (i.zero, i.size, i.bytes)) = some (some (.agg #[.int .i64 0, .int .i64 0, .int .i64 0]), 3, 24) := by kernel_rfl
def ppcell (p : Pl) : List Value := [.int .i64 p.o, .int .i64 p.x, .int .i64 p.y]
theorem ppcell_len (p : Pl) : (ppcell p).length = 3 := rfl
theorem ppcell_ok (p : Pl) : ∀ u ∈ ppcell p, u.oneCell' = true := by
  intro u hu
  simp [ppcell] at hu
  rcases hu with rfl | rfl | rfl <;> rfl
theorem set3_size (w : World) (b : Nat) (v0 v1 v2 : Value) : (((w.setCell ⟨b, 0, none⟩ v0).setCell ⟨b, 1, none⟩ v1).setCell ⟨b, 2, none⟩ v2).heap.size = w.heap.size := by simp [World.setCell]
theorem OwnC.set3 {w : World} {base : Nat} {e : TypeId} {s : Nat} {v : Value} {m : Nat} {c : Nat → List Value} (h : OwnC w base e s v m c) {b : Nat} (hp : b < base) (v0 v1 v2 : Value) : OwnC (((w.setCell ⟨b, 0, none⟩ v0).setCell ⟨b, 1, none⟩ v1).setCell ⟨b, 2, none⟩ v2) base e s v m c :=
  ((h.setCell (p := ⟨b, 0, none⟩) hp v0).setCell (p := ⟨b, 1, none⟩) hp v1).setCell (p := ⟨b, 2, none⟩) hp v2
theorem At3.under {w w' : World} {b B : Nat} {v0 v1 v2 : Value} (h : At3 w b v0 v1 v2) (hb : Below B w w') (hB : b < B) : At3 w' b v0 v1 v2 := by
  have e : w'.heap[b]? = w.heap[b]? := hb.block b hB
  have k : ∀ j, w'.cell? ⟨b, j, none⟩ = w.cell? ⟨b, j, none⟩ := fun j => World.cell?_of_block e
  have f : ∀ j, w'.frozen? ⟨b, j, none⟩ = w.frozen? ⟨b, j, none⟩ := fun j => by unfold World.frozen?; simp only [e]
  exact ⟨by rw [k]; exact h.c0, by rw [k]; exact h.c1, by rw [k]; exact h.c2, by rw [f]; exact h.f0, by rw [f]; exact h.f1, by rw [f]; exact h.f2⟩

/-- What holds ahead of a round of 'places'. -/
structure PInv (N : Nat → QN) (s : Pl) (m : Nat) (w wr : World) (v : Value) (k : Nat) : Prop where
  le : k ≤ m
  bel : Below w.heap.size w wr
  at3 : At3 wr (w.heap.size + 1) (.int .i64 (pl N s k).o) (.int .i64 (pl N s k).x) (.int .i64 (pl N s k).y)
  own : OwnC wr (w.heap.size + 1 + 1) 62 3 v (k + 1) (fun i => ppcell (pl N s i))
  go : ∀ i, i < k → isEnd N (pl N s i) = false
theorem PInv.keep {N : Nat → QN} {s : Pl} {m : Nat} {w wr w2 : World} {v : Value} {k : Nat} (h : PInv N s m w wr v k) (hb : Below wr.heap.size wr w2) : PInv N s m w w2 v k :=
  ⟨h.le, band h.bel hb, h.at3.keep hb, h.own.keep hb, h.go⟩
/-- What 'places' hands back. -/
def PpOut (N : Nat → QN) (s : Pl) (m : Nat) (w : World) (r : Ending) (w' : World) : Prop :=
  ∃ v, r = .returned v ∧ OwnC w' (w.heap.size + 1 + 1) 62 3 v (dn N s m + 1) (fun i => ppcell (pl N s i)) ∧ Below w.heap.size w w'
theorem PInv.out {N : Nat → QN} {s : Pl} {m : Nat} {w wr : World} {v : Value} {k : Nat} (h : PInv N s m w wr v k) (he : isEnd N (pl N s k) = true ∨ k = m) : PpOut N s m w (.returned v) wr := by
  have e : dn N s m = k := by
    rcases he with he | rfl
    · rw [(pl_at he h.le).2, dn_go k h.go]
    · exact dn_go k h.go
  exact ⟨v, rfl, by rw [e]; exact h.own, h.bel⟩

set_option maxHeartbeats 2000000 in
set_option maxRecDepth 100000 in
theorem places_any (N : Nat → QN) (n cap : Nat) (a : Option Addr) (x y m : Nat) (w : World) (hN : okN n N) (hx : x ≤ 100) (hy : y ≤ 100) (hm : m ≤ 1000) (hM : Ords w a n (fun k => (N k).z)) :
    Calls Try.prog 35 #[.slice a n cap, .agg #[.int .i64 x, .int .i64 y], .int .i64 m] w fun r w' => PpOut N ⟨0, x, y⟩ m w r w' := by
  have HM := Lib.hid hM
  have HN := Lib.hid hN
  have hl0 : (⟨0, x, y⟩ : Pl).o < n := hN.pos
  have HP := Lib.hid (fun k => pl_lt hN hl0 k)
  have HL := Lib.hid (fun k => pl_le (N := N) (s := ⟨0, x, y⟩) k)
  have hn : n ≤ 1000 := by have := hN.few; omega
  have I0 : Hid (PInv N ⟨0, x, y⟩ m w (((w.alloc (.cells #[.int .i64 x, .int .i64 y] 23)).alloc (.cells #[.int .i64 0, .int .i64 x, .int .i64 y] 62)).alloc (.cells #[.int .i64 0, .int .i64 x, .int .i64 y] 62)) (.slice (some ⟨w.heap.size + 1 + 1, 0, none⟩) 1 1) 0) := by
    refine ⟨Nat.zero_le _, three_le _ _ _ _, At3.of (three_second w _ _ _), ?_, fun i hi => absurd hi (Nat.not_lt_zero _)⟩
    have h3 := heap_two2 (w.alloc (.cells #[.int .i64 x, .int .i64 y] 23)) (.cells #[.int .i64 0, .int .i64 x, .int .i64 y] 62) (.cells #[.int .i64 0, .int .i64 x, .int .i64 y] 62)
    simp only [World.size_alloc] at h3
    exact ⟨by simp [ppcell], .inr ⟨_, 1, _, rfl, Nat.le_refl _, h3, Nat.le_refl _, by decide, rfl, by simp [ppcell, pl]⟩⟩
  generalize hs : (⟨0, x, y⟩ : Pl) = s at *
  have hsx : Hid (s.x = x) := by rw [← hs]; rfl
  have hsy : Hid (s.y = y) := by rw [← hs]; rfl
  clear hM hN hl0 hs
  go_enter Try.func35, Try.ntmps35
  go_wp2
  go_loopw [8, 14] (fun v i wr => ∃ k : Nat, i = .int .i64 k ∧ PInv N s m w wr v k) (fun _ i _ => m - (intOf i).toNat)
  case atStart => exact ⟨0, rfl, I0.out⟩
  case round =>
    obtain ⟨k, rfl, hI⟩ := hrel
    have HI := Lib.hid hI
    have hk := hI.le
    have hsz := hI.bel.size
    have hl1 := hI.at3.lt
    obtain ⟨q0, q1, q2, qf0, qf1, qf2⟩ := hI.at3
    have ho := HP.out k
    have hlx := (HL.out k).1
    have hly := (HL.out k).2
    rw [hsx.out] at hlx
    rw [hsy.out] at hly
    have HMr := Lib.hid (HM.out.keep (Nat.le_refl _) hI.bel)
    clear hI
    by_cases hlt : k < m
    · have HE := Lib.hid (ended_any N n cap a (pl N s k) wr hn ho HN.out HMr.out)
      cases hE : isEnd N (pl N s k)
      · have HSt := Lib.hid (fun W (hW : Below wr.heap.size wr W) => step_any N n cap a (pl N s k) W hn ho (by omega) (by omega) HN.out hE (HMr.out.keep (Nat.le_refl _) hW))
        have HPS := Lib.hid (pl_succ hE)
        have HE0 := Lib.hid hE
        clear hE
        go_wp2_with fail
        refine HE.out.mono ?_
        rintro r w2 ⟨rfl, hb2⟩
        rw [HE0.out]
        have HI2 := Lib.hid (HI.out.keep hb2)
        have HB2 := Lib.hid hb2
        obtain ⟨q0, q1, q2, qf0, qf1, qf2⟩ := HI2.out.at3
        have hl3 := HI2.out.at3.lt
        clear hb2
        go_wp2_with fail
        refine (HSt.out _ HB2.out).mono ?_
        rintro r w3 ⟨rfl, hb3⟩
        rw [← HPS.out]
        have HI3 := Lib.hid (HI2.out.keep hb3)
        have hA3 := HI3.out.at3.set (.int .i64 (pl N s (k + 1)).o) (.int .i64 (pl N s (k + 1)).x) (.int .i64 (pl N s (k + 1)).y)
        have HA3 := Lib.hid hA3
        obtain ⟨q0, q1, q2, qf0, qf1, qf2⟩ := HI3.out.at3
        have hl4 := HI3.out.at3.lt
        have hz3 := set3_size w3 (w.heap.size + 1) (.int .i64 (pl N s (k + 1)).o) (.int .i64 (pl N s (k + 1)).x) (.int .i64 (pl N s (k + 1)).y)
        have HZ3 := Lib.hid hz3
        have HO3 := Lib.hid (HI3.out.own.set3 (Nat.lt_succ_self (w.heap.size + 1)) (.int .i64 (pl N s (k + 1)).o) (.int .i64 (pl N s (k + 1)).x) (.int .i64 (pl N s (k + 1)).y))
        have HB3 := Lib.hid (below_set3 HI3.out.bel (show w.heap.size ≤ w.heap.size + 1 from Nat.le_succ _) (.int .i64 (pl N s (k + 1)).o) (.int .i64 (pl N s (k + 1)).x) (.int .i64 (pl N s (k + 1)).y))
        clear hb3 hA3 hz3
        obtain ⟨i0, hi, hz0, hz1, hz2⟩ := info_parts Try.infoTP
        generalize hp1 : pl N s (k + 1) = p1 at *
        have HP1 := Lib.hid hp1
        have HNew : Hid (∀ j u, (ppcell p1)[j]? = some u → ((((w3.setCell ⟨w.heap.size + 1, 0, none⟩ (.int .i64 p1.o)).setCell ⟨w.heap.size + 1, 1, none⟩ (.int .i64 p1.x)).setCell ⟨w.heap.size + 1, 2, none⟩ (.int .i64 p1.y)).alloc (.cells #[.int .i64 p1.o, .int .i64 p1.x, .int .i64 p1.y] 62)).cell? ((⟨w3.heap.size, 0, none⟩ : Addr).add j) = some u) := by
          have h := new_cells (((w3.setCell ⟨w.heap.size + 1, 0, none⟩ (.int .i64 p1.o)).setCell ⟨w.heap.size + 1, 1, none⟩ (.int .i64 p1.x)).setCell ⟨w.heap.size + 1, 2, none⟩ (.int .i64 p1.y)) (ppcell p1) 62
          rw [HZ3.out] at h
          exact h
        clear hp1
        go_wp2_with (at_builtin; refine wpList_append_own _ rfl _ _ 72 rfl (w.heap.size + 1 + 1) 62 i0 (.agg #[.int .i64 0, .int .i64 0, .int .i64 0]) 3 24 Try.underlying72 hi hz0 hz1 hz2 rfl (by decide) _ _ _ rfl ((HO3.out.keep (one_le _ _)) : World.ownsRow _ _ _ _ _ _ _) ⟨w3.heap.size, 0, none⟩ 1 1 (ppcell p1) rfl rfl HNew.out (ppcell_ok _) (by unfold maxLen; omega) (by omega) (by simp <;> omega) ?_)
        intro v' w5 hown hgrow _
        have HO5 : Hid (OwnC w5 (w.heap.size + 1 + 1) 62 3 v' (k + 1 + 1) (fun i => ppcell (pl N s i))) := OwnC.snoc (by rw [HP1.out]) (by rw [List.range_succ, List.flatMap_append]; simpa using hown)
        have hB5 : Below (w.heap.size + 1 + 1) (((w3.setCell ⟨w.heap.size + 1, 0, none⟩ (.int .i64 p1.o)).setCell ⟨w.heap.size + 1, 1, none⟩ (.int .i64 p1.x)).setCell ⟨w.heap.size + 1, 2, none⟩ (.int .i64 p1.y)) w5 :=
          ((Below.refl _ _).alloc (by rw [HZ3.out]; omega) _).grown hgrow (by simp <;> omega) (fun k hk => (World.ownsRow.lt HO3.out k hk).1)
        have HNext : Hid (PInv N s m w w5 v' (k + 1)) := by
          refine ⟨hlt, HB3.out.trans (hB5.mono (by omega)), ?_, HO5.out, fun i hi => ?_⟩
          · rw [HP1.out]; exact HA3.out.under hB5 (Nat.lt_succ_self _)
          · by_cases e : i = k
            · subst e; exact HE0.out
            · exact HI.out.go i (by omega)
        clear hown hgrow hB5
        go_wp2
        go_roundw
        case rel => exact ⟨k + 1, by go_num, HNext.out⟩
        case measure => simp [intOf]; omega
      · have HE0 := Lib.hid hE
        clear hE
        go_wp2_with fail
        refine HE.out.mono ?_
        rintro r w2 ⟨rfl, hb2⟩
        rw [HE0.out]
        have HI2 := Lib.hid (HI.out.keep hb2)
        clear hb2
        go_wp2
        go_ret
        exact HI2.out.out (Or.inl HE0.out)
    · have e : k = m := by omega
      have E := Lib.hid e
      have hge : (m : Int) ≤ k := by omega
      clear e
      go_wp2
      go_ret
      exact HI.out.out (Or.inr E.out)

end Go.Proofs.Ytiegingpmcloeaa
