import Derived.Test.YtiegingpmcloeaaB4
namespace Go.Proofs.Ytiegingpmcloeaa
open Go.RowKit

/-- A list of R's places. -/
def RplAt (w : World) (a : Option Addr) (m : Nat) (N : Nat → QN) (P : Nat → Pl) : Prop :=
  ∀ k, k < m → ∃ b o, a = some ⟨b, o, none⟩ ∧ w.cell? ⟨b, o + k * 4, none⟩ = some (.int .i64 (P k).o) ∧ w.cell? ⟨b, o + k * 4 + 1, none⟩ = some (.int .i64 (P k).x) ∧ w.cell? ⟨b, o + k * 4 + 2, none⟩ = some (.int .i64 (P k).y) ∧ w.cell? ⟨b, o + k * 4 + 3, none⟩ = some (.int .i64 (found N (P k)))
theorem RplAt.keep {w w' : World} {a : Option Addr} {m : Nat} {N : Nat → QN} {P : Nat → Pl} (h : RplAt w a m N P) {B : Nat} (hB : w.heap.size ≤ B) (hb : Below B w w') : RplAt w' a m N P := by
  intro j hj
  obtain ⟨b, o, ha, c0, c1, c2, c3⟩ := h j hj
  have hlt := Nat.lt_of_lt_of_le (World.block_lt_of_cell? _ _ c0) hB
  exact ⟨b, o, ha, by rw [hb.cell (p := ⟨b, o + j * 4, none⟩) hlt]; exact c0, by rw [hb.cell (p := ⟨b, o + j * 4 + 1, none⟩) hlt]; exact c1, by rw [hb.cell (p := ⟨b, o + j * 4 + 2, none⟩) hlt]; exact c2, by rw [hb.cell (p := ⟨b, o + j * 4 + 3, none⟩) hlt]; exact c3⟩
/-- Three cells of a block. -/
def R3 (w : World) (b : Nat) (p : Pl) : Prop := w.cell? ⟨b, 0, none⟩ = some (.int .i64 p.o) ∧ w.cell? ⟨b, 1, none⟩ = some (.int .i64 p.x) ∧ w.cell? ⟨b, 2, none⟩ = some (.int .i64 p.y)
theorem R3.keep {w w' : World} {b : Nat} {p : Pl} (h : R3 w b p) (hb : Below w.heap.size w w') : R3 w' b p := cells3_keep h hb
theorem R3.of {w : World} {b : Nat} {p : Pl} {v : Value} {T : TypeId} (h : w.heap[b]? = some (.cells #[.int .i64 p.o, .int .i64 p.x, .int .i64 p.y, v] T)) : R3 w b p := ⟨block_cell h 0, block_cell h 1, block_cell h 2⟩

set_option maxHeartbeats 8000000 in
set_option maxRecDepth 100000 in
theorem riscircle (N : Nat → QN) (P : Nat → Pl) (n : Nat) (w : World) (al : Option Addr) (m cl : Nat) (i j : Nat) (hm : m ≤ 2000) (hcl : m ≤ cl) (_hcm : cl ≤ maxLen) (hij : i < j) (hjm : j < m) (hN : okN n N) (hP : RplAt w al m N P) (ho : ∀ k, (P k).o < n) :
    Calls Try.prog 37 #[.slice al m cl, .int .i64 i, .int .i64 j] w fun r w' => SomeB (decide (circR N P i j)) w r w' := by
  have HP := Lib.hid hP
  obtain ⟨b, o, rfl, c0, c1, c2, c3⟩ := hP i (by omega)
  obtain ⟨b', o', he, d0, d1, d2, d3⟩ := hP j (by omega)
  cases he
  have hbl : b < w.heap.size := World.block_lt_of_cell? _ _ c0
  have n1 : w.heap.size ≠ b := by omega
  have n2 : w.heap.size + 1 ≠ b := by omega
  have e1 : (0 : Int) ≤ (i : Int) := by omega
  have e2 : (i : Int) < (m : Int) := by omega
  have e3 : (0 : Int) ≤ (j : Int) := by omega
  have e4 : (j : Int) < (m : Int) := by omega
  generalize hfi : found N (P i) = fi at *
  generalize hfj : found N (P j) = fj at *
  clear hP hfi hfj
  go_enter Try.func37, Try.ntmps37
  go_wp2_with fail
  go_cut [7, 8] (fun s7 s8 wc => ∃ bf bt, s7 = .pointer (some ⟨bf, 0, none⟩) ∧ s8 = .pointer (some ⟨bt, 0, none⟩) ∧ R3 wc bf (P i) ∧ R3 wc bt (P j) ∧ Below w.heap.size w wc)
  case first =>
    go_region_held3 (fun w' => w'.cell? ⟨b, o + i * 4, none⟩ = some (.int .i64 (P i).o) ∧ w'.cell? ⟨b, o + i * 4 + 1, none⟩ = some (.int .i64 (P i).x) ∧ w'.cell? ⟨b, o + i * 4 + 2, none⟩ = some (.int .i64 (P i).y) ∧ w'.cell? ⟨b, o + i * 4 + 3, none⟩ = some (.int .i64 fi) ∧ w'.cell? ⟨b, o + j * 4, none⟩ = some (.int .i64 (P j).o) ∧ w'.cell? ⟨b, o + j * 4 + 1, none⟩ = some (.int .i64 (P j).x) ∧ w'.cell? ⟨b, o + j * 4 + 2, none⟩ = some (.int .i64 (P j).y) ∧ w'.cell? ⟨b, o + j * 4 + 3, none⟩ = some (.int .i64 fj))
      (go_keep)
      (fail)
    all_goals
      go_wp2
      go_meet
    all_goals first
      | exact ⟨_, _, rfl, rfl, R3.of (heap_two1 w _ _), R3.of (heap_two2 w _ _), (two_le w _ _).drew⟩
      | exact ⟨_, _, rfl, rfl, R3.of (heap_two2 w _ _), R3.of (heap_two1 w _ _), (two_le w _ _).drew⟩
  case rest =>
    obtain ⟨bf, bt, rfl, rfl, hf, ht, hb⟩ := hcut
    have HF := Lib.hid hf
    have HT := Lib.hid ht
    have HB := Lib.hid hb
    have hlf : bf < wc.heap.size := World.block_lt_of_cell? _ _ hf.1
    have hlt : bt < wc.heap.size := World.block_lt_of_cell? _ _ ht.1
    obtain ⟨f0, f1, f2⟩ := hf
    obtain ⟨t0, t1, t2⟩ := ht
    clear hb n1 n2 c0 c1 c2 c3 d0 d1 d2 d3
    by_cases h1 : (P i).o = (P j).o
    · have K1 : (((P i).o : Int) != ((P j).o : Int)) = false := by simp [h1]
      by_cases h2 : (P i).x ≤ (P j).x
      · have K2 : decide ((P j).x < (P i).x) = false := by simp; omega
        by_cases h3 : (P i).y ≤ (P j).y
        · have K3 : decide ((P j).y < (P i).y) = false := by simp; omega
          have H123 := Lib.hid (And.intro h1 (And.intro h2 h3))
          clear h1 h2 h3
          go_wp2
          clear K1 K2 K3
          go_loopw [10, 47] (fun _ t wr => ∃ k : Nat, k ≤ j - i ∧ t = .int .i64 k ∧ Below w.heap.size w wr ∧ R3 wr bf (P i) ∧ R3 wr bt (P j) ∧ Hid (∀ q, q < k → noB N (P (i + q)) = true → (P i).jar (N (P (i + q)).o).j = (P j).jar (N (P (i + q)).o).j)) (fun _ t _ => j - i - (intOf t).toNat)
          case atStart => exact ⟨0, Nat.zero_le _, rfl, HB.out, HF.out, HT.out, fun q hq => absurd hq (Nat.not_lt_zero _)⟩
          case round =>
            obtain ⟨k, hk, rfl, hBr, hfr, htr, hjars⟩ := hrel
            have HBr := Lib.hid hBr
            have HFr := Lib.hid hfr
            have HTr := Lib.hid htr
            have hsz := hBr.size
            have hlf2 : bf < wr.heap.size := World.block_lt_of_cell? _ _ hfr.1
            have hlt2 : bt < wr.heap.size := World.block_lt_of_cell? _ _ htr.1
            clear f0 f1 f2 t0 t1 t2 hlf hlt
            obtain ⟨f0, f1, f2⟩ := hfr
            obtain ⟨t0, t1, t2⟩ := htr
            clear hBr
            by_cases hkj : k < j - i
            · obtain ⟨bb, oo, he, g0, g1, g2, g3⟩ := (HP.out.keep (Nat.le_refl _) HBr.out) (i + k) (by omega)
              cases he
              rw [show o + (i + k) * 4 = o + i * 4 + k * 4 by omega] at g0 g1 g2 g3
              have hbl2 : b < wr.heap.size := by omega
              have hj1 := hN.j _ (ho (i + k))
              have HA : Hid (∀ o1 q, Below w.heap.size w ((wr.alloc o1).drewN q)) := fun o1 q => below_drewN (HBr.out.alloc hsz _) q
              have HFa : Hid (∀ o1 q, R3 ((wr.alloc o1).drewN q) bf (P i)) := fun o1 q => HFr.out.keep (below_drewN (one_le _ _) q)
              have HTa : Hid (∀ o1 q, R3 ((wr.alloc o1).drewN q) bt (P j)) := fun o1 q => HTr.out.keep (below_drewN (one_le _ _) q)
              cases hnb : noB N (P (i + k))
              · have hfo : found N (P (i + k)) = -1 := by unfold found; rw [hnb]; rfl
                rw [hfo] at g3
                have hstep : Hid (∀ q, q < k + 1 → noB N (P (i + q)) = true → (P i).jar (N (P (i + q)).o).j = (P j).jar (N (P (i + q)).o).j) := by
                  intro q hq hb
                  by_cases e : q = k
                  · subst e; rw [hnb] at hb; cases hb
                  · exact hjars.out q (by omega) hb
                clear hnb hfo
                go_wp2
                go_quiet (fail)
                go_wp2
                go_roundw
                case rel => exact ⟨k + 1, by omega, by go_num, HA.out _ _, HFa.out _ _, HTa.out _ _, hstep⟩
                case measure => simp [intOf]; omega
              · have hfo : found N (P (i + k)) = ((N (P (i + k)).o).j : Int) := by unfold found; rw [hnb]; rfl
                rw [hfo] at g3
                have hj2 : (N (P (i + k)).o).j = 0 ∨ (N (P (i + k)).o).j = 1 := by omega
                have hall : Hid ((P i).jar (N (P (i + k)).o).j = (P j).jar (N (P (i + k)).o).j → ∀ q, q < k + 1 → noB N (P (i + q)) = true → (P i).jar (N (P (i + q)).o).j = (P j).jar (N (P (i + q)).o).j) := by
                  intro h q hq hb
                  by_cases e : q = k
                  · subst e; exact h
                  · exact hjars.out q (by omega) hb
                have hnone : Hid (¬ (P i).jar (N (P (i + k)).o).j = (P j).jar (N (P (i + k)).o).j → decide (circR N P i j) = false) := fun h => decide_eq_false (fun hc => h (hc.2.2.2 k hkj hnb))
                clear hnb hfo
                rcases hj2 with hj | hj
                · have e1' : ((N (P (i + k)).o).j : Int) = 0 := by omega
                  rw [e1'] at g3
                  rw [hj] at hall hnone
                  clear e1'
                  by_cases hq : (P i).x = (P j).x
                  · have hstep := Lib.hid (hall.out (by simp [Pl.jar, hq]))
                    have K : (((P i).x : Int) != ((P j).x : Int)) = false := by simp [hq]
                    clear hq hj hj1
                    go_wp2
                    go_quiet (fail)
                    go_wp2
                    go_roundw
                    case rel => exact ⟨k + 1, by omega, by go_num, HA.out _ _, HFa.out _ _, HTa.out _ _, hstep⟩
                    case measure => simp [intOf]; omega
                  · have hno := Lib.hid (hnone.out (by simp [Pl.jar, hq]))
                    have K : (((P i).x : Int) != ((P j).x : Int)) = true := by simp; omega
                    clear hq hj hj1
                    go_wp2
                    go_quiet (fail)
                    go_wp2
                    go_ret
                    exact ⟨by rw [hno.out]; rfl, HA.out _ _⟩
                · have e1' : ((N (P (i + k)).o).j : Int) = 1 := by omega
                  rw [e1'] at g3
                  rw [hj] at hall hnone
                  clear e1'
                  by_cases hq : (P i).y = (P j).y
                  · have hstep := Lib.hid (hall.out (by simp [Pl.jar, hq]))
                    have K : (((P i).y : Int) != ((P j).y : Int)) = false := by simp [hq]
                    clear hq hj hj1
                    go_wp2
                    go_quiet (fail)
                    go_wp2
                    go_roundw
                    case rel => exact ⟨k + 1, by omega, by go_num, HA.out _ _, HFa.out _ _, HTa.out _ _, hstep⟩
                    case measure => simp [intOf]; omega
                  · have hno := Lib.hid (hnone.out (by simp [Pl.jar, hq]))
                    have K : (((P i).y : Int) != ((P j).y : Int)) = true := by simp; omega
                    clear hq hj hj1
                    go_wp2
                    go_quiet (fail)
                    go_wp2
                    go_ret
                    exact ⟨by rw [hno.out]; rfl, HA.out _ _⟩
            · have e : k = j - i := by omega
              have hr : Hid (decide (circR N P i j) = true) := decide_eq_true ⟨H123.out.1, H123.out.2.1, H123.out.2.2, fun q hq => hjars.out q (by omega)⟩
              have hge : ¬ ((k : Int) < ((j - i : Nat) : Int)) := by omega
              clear e
              go_wp2
              go_ret
              exact ⟨by rw [hr.out]; rfl, HBr.out⟩
        · have hr : Hid (decide (circR N P i j) = false) := decide_eq_false (fun h => h3 h.2.2.1)
          have K3 : decide ((P j).y < (P i).y) = true := by simp; omega
          clear h1 h2 h3
          go_wp2
          go_ret
          exact ⟨by rw [hr.out]; rfl, HB.out⟩
      · have hr : Hid (decide (circR N P i j) = false) := decide_eq_false (fun h => h2 h.2.1)
        have K2 : decide ((P j).x < (P i).x) = true := by simp; omega
        clear h1 h2
        go_wp2
        go_ret
        exact ⟨by rw [hr.out]; rfl, HB.out⟩
    · have hr : Hid (decide (circR N P i j) = false) := decide_eq_false (fun h => h1 h.1)
      have K1 : (((P i).o : Int) != ((P j).o : Int)) = true := by simp; omega
      clear h1
      go_wp2
      go_ret
      exact ⟨by rw [hr.out]; rfl, HB.out⟩

end Go.Proofs.Ytiegingpmcloeaa
