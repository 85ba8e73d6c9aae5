import Derived.Test.YtiegingpmcloeaaA4
import Derived.Test.YtiegingpmcloeaaMem2
namespace Go.Proofs.Ytiegingpmcloeaa
open Go.RowKit

/-- Three cells of a block that may be written. -/
structure At3 (w : World) (b : Nat) (v0 v1 v2 : Value) : Prop where
  c0 : w.cell? ⟨b, 0, none⟩ = some v0
  c1 : w.cell? ⟨b, 1, none⟩ = some v1
  c2 : w.cell? ⟨b, 2, none⟩ = some v2
  f0 : w.frozen? ⟨b, 0, none⟩ = false
  f1 : w.frozen? ⟨b, 1, none⟩ = false
  f2 : w.frozen? ⟨b, 2, none⟩ = false
theorem At3.of {w : World} {b : Nat} {v0 v1 v2 : Value} {T : TypeId} (h : w.heap[b]? = some (.cells #[v0, v1, v2] T)) : At3 w b v0 v1 v2 :=
  ⟨block_cell h 0, block_cell h 1, block_cell h 2, block_free h 0, block_free h 1, block_free h 2⟩
theorem At3.lt {w : World} {b : Nat} {v0 v1 v2 : Value} (h : At3 w b v0 v1 v2) : b < w.heap.size := World.block_lt_of_cell? _ _ h.c0
theorem At3.keep {w w' : World} {b : Nat} {v0 v1 v2 : Value} (h : At3 w b v0 v1 v2) (hb : Below w.heap.size w w') : At3 w' b v0 v1 v2 := by
  have e : w'.heap[b]? = w.heap[b]? := hb.block b h.lt
  have k : ∀ j, w'.cell? ⟨b, j, none⟩ = w.cell? ⟨b, j, none⟩ := fun j => World.cell?_of_block e
  have f : ∀ j, w'.frozen? ⟨b, j, none⟩ = w.frozen? ⟨b, j, none⟩ := fun j => by unfold World.frozen?; simp only [e]
  exact ⟨by rw [k]; exact h.c0, by rw [k]; exact h.c1, by rw [k]; exact h.c2, by rw [f]; exact h.f0, by rw [f]; exact h.f1, by rw [f]; exact h.f2⟩
theorem At3.set {w : World} {b : Nat} {u0 u1 u2 : Value} (h : At3 w b u0 u1 u2) (v0 v1 v2 : Value) :
    At3 (((w.setCell ⟨b, 0, none⟩ v0).setCell ⟨b, 1, none⟩ v1).setCell ⟨b, 2, none⟩ v2) b v0 v1 v2 := by
  obtain ⟨c0, c1, c2, f0, f1, f2⟩ := h
  constructor
  · go_simp
  · go_simp
  · go_simp
  · go_simp
  · go_simp
  · go_simp
theorem At3.far {w : World} {b b' : Nat} {u0 u1 u2 : Value} (h : At3 w b u0 u1 u2) (hn : b' ≠ b) (v0 v1 v2 : Value) :
    At3 (((w.setCell ⟨b', 0, none⟩ v0).setCell ⟨b', 1, none⟩ v1).setCell ⟨b', 2, none⟩ v2) b u0 u1 u2 := by
  have e : (((w.setCell ⟨b', 0, none⟩ v0).setCell ⟨b', 1, none⟩ v1).setCell ⟨b', 2, none⟩ v2).heap[b]? = w.heap[b]? := by
    rw [Below.heap_setCell _ _ _ _ (by simpa using hn.symm), Below.heap_setCell _ _ _ _ (by simpa using hn.symm), Below.heap_setCell _ _ _ _ (by simpa using hn.symm)]
  have k : ∀ j, (((w.setCell ⟨b', 0, none⟩ v0).setCell ⟨b', 1, none⟩ v1).setCell ⟨b', 2, none⟩ v2).cell? ⟨b, j, none⟩ = w.cell? ⟨b, j, none⟩ := fun j => World.cell?_of_block e
  have f : ∀ j, (((w.setCell ⟨b', 0, none⟩ v0).setCell ⟨b', 1, none⟩ v1).setCell ⟨b', 2, none⟩ v2).frozen? ⟨b, j, none⟩ = w.frozen? ⟨b, j, none⟩ := fun j => by unfold World.frozen?; simp only [e]
  exact ⟨by rw [k]; exact h.c0, by rw [k]; exact h.c1, by rw [k]; exact h.c2, by rw [f]; exact h.f0, by rw [f]; exact h.f1, by rw [f]; exact h.f2⟩
theorem below_set3 {B b : Nat} {a w : World} (h : Below B a w) (hb : B ≤ b) (v0 v1 v2 : Value) : Below B a (((w.setCell ⟨b, 0, none⟩ v0).setCell ⟨b, 1, none⟩ v1).setCell ⟨b, 2, none⟩ v2) :=
  ((h.setCell hb _).setCell hb _).setCell hb _

set_option maxRecDepth 100000 in
theorem canRun_r (r : Bool) (M : Nat → Q) (n cap : Nat) (a : Option Addr) (x y : Int) (w : World) (hn : n ≤ 1000) (hr : (isM n M && decide ((0 ≤ x ∧ x ≤ 100) ∧ 0 ≤ y ∧ y ≤ 100)) = r) (hM : Ords w a n M) :
    Calls Try.prog 30 #[.slice a n cap, .agg #[.int .i64 x, .int .i64 y]] w fun r' w' => SomeB r w r' w' := by
  have hv := fun o1 => mvalid_any a n cap M (w.alloc o1) hn (hM.keep (Nat.le_refl _) (one_le _ _))
  cases h1 : isM n M
  · rw [h1] at hr hv
    simp at hr
    have HV := Lib.hid hv
    have HR := Lib.hid hr
    clear hv hM hr h1
    go_enter Try.func30, Try.ntmps30
    go_wp2_with fail
    refine (HV.out _).mono ?_
    rintro r2 w2 ⟨rfl, hb⟩
    have HB : Hid (Below w.heap.size w w2) := band (one_le _ _) hb
    clear hb
    go_wp2
    go_ret
    exact ⟨by rw [← HR.out]; rfl, HB.out⟩
  · rw [h1] at hr hv
    simp at hr
    have HV := Lib.hid hv
    have hb2 : ∀ W2 b T, W2.heap[b]? = some (.cells #[.int .i64 x, .int .i64 y] T) → Calls Try.prog 31 #[.int .i64 0, .int .i64 100, .slice (some ⟨b, 0, none⟩) 2 2] W2 fun e w' => e = .returned (.bool r) ∧ W2 = w' :=
      fun W2 b T h => between_two r b _ T x y 0 100 W2 h rfl rfl (by rw [← hr]; simp)
    have HB2 := Lib.hid hb2
    clear hv hM hr h1 hb2
    go_enter Try.func30, Try.ntmps30
    go_wp2_with fail
    refine (HV.out _).mono ?_
    rintro r2 w2 ⟨rfl, hb⟩
    have HK := Lib.hid ((hb.block w.heap.size (by simp)).trans (heap_alloc_new w _))
    have HB : Hid (Below w.heap.size w w2) := band (one_le _ _) hb
    have hl := (Array.getElem?_eq_some_iff.1 HK.out).1
    have c0 := block_cell HK.out 0
    have c1 := block_cell HK.out 1
    simp at c0 c1
    clear hb
    go_wp2_with fail
    refine (HB2.out _ _ _ HK.out).mono ?_
    rintro r2 w3 ⟨rfl, rfl⟩
    go_wp2
    go_ret
    exact ⟨rfl, HB.out⟩

set_option maxHeartbeats 1000000 in
set_option maxRecDepth 100000 in
theorem run_any (N : Nat → QN) (n cap : Nat) (a : Option Addr) (x y m : Nat) (w : World) (hN : okN n N) (hx : x ≤ 100) (hy : y ≤ 100) (hm : m ≤ 1000) (hM : Ords w a n (fun k => (N k).z)) :
    Calls Try.prog 32 #[.slice a n cap, .agg #[.int .i64 x, .int .i64 y], .int .i64 m] w fun r w' => r = .returned (.tuple #[plV (pl N ⟨0, x, y⟩ m), .int .i64 (dn N ⟨0, x, y⟩ m)]) ∧ Below w.heap.size w w' := by
  have HM := Lib.hid hM
  have HN := Lib.hid hN
  have hl0 : (⟨0, x, y⟩ : Pl).o < n := hN.pos
  have HP := Lib.hid (fun k => pl_lt hN hl0 k)
  have HL := Lib.hid (fun k => pl_le (N := N) (s := ⟨0, x, y⟩) k)
  have hn : n ≤ 1000 := by have := hN.few; omega
  have P0 : Hid (pl N ⟨0, x, y⟩ 0 = ⟨0, x, y⟩) := rfl
  generalize hs : (⟨0, x, y⟩ : Pl) = s at *
  have HS := Lib.hid hs
  clear hM hN hl0 hs
  go_enter Try.func32, Try.ntmps32
  go_wp2
  go_loopw [9, 13] (fun _ i wr => ∃ k : Nat, k ≤ m ∧ i = .int .i64 k ∧ Below w.heap.size w wr ∧ At3 wr (w.heap.size + 1) (.int .i64 0) (.int .i64 0) (.int .i64 0) ∧
    At3 wr (w.heap.size + 1 + 1) (.int .i64 (pl N s k).o) (.int .i64 (pl N s k).x) (.int .i64 (pl N s k).y) ∧ Hid (∀ j, j < k → isEnd N (pl N s j) = false)) (fun _ i _ => m - (intOf i).toNat)
  case atStart =>
    refine ⟨0, Nat.zero_le _, rfl, (two_le w _ _).alloc (by simp; omega) _, ?_, ?_, fun j hj => absurd hj (Nat.not_lt_zero _)⟩
    · exact At3.of ((Below.heap_alloc _ _ _ (by simp)).trans (heap_two2 w _ _))
    · rw [P0.out, ← HS.out]
      refine At3.of (T := 62) ?_
      have := heap_two2 (w.alloc (.cells #[.int .i64 x, .int .i64 y] 23)) (.cells #[.int .i64 0, .int .i64 0, .int .i64 0] 62) (.cells #[.int .i64 0, .int .i64 x, .int .i64 y] 62)
      simpa using this
  case round =>
    obtain ⟨k, hk, rfl, hB, hr, hq, hend⟩ := hrel
    have HB := Lib.hid hB
    have HRB := Lib.hid hr
    have HQB := Lib.hid hq
    have hsz := hB.size
    have hl1 := hr.lt
    have hl2 := hq.lt
    obtain ⟨r0, r1, r2, rf0, rf1, rf2⟩ := hr
    obtain ⟨q0, q1, q2, qf0, qf1, qf2⟩ := hq
    clear hB
    by_cases hlt : k < m
    · cases hE : isEnd N (pl N s k)
      · have HE := Lib.hid (ended_any N n cap a (pl N s k) wr hn (HP.out k) HN.out (HM.out.keep (Nat.le_refl _) HB.out))
        have HSt := Lib.hid (fun W (hW : Below w.heap.size w W) => step_any N n cap a (pl N s k) W hn (HP.out k) (by have h1 := (HL.out k).1; have h2 : s.x = x := (by rw [← HS.out]); omega) (by have h1 := (HL.out k).2; have h2 : s.y = y := (by rw [← HS.out]); omega) HN.out hE (HM.out.keep (Nat.le_refl _) hW))
        have hend' : Hid (∀ j, j < k + 1 → isEnd N (pl N s j) = false) := by
          intro j hj
          by_cases e : j = k
          · subst e; exact hE
          · exact hend.out j (by omega)
        have HE0 := Lib.hid hE
        have HPS := Lib.hid (pl_succ hE)
        clear hE
        go_wp2_with fail
        refine HE.out.mono ?_
        rintro r w2 ⟨rfl, hb2⟩
        rw [HE0.out]
        have HB2 : Hid (Below w.heap.size w w2) := HB.out.trans (hb2.mono hsz)
        have HR2 := Lib.hid (HRB.out.keep hb2)
        have HQ2 := Lib.hid (HQB.out.keep hb2)
        obtain ⟨q0, q1, q2, qf0, qf1, qf2⟩ := HQ2.out
        have hl3 := HQ2.out.lt
        clear hb2
        go_wp2_with fail
        refine (HSt.out _ HB2.out).mono ?_
        rintro r w3 ⟨rfl, hb3⟩
        have HB3 : Hid (Below w.heap.size w w3) := HB2.out.trans (hb3.mono HB2.out.size)
        have HR3 := Lib.hid (HR2.out.keep hb3)
        have HQ3 := Lib.hid (HQ2.out.keep hb3)
        obtain ⟨q0, q1, q2, qf0, qf1, qf2⟩ := HQ3.out
        have hl4 := HQ3.out.lt
        clear hb3
        go_wp2
        go_roundw
        case rel =>
          refine ⟨k + 1, by omega, by go_num, below_set3 HB3.out (by omega) _ _ _, HR3.out.far (by omega) _ _ _, ?_, hend'⟩
          rw [HPS.out]
          exact HQ3.out.set _ _ _
        case measure => simp [intOf]; omega
      · have HE := Lib.hid (ended_any N n cap a (pl N s k) wr hn (HP.out k) HN.out (HM.out.keep (Nat.le_refl _) HB.out))
        have HE0 := Lib.hid hE
        have hat := pl_at hE (show k ≤ m by omega)
        rw [dn_go k hend.out] at hat
        have HA := Lib.hid hat
        clear hE hat
        go_wp2_with fail
        refine HE.out.mono ?_
        rintro r w2 ⟨rfl, hb2⟩
        rw [HE0.out]
        have HB2 : Hid (Below w.heap.size w w2) := HB.out.trans (hb2.mono hsz)
        obtain ⟨q0, q1, q2, qf0, qf1, qf2⟩ := HQB.out.keep hb2
        obtain ⟨r0, r1, r2, rf0, rf1, rf2⟩ := HRB.out.keep hb2
        have hl3 := (HQB.out.keep hb2).lt
        have hl4 := (HRB.out.keep hb2).lt
        clear hb2
        go_wp2
        refine bodyPost_ret (v := .tuple #[plV (pl N s k), .int .i64 k]) ?_ rfl ⟨by rw [HA.out.1, HA.out.2], below_set3 HB2.out (by omega) _ _ _⟩
        simp [results, Try.results32, go_sem, plV, r0, r1, r2]
    · have e : m = k := by omega
      have HA := Lib.hid (dn_go k hend.out)
      subst e
      go_wp2
      refine bodyPost_ret (v := .tuple #[plV (pl N s m), .int .i64 m]) ?_ rfl ⟨by rw [HA.out], below_set3 HB.out (by omega) _ _ _⟩
      simp [results, Try.results32, go_sem, plV, r0, r1, r2]
end Go.Proofs.Ytiegingpmcloeaa
