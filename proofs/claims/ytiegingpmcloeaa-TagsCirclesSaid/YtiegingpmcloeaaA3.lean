import Derived.Test.YtiegingpmcloeaaA2
namespace Go.Proofs.Ytiegingpmcloeaa
open Go.RowKit

set_option maxHeartbeats 4000000 in
set_option maxRecDepth 100000 in
theorem mvalid_any (a : Option Addr) (n cap : Nat) (M : Nat → Q) (w : World) (hn : n ≤ 1000) (hM : Ords w a n M) :
    Calls Try.prog 38 #[.slice a n cap] w fun r w' => SomeB (isM n M) w r w' := by
  have HM := Lib.hid hM
  clear hM
  by_cases h1 : 1 ≤ n ∧ n ≤ 8
  · have H1 := Lib.hid h1
    have hb : ∀ W2 b T, W2.heap[b]? = some (.cells #[.int .i64 n] T) → Calls Try.prog 31 #[.int .i64 1, .int .i64 8, .slice (some ⟨b, 0, none⟩) 1 1] W2 fun e w' => e = .returned (.bool true) ∧ W2 = w' :=
      fun W2 b T h => between_one true b _ T n 1 8 W2 h rfl (by simp; omega)
    have HB := Lib.hid hb
    clear hb h1
    go_enter Try.func38, Try.ntmps38
    go_wp2_with fail
    refine (HB.out _ _ _ (heap_alloc_new _ _)).mono ?_
    rintro e w2 ⟨rfl, rfl⟩
    go_wp2
    go_loopw [12] (fun i wr => ∃ k : Nat, k ≤ n ∧ i = .int .i64 k ∧ Below w.heap.size w wr ∧ Hid (∀ j, j < k → okQ n (M j))) (fun i _ => n - (intOf i).toNat)
    case atStart => exact ⟨0, Nat.zero_le _, rfl, one_le _ _, fun j hj => absurd hj (Nat.not_lt_zero _)⟩
    case round =>
      obtain ⟨k, hk, rfl, hB, hr⟩ := hrel
      have HB := Lib.hid hB
      have hsz := hB.size
      clear hB
      by_cases hlt : k < n
      · obtain ⟨b, o, rfl, c0, c1, c2, c3⟩ := (HM.out.keep (Nat.le_refl _) HB.out) k hlt
        have hbl := World.block_lt_of_cell? _ _ c0
        by_cases hq : okQ n (M k)
        · have hn' : Hid (∀ j, j < k + 1 → okQ n (M j)) := by
            intro j hj
            by_cases e : j = k
            · subst e; exact hq
            · exact hr.out j (by omega)
          have HO := Lib.hid (fun W => ovalid_any (M k).d (M k).j (M k).t (M k).e n W hn)
          have HR : Hid (okB n ⟨(M k).d, (M k).j, (M k).t, (M k).e⟩ = true) := okB_iff.2 hq
          clear hq
          go_wp2_with fail
          refine (HO.out _).mono ?_
          rintro r w3 ⟨rfl, hb3⟩
          rw [HR.out]
          have HB3 : Hid (Below w.heap.size w w3) := band HB.out (band (one_le _ _) hb3)
          clear hb3
          go_wp2
          go_roundw
          case rel => exact ⟨k + 1, by omega, by go_num, HB3.out, hn'⟩
          case measure => simp [intOf]; omega
        · have hf : Hid (isM n M = false) := isM_no (fun h => hq (h.2.2 k hlt))
          have HO := Lib.hid (fun W => ovalid_any (M k).d (M k).j (M k).t (M k).e n W hn)
          have HR : Hid (okB n ⟨(M k).d, (M k).j, (M k).t, (M k).e⟩ = false) := okB_no hq
          clear hq
          go_wp2_with fail
          refine (HO.out _).mono ?_
          rintro r w3 ⟨rfl, hb3⟩
          rw [HR.out]
          have HB3 : Hid (Below w.heap.size w w3) := band HB.out (band (one_le _ _) hb3)
          clear hb3
          go_wp2
          go_ret
          exact ⟨by rw [hf.out]; rfl, HB3.out⟩
      · have e : n = k := by omega
        subst e
        have hf : Hid (isM n M = true) := isM_iff.2 ⟨H1.out.1, H1.out.2, hr.out⟩
        go_wp2
        go_ret
        exact ⟨by rw [hf.out]; rfl, HB.out⟩
  · have H : Hid (isM n M = false) := isM_no (fun h => h1 ⟨h.1, h.2.1⟩)
    have hb : ∀ W2 b T, W2.heap[b]? = some (.cells #[.int .i64 n] T) → Calls Try.prog 31 #[.int .i64 1, .int .i64 8, .slice (some ⟨b, 0, none⟩) 1 1] W2 fun e w' => e = .returned (.bool false) ∧ W2 = w' :=
      fun W2 b T h => between_one false b _ T n 1 8 W2 h rfl (by simp; omega)
    have HB := Lib.hid hb
    clear hb h1
    go_enter Try.func38, Try.ntmps38
    go_wp2_with fail
    refine (HB.out _ _ _ (heap_alloc_new _ _)).mono ?_
    rintro e w2 ⟨rfl, rfl⟩
    go_wp2
    go_ret
    exact ⟨by rw [H.out]; rfl, one_le _ _⟩

abbrev plV (p : Pl) : Value := .agg #[.int .i64 p.o, .int .i64 p.x, .int .i64 p.y]

theorem ended_any (N : Nat → QN) (n cap : Nat) (a : Option Addr) (p : Pl) (w : World) (_hn : n ≤ 1000) (hp : p.o < n) (hN : okN n N) (hM : Ords w a n (fun k => (N k).z)) :
    Calls Try.prog 34 #[.slice a n cap, plV p] w fun r w' => SomeB (isEnd N p) w r w' := by
  obtain ⟨b, o, rfl, c0, c1, c2, c3⟩ := hM.at hp
  have hlt := World.block_lt_of_cell? _ _ c0
  have hu := hN.u p.o hp
  clear hM hN
  by_cases h : (N p.o).d = 0
  · have H : Hid (isEnd N p = true) := decide_eq_true h
    have e0 : ((N p.o).d : Int) = 0 := by omega
    have e1 : ((N p.o).j : Int) = 0 := by omega
    have e2 : ((N p.o).t : Int) = 0 := by omega
    have e3 : ((N p.o).e : Int) = 0 := by omega
    rw [e0] at c0; rw [e1] at c1; rw [e2] at c2; rw [e3] at c3
    clear e0 e1 e2 e3 hu h
    go_enter Try.func34, Try.ntmps34
    go_wp2
    go_ret
    exact ⟨by rw [H.out]; rfl, one_le _ _⟩
  · have H : Hid (isEnd N p = false) := decide_eq_false h
    clear hu
    go_enter Try.func34, Try.ntmps34
    go_wp2
    go_ret
    exact ⟨by rw [H.out]; rfl, one_le _ _⟩

set_option maxHeartbeats 1000000 in
theorem empty_any (N : Nat → QN) (n cap : Nat) (a : Option Addr) (p : Pl) (w : World) (_hn : n ≤ 1000) (hp : p.o < n) (hN : okN n N) (hM : Ords w a n (fun k => (N k).z)) :
    Calls Try.prog 41 #[.slice a n cap, plV p] w fun r w' => SomeB (noB N p) w r w' := by
  obtain ⟨b, o, rfl, c0, c1, c2, c3⟩ := hM.at hp
  have hlt := World.block_lt_of_cell? _ _ c0
  have hj := hN.j p.o hp
  have HB := Lib.hid (two_le w)
  clear hM hN
  by_cases h : (N p.o).d = 2
  · have e0 : ((N p.o).d : Int) = 2 := by omega
    rw [e0] at c0
    have hj' : (N p.o).j = 0 ∨ (N p.o).j = 1 := by omega
    rcases hj' with j | j
    · have e1 : ((N p.o).j : Int) = 0 := by omega
      rw [e1] at c1
      by_cases hx : p.x = 0
      · have H : Hid (noB N p = true) := decide_eq_true ⟨h, by simp [Pl.jar, j, hx]⟩
        have ex : (p.x : Int) = 0 := by omega
        simp only [plV, ex]
        clear e0 e1 h j hj hx ex
        go_enter Try.func41, Try.ntmps41
        go_wp2
        go_ret
        exact ⟨by rw [H.out]; rfl, HB.out _ _⟩
      · have H : Hid (noB N p = false) := decide_eq_false (fun hh => hx (by simpa [Pl.jar, j] using hh.2))
        have K : ((p.x : Int) == 0) = false := by simpa using hx
        clear e0 e1 h j hj hx
        go_enter Try.func41, Try.ntmps41
        go_wp2
        go_ret
        exact ⟨by rw [H.out]; rfl, HB.out _ _⟩
    · have e1 : ((N p.o).j : Int) = 1 := by omega
      rw [e1] at c1
      by_cases hx : p.y = 0
      · have H : Hid (noB N p = true) := decide_eq_true ⟨h, by simp [Pl.jar, j, hx]⟩
        have ex : (p.y : Int) = 0 := by omega
        simp only [plV, ex]
        clear e0 e1 h j hj hx ex
        go_enter Try.func41, Try.ntmps41
        go_wp2
        go_ret
        exact ⟨by rw [H.out]; rfl, HB.out _ _⟩
      · have H : Hid (noB N p = false) := decide_eq_false (fun hh => hx (by simpa [Pl.jar, j] using hh.2))
        have K : ((p.y : Int) == 0) = false := by simpa using hx
        clear e0 e1 h j hj hx
        go_enter Try.func41, Try.ntmps41
        go_wp2
        go_ret
        exact ⟨by rw [H.out]; rfl, HB.out _ _⟩
  · have H : Hid (noB N p = false) := decide_eq_false (fun hh => h hh.1)
    have h2 : ¬ ((N p.o).d : Int) = 2 := by omega
    clear hj h
    go_enter Try.func41, Try.ntmps41
    go_wp2
    go_ret
    exact ⟨by rw [H.out]; rfl, HB.out _ _⟩

end Go.Proofs.Ytiegingpmcloeaa
