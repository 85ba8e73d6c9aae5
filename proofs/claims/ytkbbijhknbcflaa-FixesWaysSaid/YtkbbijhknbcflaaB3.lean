import Derived.Test.YtkbbijhknbcflaaB2
/-
  The program's Always.
-/
namespace Go.Proofs.Ytkbbijhknbcflaa
open Go.RowKit Go.Shelf

set_option maxHeartbeats 4000000 in
set_option maxRecDepth 100000 in
theorem fAlways_good (aN : Option Addr) (n cN : Nat) (aM : Option Addr) (m cM : Nat) (T L : Nat → Int) (s : Nat) (w : World) (hv : isWk n m T L = true) (hs : s < 2 ^ n) (hT : Ints w aN n T) (hL : Ints w aM m L) :
    Calls Try.prog 10 #[wkV aN n cN aM m cM, .int .i64 (s : Int)] w fun e w' => NumOut (fixp true n (stF n (nat T) s) : Nat) 0 w e w' := by
  obtain ⟨k, hk, hF⟩ := (stF_mono (n := n) (nx := nat T) (s := s)).first true
  have HE := Lib.hid (hF.stay hk)
  obtain ⟨h1, h6, hmn, _⟩ := isWk_iff.1 hv
  subst hmn
  obtain ⟨W, hW⟩ : ∃ W, W = (w.alloc (.cells #[.slice aN m cN, .slice aM m cM] 28)).alloc (.cells #[.int .i64 (s : Int)] 3) := ⟨_, rfl⟩
  have HB0 : Hid (Below w.heap.size w W) := by rw [hW]; exact below_two _ _ _
  have HC0 : Hid (CB3 (w.heap.size + 1) w.heap.size s aN m cN aM m cM W) := by rw [hW]; exact CB3.start _ _ _ _ _ _ _ _
  have hTW := hT.keep (Nat.le_refl _) HB0.out
  have hLW := hL.keep (Nat.le_refl _) HB0.out
  have HWk := Lib.hid (wk_of hv hTW hLW)
  have HV := Lib.hid (valid_r true aN m cN aM m cM T L W hv (by omega) (by omega) hTW hLW)
  have HS := Lib.hid (fun W => isSet_any true aN m cN aM m cM (s : Int) W (by omega) (decide_eq_true ⟨by omega, by have := Nat.one_le_two_pow (n := m); omega⟩))
  have HW := Lib.hid hW
  have hz : W.heap.size = w.heap.size + 2 := by rw [hW]; simp
  have HFst := Lib.hid hF
  have Hs := Lib.hid hs
  clear hW hTW hLW hT hL hF hs hv
  obtain ⟨q0, q1, q2⟩ := HC0.out
  go_enter Try.func10, Try.ntmps10
  go_wp2_with fail
  rw [← HW.out]
  refine HV.out.mono ?_
  rintro e w1 ⟨rfl, hb1⟩
  have HC1 := Lib.hid (HC0.out.keep hb1)
  have HB1 := Lib.hid (HB0.out.trans (hb1.mono (by omega)))
  have HK1 := Lib.hid (HWk.out.keep (Nat.le_refl _) hb1)
  clear hb1 q0 q1 q2
  obtain ⟨q0, q1, q2⟩ := HC1.out
  go_wp2_with fail
  refine (HS.out _).mono ?_
  rintro e w2 ⟨rfl, hb2⟩
  have HC2 := Lib.hid (HC1.out.keep hb2)
  have HB2 := Lib.hid (HB1.out.trans (hb2.mono HB1.out.size))
  have HK2 := Lib.hid (HK1.out.keep (Nat.le_refl _) hb2)
  clear hb2 q0 q1 q2
  obtain ⟨q0, q1, q2⟩ := HC2.out
  go_wp2_with fail
  refine (all_any aN m cN aM m cM w2 (by omega)).mono ?_
  rintro e w22 ⟨rfl, hb2⟩
  have HC2 := Lib.hid (HC2.out.keep hb2)
  have HB2 := Lib.hid (HB2.out.trans (hb2.mono HB2.out.size))
  have HK2 := Lib.hid (HK2.out.keep (Nat.le_refl _) hb2)
  clear hb2 q0 q1 q2
  obtain ⟨q0, q1, q2⟩ := HC2.out
  have HSet := Lib.hid (settle_any (stF m (nat T) s) m (2 ^ m - 1) k 32 #[.pointer (some ⟨w.heap.size + 1, 0, none⟩), .pointer (some ⟨w.heap.size, 0, none⟩)] (fun _ W => Below w22.heap.size w22 W) w22 h6
    (fun X hX => (stF_mono (n := m) (nx := nat T) (s := s)).lt hX) (all_lt m) HFst.out hk (enters_of Try.func32 (by kernel_rfl) rfl)
    (fun X hX i W hb => by
      have hc := HC2.out.keep hb
      exact (always1_any aN m cN aM cM (nat T) (nat L) s X _ _ W (HK2.out.keep (Nat.le_refl _) hb) Hs.out hX hc.c0 hc.c1 hc.c2).mono fun e W' h => ⟨h.1, hb.trans (h.2.mono hb.size)⟩)
    (Below.refl _ _))
  go_wp2_with fail
  refine HSet.out.mono ?_
  rintro e w3 ⟨rfl, hb3⟩
  have HB3 : Hid (Below w.heap.size w w3) := HB2.out.trans (hb3.mono HB2.out.size)
  have HR : Hid (iter (stF m (nat T) s) (2 ^ m - 1) k = fixp true m (stF m (nat T) s)) := HE.out.symm
  clear hb3
  go_wp2
  exact bodyPost_ret (v := .tuple #[.int .i64 (fixp true m (stF m (nat T) s) : Nat), .int .i64 0]) (by simp [results, Try.results10, go_sem, HR.out]) rfl ⟨rfl, HB3.out⟩

set_option maxHeartbeats 4000000 in
set_option maxRecDepth 100000 in
theorem fAlways_bad (aN : Option Addr) (n cN : Nat) (aM : Option Addr) (m cM : Nat) (T L : Nat → Int) (s : Int) (w : World) (hn : n ≤ 9) (hm : m ≤ 9) (hb : isWk n m T L = false ∨ ¬ (0 ≤ s ∧ s ≤ ((2 ^ n - 1 : Nat) : Int))) (hT : Ints w aN n T) (hL : Ints w aM m L) :
    Calls Try.prog 10 #[wkV aN n cN aM m cM, .int .i64 s] w fun e w' => NumOut 0 2 w e w' := by
  obtain ⟨W, hW⟩ : ∃ W, W = (w.alloc (.cells #[.slice aN n cN, .slice aM m cM] 28)).alloc (.cells #[.int .i64 s] 3) := ⟨_, rfl⟩
  have HB0 : Hid (Below w.heap.size w W) := by rw [hW]; exact below_two _ _ _
  have HC0 : Hid (CB3 (w.heap.size + 1) w.heap.size s aN n cN aM m cM W) := by rw [hW]; exact CB3.start _ _ _ _ _ _ _ _
  have hTW := hT.keep (Nat.le_refl _) HB0.out
  have hLW := hL.keep (Nat.le_refl _) HB0.out
  have HW := Lib.hid hW
  have hz : W.heap.size = w.heap.size + 2 := by rw [hW]; simp
  cases hv : isWk n m T L
  · have HV := Lib.hid (valid_r false aN n cN aM m cM T L W hv hn hm hTW hLW)
    clear hW hTW hLW hT hL hb hv
    obtain ⟨q0, q1, q2⟩ := HC0.out
    go_enter Try.func10, Try.ntmps10
    go_wp2_with fail
    rw [← HW.out]
    refine HV.out.mono ?_
    rintro e w1 ⟨rfl, hb1⟩
    have HB1 := Lib.hid (HB0.out.trans (hb1.mono (by omega)))
    clear hb1 q0 q1 q2
    go_wp2
    exact bodyPost_ret (v := .tuple #[.int .i64 0, .int .i64 2]) (by simp [results, Try.results10, go_sem]) rfl ⟨rfl, HB1.out⟩
  · have hs : ¬ (0 ≤ s ∧ s ≤ ((2 ^ n - 1 : Nat) : Int)) := hb.resolve_left (by rw [hv]; decide)
    have HV := Lib.hid (valid_r true aN n cN aM m cM T L W hv hn hm hTW hLW)
    have HS := Lib.hid (fun W => isSet_any false aN n cN aM m cM s W hn (decide_eq_false hs))
    clear hW hTW hLW hT hL hb hv hs
    obtain ⟨q0, q1, q2⟩ := HC0.out
    go_enter Try.func10, Try.ntmps10
    go_wp2_with fail
    rw [← HW.out]
    refine HV.out.mono ?_
    rintro e w1 ⟨rfl, hb1⟩
    have HC1 := Lib.hid (HC0.out.keep hb1)
    have HB1 := Lib.hid (HB0.out.trans (hb1.mono (by omega)))
    clear hb1 q0 q1 q2
    obtain ⟨q0, q1, q2⟩ := HC1.out
    go_wp2_with fail
    refine (HS.out _).mono ?_
    rintro e w2 ⟨rfl, hb2⟩
    have HB2 := Lib.hid (HB1.out.trans (hb2.mono HB1.out.size))
    clear hb2 q0 q1 q2
    go_wp2
    exact bodyPost_ret (v := .tuple #[.int .i64 0, .int .i64 2]) (by simp [results, Try.results10, go_sem]) rfl ⟨rfl, HB2.out⟩
end Go.Proofs.Ytkbbijhknbcflaa
