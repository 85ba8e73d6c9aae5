import Derived.Test.YtiegingpmcloeaaB6
import Derived.Test.YtiegingpmcloeaaC3
namespace Go.Proofs.Ytiegingpmcloeaa
open Go.RowKit

set_option maxHeartbeats 1000000 in
set_option maxRecDepth 100000 in
theorem rcheck_any (N : Nat → QN) (n cap : Nat) (a : Option Addr) (x y : Nat) (i j : Int) (w : World) (hN : okN n N) (hx : x ≤ 100) (hy : y ≤ 100) (hM : Ords w a n (fun k => (N k).z)) :
    Calls Try.prog 21 #[.slice a n cap, .agg #[.int .i64 x, .int .i64 y], .agg #[.int .i64 i, .int .i64 j]] w fun r w' => SomeB (ckB N ⟨0, x, y⟩ (dn N ⟨0, x, y⟩ 1000 + 1) i j) w r w' := by
  have HPl : Hid (∀ W, Below w.heap.size w W → Calls Try.prog 33 #[.slice a n cap, .agg #[.int .i64 x, .int .i64 y], .int .i64 1000] W fun r w' => PlOut N ⟨0, x, y⟩ 1000 W r w') :=
    fun W hW => rplaces_any N n cap a x y 1000 W hN hx hy (by omega) (hM.keep (Nat.le_refl _) hW)
  unfold PlOut at HPl
  have hs := pl_lt hN (show (⟨0, x, y⟩ : Pl).o < n from hN.pos)
  have hdm := dn_le (N := N) (s := ⟨0, x, y⟩) 1000
  have HIs := Lib.hid (fun W al cl (i j : Nat) (h0 : i < j) (h00 : j < dn N ⟨0, x, y⟩ 1000 + 1) h1 h2 hP => riscircle N (pl N ⟨0, x, y⟩) n W al (dn N ⟨0, x, y⟩ 1000 + 1) cl i j (by omega) h1 h2 h0 h00 hN hP hs)
  generalize (⟨0, x, y⟩ : Pl) = s at *
  generalize hm : dn N s 1000 + 1 = m at *
  generalize hE : isEnd N (pl N s 1000) = eE at *
  have hm2 : m ≤ 1001 := by omega
  have hm3 : 1 ≤ m := by omega
  clear hM hN hm hE hdm hs
  go_enter Try.func21, Try.ntmps21
  go_wp2_with fail
  refine (HPl.out _ (two_le _ _ _)).mono ?_
  rintro r w3 ⟨v, rfl, hO, hb3⟩
  obtain ⟨al, cl, rfl, h1, h2, hC⟩ := rplace_list hO
  have H1 := Lib.hid h1
  have H2 := Lib.hid h2
  have HC3 := Lib.hid hC
  have HB3 := Lib.hid (band (two_le _ _ _) hb3)
  have hA3 := At2.of ((hb3.block (w.heap.size + 1) (by simp)).trans (heap_two2 w _ _))
  have hl3 := hA3.lt
  obtain ⟨z0, z1, _, _⟩ := hA3
  clear hO hb3 h2 hC
  by_cases c1 : 0 ≤ i
  · by_cases c2 : i < j
    · by_cases c3 : j < m
      · obtain ⟨I, rfl⟩ : ∃ I : Nat, i = I := ⟨i.toNat, by omega⟩
        obtain ⟨J, rfl⟩ : ∃ J : Nat, j = J := ⟨j.toNat, by omega⟩
        have hI := Lib.hid (show I < J by omega)
        have hJ := Lib.hid (show J < m by omega)
        have HR : Hid (ckB N s m I J = decide (circR N (pl N s) I J)) := by unfold Hid ckB; rw [decide_eq_true ⟨c1, c2, c3⟩]; simp [isC]
        have K2 : decide (I < J) = true := by simpa using hI.out
        have K3 : decide (J < m) = true := by simpa using hJ.out
        clear c1 c2 c3
        go_wp2_with fail
        refine (HIs.out _ _ _ _ _ hI.out hJ.out H1.out H2.out HC3.out).mono ?_
        rintro r w4 ⟨rfl, hb4⟩
        have HB4 := Lib.hid (band HB3.out hb4)
        clear hb4
        go_wp2
        go_ret
        exact ⟨by rw [HR.out]; rfl, HB4.out⟩
      · have HR : Hid (ckB N s m i j = false) := by unfold Hid ckB; rw [decide_eq_false (fun h => c3 h.2.2)]; rfl
        have K1 : decide (0 ≤ i) = true := by simpa using c1
        have K2 : decide (i < j) = true := by simpa using c2
        have K3 : decide (j < (m : Int)) = false := by simpa using c3
        clear c1 c2 c3
        go_wp2
        go_ret
        exact ⟨by rw [HR.out]; rfl, HB3.out⟩
    · have HR : Hid (ckB N s m i j = false) := by unfold Hid ckB; rw [decide_eq_false (fun h => c2 h.2.1)]; rfl
      have K1 : decide (0 ≤ i) = true := by simpa using c1
      have K2 : decide (i < j) = false := by simpa using c2
      clear c1 c2
      go_wp2
      go_ret
      exact ⟨by rw [HR.out]; rfl, HB3.out⟩
  · have HR : Hid (ckB N s m i j = false) := by unfold Hid ckB; rw [decide_eq_false (fun h => c1 h.1)]; rfl
    have K1 : decide (0 ≤ i) = false := by simpa using c1
    clear c1
    go_wp2
    go_ret
    exact ⟨by rw [HR.out]; rfl, HB3.out⟩

end Go.Proofs.Ytiegingpmcloeaa
