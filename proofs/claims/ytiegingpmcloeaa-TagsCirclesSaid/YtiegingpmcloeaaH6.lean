import Derived.Test.YtiegingpmcloeaaH2
import Derived.Test.YtiegingpmcloeaaH3
import Derived.Test.YtiegingpmcloeaaH4
import Derived.Test.YtiegingpmcloeaaH5
namespace Go.Proofs.Ytiegingpmcloeaa
open Go.RowKit

theorem circ_core (W : World) (a : Option Addr) (n cap : Nat) (M : Nat → Q) (_hn : n ≤ cap) (hn8 : n ≤ 140737488351232) (hM : Ords W a n M) (x y : Int) (_hx : -9223372036854775808 ≤ x ∧ x ≤ 9223372036854775807) (_hy : -9223372036854775808 ≤ y ∧ y ≤ 9223372036854775807)
    (i : Int) (_hi : -9223372036854775808 ≤ i ∧ i ≤ 9223372036854775807) (j : Int) (_hj : -9223372036854775808 ≤ j ∧ j ≤ 9223372036854775807) :
    Calls Try.prog 6 #[.slice a n cap, .agg #[.int .i64 x, .int .i64 y], .int .i64 i, .int .i64 j] W fun e W' => SomeB true W e W' := by
  cases h : isM n M
  · exact circ_bad1 W a n cap M hn8 hM x y i j h
  · cases h2 : jB x y
    · exact circ_bad2 W a n cap M hn8 hM x y i j h h2
    · obtain ⟨N, hN, hq⟩ := isM_nat h
      have hM' := hM.congr hq
      have hb := of_decide_eq_true h2
      obtain ⟨X, rfl⟩ : ∃ X : Nat, x = X := ⟨x.toNat, by omega⟩
      obtain ⟨Y, rfl⟩ : ∃ Y : Nat, y = Y := ⟨y.toNat, by omega⟩
      have hX : X ≤ 100 := by omega
      have hY : Y ≤ 100 := by omega
      obtain ⟨I, hI, eI⟩ := conv 201 (by omega) (by omega) i
      obtain ⟨J, hJ, eJ⟩ := conv 201 (by omega) (by omega) j
      have HeI := Lib.hid eI
      have HeJ := Lib.hid eJ
      clear eI eJ
      have hI' : I < 201 := by omega
      have hJ' : J < 201 := by omega
      have hs : (⟨0, X, Y⟩ : Pl).o < n := hN.pos
      obtain ⟨ci, cj, e, hF⟩ := findC_exists N ⟨0, X, Y⟩ (dn N ⟨0, X, Y⟩ 200 + 1)
      have hD := dn_le (N := N) (s := ⟨0, X, Y⟩) 1000
      have hD2 := dn_le (N := N) (s := ⟨0, X, Y⟩) 200
      have hmono := dn_mono (N := N) (s := ⟨0, X, Y⟩) (show 200 ≤ 1000 by omega)
      have hmonoJ := dn_mono (N := N) (s := ⟨0, X, Y⟩) (show J ≤ 200 by omega)
      have hbef := dn_before (N := N) (s := ⟨0, X, Y⟩) 1000
      have hdJ := dn_le (N := N) (s := ⟨0, X, Y⟩) J
      have hnE : endsK N ⟨0, X, Y⟩ ≤ 1000 := by unfold endsK; split <;> omega
      -- a circle whose end was come to: the run never ends
      have hcirc : ∀ i j : Nat, ckB N ⟨0, X, Y⟩ (dn N ⟨0, X, Y⟩ 1000 + 1) i j = true → i < j ∧ j ≤ dn N ⟨0, X, Y⟩ 1000 ∧ circ N (pl N ⟨0, X, Y⟩) i j ∧ endsE N ⟨0, X, Y⟩ = 4 := by
        intro i j hc
        unfold ckB at hc
        simp only [Bool.and_eq_true, decide_eq_true_eq] at hc
        obtain ⟨⟨c1, c2, c3⟩, c4⟩ := hc
        have c5 : circ N (pl N ⟨0, X, Y⟩) i j := isC_iff.1 c4
        have c6 : i < j := by omega
        have c7 : j ≤ dn N ⟨0, X, Y⟩ 1000 := by omega
        have c8 := circ_never hN hs c6 (fun k hk => hbef k (by omega)) c5
        refine ⟨c6, c7, c5, ?_⟩
        unfold endsE; rw [c8 1000]; rfl
      -- a pair of numbers at which the run is at the same place
      have hsame : I < J → dn N ⟨0, X, Y⟩ I = I → dn N ⟨0, X, Y⟩ J = J → (pl N ⟨0, X, Y⟩ I).o = (pl N ⟨0, X, Y⟩ J).o → (pl N ⟨0, X, Y⟩ I).x = (pl N ⟨0, X, Y⟩ J).x → (pl N ⟨0, X, Y⟩ I).y = (pl N ⟨0, X, Y⟩ J).y → isC N ⟨0, X, Y⟩ I J = true := by
        intro _ _ _ h1 h2 h3
        refine isC_iff.2 (circ_same ?_)
        generalize pl N ⟨0, X, Y⟩ I = q1 at *
        generalize pl N ⟨0, X, Y⟩ J = q2 at *
        obtain ⟨_, _, _⟩ := q1
        obtain ⟨_, _, _⟩ := q2
        simp only at h1 h2 h3
        subst h1 h2 h3; rfl
      have hckIJ : I < J → dn N ⟨0, X, Y⟩ J = J → isC N ⟨0, X, Y⟩ I J = true → ckB N ⟨0, X, Y⟩ (dn N ⟨0, X, Y⟩ 1000 + 1) I J = true := by
        intro h1 h2 h3
        unfold ckB
        rw [decide_eq_true (by omega)]
        simpa using h3
      rcases hF with ⟨rfl, cI, cJ, rfl, rfl, f1, f2, f3, f4, f5⟩ | ⟨rfl, rfl, rfl, f4⟩
      · have hck : ckB N ⟨0, X, Y⟩ (dn N ⟨0, X, Y⟩ 1000 + 1) cI cJ = true := by
          unfold ckB; rw [decide_eq_true (by omega)]; simpa using f3
        have h4 := (hcirc cI cJ hck).2.2.2
        refine circ_good0 W a n cap N hn8 hM' X Y hN hX hY i j I J _ cI cJ HeI HeJ hI' hJ' hnE (Or.inl ⟨rfl, cI, cJ, rfl, rfl, f1, f2, f3, f4, f5⟩) ⟨rfl, h4⟩ ⟨f1, by omega⟩ hck _ _ _ _ _ rfl rfl rfl rfl (fun _ => rfl) ?_ ?_
        · intro hIJ hok
          obtain ⟨g1, g2, g3, _⟩ := hcirc I J hok
          refine ⟨g3.1, g3.2.1, g3.2.2.1, ?_⟩
          rw [dn_go J (fun k hk => hbef k (by omega))]; exact Nat.le_refl _
        · intro hIJ h1 h2 h3 h4 h5
          have g := hsame hIJ h1 h2 h3 h4 h5
          refine ⟨hckIJ hIJ h2 g, ?_⟩
          by_cases hlt : J < cJ
          · rw [f4 J hlt I hIJ] at g; cases g
          · omega
      · have hno : I < J → ckB N ⟨0, X, Y⟩ (dn N ⟨0, X, Y⟩ 1000 + 1) I J = false := by
          intro hIJ
          cases hok : ckB N ⟨0, X, Y⟩ (dn N ⟨0, X, Y⟩ 1000 + 1) I J
          · rfl
          · obtain ⟨g1, g2, g3, _⟩ := hcirc I J hok
            have g4 : dn N ⟨0, X, Y⟩ J = J := dn_go J (fun k hk => hbef k (by omega))
            rw [f4 J (by omega) I hIJ] at *
            have g5 := isC_iff.2 g3
            rw [f4 J (by omega) I hIJ] at g5; cases g5
        have hns : I < J → dn N ⟨0, X, Y⟩ I = I → dn N ⟨0, X, Y⟩ J = J → (pl N ⟨0, X, Y⟩ I).o = (pl N ⟨0, X, Y⟩ J).o → (pl N ⟨0, X, Y⟩ I).x = (pl N ⟨0, X, Y⟩ J).x → (pl N ⟨0, X, Y⟩ I).y = (pl N ⟨0, X, Y⟩ J).y → False := by
          intro hIJ h1 h2 h3 h4 h5
          have g := hsame hIJ h1 h2 h3 h4 h5
          rw [f4 J (by omega) I hIJ] at g; cases g
        cases hE : isEnd N (pl N ⟨0, X, Y⟩ 1000)
        · exact circ_good2 W a n cap N hn8 hM' X Y hN hX hY i j I J _ HeI HeJ hI' hJ' hnE (Or.inr ⟨rfl, rfl, rfl, f4⟩) ⟨rfl, by unfold endsE; rw [hE]; rfl⟩ _ _ _ _ _ rfl rfl rfl rfl (fun _ => rfl) hno hns
        · by_cases hl : endsK N ⟨0, X, Y⟩ ≤ 200
          · exact circ_good1 W a n cap N hn8 hM' X Y hN hX hY i j I J _ HeI HeJ hI' hJ' hnE (Or.inr ⟨rfl, rfl, rfl, f4⟩) ⟨rfl, by unfold endsE; rw [hE]; rfl⟩ hl _ _ _ _ _ rfl rfl rfl rfl (fun _ => rfl) hno hns
          · exact circ_good3 W a n cap N hn8 hM' X Y hN hX hY i j I J _ HeI HeJ hI' hJ' hnE (Or.inr ⟨rfl, rfl, rfl, f4⟩) ⟨rfl, by unfold endsE; rw [hE]; rfl⟩ (by omega) _ _ _ _ _ rfl rfl rfl rfl (fun _ => rfl) hno hns

end Go.Proofs.Ytiegingpmcloeaa
