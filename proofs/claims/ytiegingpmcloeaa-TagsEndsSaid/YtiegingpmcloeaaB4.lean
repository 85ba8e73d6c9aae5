import Derived.Test.YtiegingpmcloeaaB3
import Derived.Test.YtiegingpmcloeaaC2
namespace Go.Proofs.Ytiegingpmcloeaa
open Go.RowKit

set_option maxHeartbeats 1000000 in
set_option maxRecDepth 100000 in
theorem rends_any (N : Nat → QN) (n cap : Nat) (a : Option Addr) (x y : Nat) (w : World) (hN : okN n N) (hx : x ≤ 100) (hy : y ≤ 100) (hM : Ords w a n (fun k => (N k).z)) :
    Calls Try.prog 19 #[.slice a n cap, .agg #[.int .i64 x, .int .i64 y]] w fun r w' => r = .returned (.tuple #[.int .i64 (endsK N ⟨0, x, y⟩), .int .i64 (endsE N ⟨0, x, y⟩)]) ∧ Below w.heap.size w w' := by
  have HR : Hid (∀ W, Below w.heap.size w W → Calls Try.prog 33 #[.slice a n cap, .agg #[.int .i64 x, .int .i64 y], .int .i64 1000] W fun r w' => PlOut N ⟨0, x, y⟩ 1000 W r w') :=
    fun W hW => rplaces_any N n cap a x y 1000 W hN hx hy (Nat.le_refl _) (hM.keep (Nat.le_refl _) hW)
  have hdm := dn_le (N := N) (s := ⟨0, x, y⟩) 1000
  unfold PlOut at HR
  cases hE : isEnd N (pl N ⟨0, x, y⟩ 1000)
  · have HV : Hid (endsK N ⟨0, x, y⟩ = 0 ∧ endsE N ⟨0, x, y⟩ = 4) := by unfold Hid endsK endsE; rw [hE]; exact ⟨rfl, rfl⟩
    rw [hE] at HR
    generalize (⟨0, x, y⟩ : Pl) = s at *
    clear hM hN hE
    go_enter Try.func19, Try.ntmps19
    go_wp2_with fail
    refine (HR.out _ (by first | exact one_le _ _ | exact Below.refl _ _)).mono ?_
    rintro r w2 ⟨v, rfl, hO, hb2⟩
    have HB : Hid (Below w.heap.size w w2) := by first | exact band (one_le _ _) hb2 | exact hb2
    clear hb2 hO
    go_wp2
    go_ret2
    exact ⟨by rw [HV.out.1, HV.out.2]; rfl, HB.out⟩
  · have HV : Hid (endsK N ⟨0, x, y⟩ = dn N ⟨0, x, y⟩ 1000 ∧ endsE N ⟨0, x, y⟩ = 0) := by unfold Hid endsK endsE; rw [hE]; exact ⟨rfl, rfl⟩
    rw [hE] at HR
    generalize (⟨0, x, y⟩ : Pl) = s at *
    clear hM hN hE
    go_enter Try.func19, Try.ntmps19
    go_wp2_with fail
    refine (HR.out _ (by first | exact one_le _ _ | exact Below.refl _ _)).mono ?_
    rintro r w2 ⟨v, rfl, hO, hb2⟩
    have HB : Hid (Below w.heap.size w w2) := by first | exact band (one_le _ _) hb2 | exact hb2
    obtain ⟨al, cl, rfl, h1, h2, hC⟩ := rplace_at hO
    have HD : Hid (dn N s 1000 ≤ 1000) := hdm
    generalize hd : dn N s 1000 = d at *
    have HDd := Lib.hid hd
    have hd1 : IntKind.i64.wrap (((d + 1 : Nat) : Int) - 1) = (d : Int) := by rw [IntWalk.i64_in _ (by omega)]; omega
    clear hb2 hO hC hd
    go_wp2
    go_ret2
    exact ⟨by rw [HV.out.1, HV.out.2]; simp, HB.out⟩

end Go.Proofs.Ytiegingpmcloeaa
