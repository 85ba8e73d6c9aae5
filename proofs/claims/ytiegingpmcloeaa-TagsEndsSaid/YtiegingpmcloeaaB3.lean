import Derived.Test.YtiegingpmcloeaaB2
import Derived.BigRegion
namespace Go.Proofs.Ytiegingpmcloeaa
open Go.RowKit

theorem pl_dn (N : Nat → QN) (s : Pl) : ∀ m, pl N s (dn N s m) = pl N s m
  | 0 => rfl
  | m + 1 => by
    have h := pl_dn N s m
    cases e : isEnd N (pl N s m)
    · simp only [dn, e, Bool.false_eq_true, if_false]
    · simp only [dn, pl, e, if_true]; exact h

/-- The cells of one place of a list of places. -/
theorem rplace_at {w : World} {base : Nat} {v : Value} {m : Nat} {N : Nat → QN} {P : Nat → Pl} (h : OwnC w base 70 4 v m (fun i => rpcell N (P i))) : ∃ a cap, v = .slice a m cap ∧ m ≤ cap ∧ cap ≤ maxLen ∧
    ∀ k, k < m → ∃ b o, a = some ⟨b, o, none⟩ ∧ w.cell? ⟨b, o + k * 4, none⟩ = some (.int .i64 (P k).o) ∧ w.cell? ⟨b, o + k * 4 + 1, none⟩ = some (.int .i64 (P k).x) ∧ w.cell? ⟨b, o + k * 4 + 2, none⟩ = some (.int .i64 (P k).y) ∧ w.cell? ⟨b, o + k * 4 + 3, none⟩ = some (.int .i64 (found N (P k))) := by
  obtain ⟨a, cap, rfl, hC, h1, h2⟩ := OwnC.read (c := fun i => rpcell N (P i)) (fun k => rpcell_len _ _) h
  refine ⟨a, cap, rfl, h1, h2, fun k hk => ?_⟩
  obtain ⟨b, o, ha, hc⟩ := hC k hk
  exact ⟨b, o, ha, by have := hc 0 _ rfl; simpa using this, hc 1 _ rfl, hc 2 _ rfl, hc 3 _ rfl⟩

set_option maxHeartbeats 1000000 in
set_option maxRecDepth 100000 in
theorem rgo_any (N : Nat → QN) (n cap : Nat) (a : Option Addr) (x y m : Nat) (w : World) (hN : okN n N) (hx : x ≤ 100) (hy : y ≤ 100) (hm : m ≤ 1000) (hM : Ords w a n (fun k => (N k).z)) :
    Calls Try.prog 15 #[.slice a n cap, .agg #[.int .i64 x, .int .i64 y], .int .i64 m] w fun r w' =>
      r = .returned (.tuple #[.int .i64 (pl N ⟨0, x, y⟩ m).o, .agg #[.int .i64 (pl N ⟨0, x, y⟩ m).x, .int .i64 (pl N ⟨0, x, y⟩ m).y], .int .i64 (dn N ⟨0, x, y⟩ m)]) ∧ Below w.heap.size w w' := by
  have HR := Lib.hid (fun W (hW : Below w.heap.size w W) => rplaces_any N n cap a x y m W hN hx hy hm (hM.keep (Nat.le_refl _) hW))
  have hpd := pl_dn N ⟨0, x, y⟩ m
  have hdm := dn_le (N := N) (s := ⟨0, x, y⟩) m
  unfold PlOut at HR
  generalize (⟨0, x, y⟩ : Pl) = s at *
  clear hM hN
  go_enter Try.func15, Try.ntmps15
  go_wp2_with fail
  refine (HR.out _ (two_le _ _ _)).mono ?_
  rintro r w2 ⟨v, rfl, hO, hb2⟩
  obtain ⟨al, cl, rfl, h1, h2, hC⟩ := rplace_at hO
  obtain ⟨bl, ol, rfl, q0, q1, q2, q3⟩ := hC (dn N s m) (by omega)
  rw [hpd] at q0 q1 q2 q3
  have hbl := World.block_lt_of_cell? _ _ q0
  have HB : Hid (Below w.heap.size w w2) := band (two_le _ _ _) hb2
  have k2 := (hb2.block (w.heap.size + 1) (by simp)).trans (heap_two2 w _ _)
  generalize isEnd N (pl N s m) = eE at *
  generalize hfN : found N (pl N s m) = fN at *
  generalize hp : pl N s m = p at *
  generalize hd : dn N s m = d at *
  have HP := Lib.hid hp
  have HD := Lib.hid hd
  clear hp hd hfN
  obtain ⟨W5, hW5⟩ : ∃ W5, W5 = w2.alloc (.cells #[.int .i64 p.o, .int .i64 p.x, .int .i64 p.y, .int .i64 fN] 70) := ⟨_, rfl⟩
  have HB5 : Hid (Below w.heap.size w W5) := by rw [hW5]; exact HB.out.alloc HB.out.size _
  have k5 : W5.heap[w.heap.size + 1]? = some (.cells #[.int .i64 0, .int .i64 0] 23) := by rw [hW5]; exact (Below.heap_alloc _ _ _ (Array.getElem?_eq_some_iff.1 k2).1).trans k2
  have j5 : W5.heap[w2.heap.size]? = some (.cells #[.int .i64 p.o, .int .i64 p.x, .int .i64 p.y, .int .i64 fN] 70) := by rw [hW5]; exact heap_alloc_new _ _
  have x0 := block_cell k5 0
  have x1 := block_cell k5 1
  have f0 := block_free k5 0
  have f1 := block_free k5 1
  have z0 := block_cell j5 0
  have z1 := block_cell j5 1
  have z2 := block_cell j5 2
  have l2 := (Array.getElem?_eq_some_iff.1 k5).1
  simp at x0 x1 z0 z1 z2
  have HW5 := Lib.hid hW5
  have hd1 : IntKind.i64.wrap (((d + 1 : Nat) : Int) - 1) = (d : Int) := by rw [IntWalk.i64_in _ (by omega)]; omega
  clear hb2 k2 k5 j5 hW5 hC hO hpd
  go_wp2
  rw [← HW5.out]
  go_region
  all_goals
    go_wp2
    refine bodyPost_ret (v := .tuple #[.int .i64 p.o, .agg #[.int .i64 p.x, .int .i64 p.y], .int .i64 d]) ?_ rfl ⟨by rw [HP.out, HD.out], ?_⟩
    · simp [results, Try.results15, go_sem, x0, x1]
    · exact ((HB5.out.setCell (by simp) _).setCell (by simp) _).drew

end Go.Proofs.Ytiegingpmcloeaa
