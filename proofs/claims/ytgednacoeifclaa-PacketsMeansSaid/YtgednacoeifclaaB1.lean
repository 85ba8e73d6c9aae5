import Derived.Test.YtgednacoeifclaaProg
import Derived.Test.YtgednacoeifclaaQ
import Derived.Maps.OwnOps
import Derived.IntWalk
import Derived.WalkLawsBesides
import Derived.WalkSpells
import Derived.Deep.QuietTactic
import Derived.BigQuiet
import Derived.Deep.RegionWith
import Derived.Deep.RegionHeld3
import Derived.Deep.DeepCutAuto
import Derived.StillTailTactics
import Derived.Outline
/-
  The program's arithmetic of fractions.
-/
namespace Go.Proofs.Ytgednacoeifclaa
open Go.RowKit

theorem gcd_step (x y : Nat) : Nat.gcd y (x % y) = Nat.gcd x y := by
  rw [Nat.gcd_comm x y, Nat.gcd_rec y x, Nat.gcd_comm]
theorem below_drewN {B : Nat} {w w' : World} (h : Below B w w') : ∀ q, Below B w (w'.drewN q)
  | 0 => h
  | q + 1 => by
    have : w'.drewN (q + 1) = (w'.drewN q).drew := rfl
    rw [this]; exact (below_drewN h q).drew
theorem below_one (w : World) (o : Obj) : Below w.heap.size w (w.alloc o) := (Below.refl _ _).alloc (Nat.le_refl _) _
theorem below_two (w : World) (o1 o2 : Obj) : Below w.heap.size w ((w.alloc o1).alloc o2) := ((Below.refl _ _).alloc (Nat.le_refl _) _).alloc (by simp) _
theorem band {a b c : World} (h1 : Below a.heap.size a b) (h2 : Below b.heap.size b c) : Below a.heap.size a c := h1.trans (h2.mono h1.size)

theorem divisor_any (w : World) : ∀ (b a : Nat), a ≤ 9223372036854775807 → b ≤ 9223372036854775807 →
    Calls Try.prog 89 #[.int .i64 a, .int .i64 b] w fun e w' => e = .returned (.int .i64 (Nat.gcd a b : Nat)) ∧ w = w' := by
  intro b
  induction b using Nat.strongRecOn with
  | _ b ih =>
    intro a ha hb
    by_cases h0 : b = 0
    · subst h0
      have G : (((0 : Nat) : Int) == 0) = true := rfl
      have hg : Hid (Nat.gcd a 0 = a) := Nat.gcd_zero_right a
      clear ih
      go_enter Try.func89, Try.ntmps89
      go_wp2
      go_ret
      exact ⟨by rw [hg.out]; rfl, rfl⟩
    · have G : ((b : Int) == 0) = false := by simp; omega
      have hlt := Nat.mod_lt a (Nat.pos_of_ne_zero h0)
      have HC := Lib.hid (ih (a % b) hlt b hb (by omega))
      have ht : ((a : Int).tmod (b : Int)) = ((a % b : Nat) : Int) := by rw [Int.tmod_eq_emod_of_nonneg (by omega)]; omega
      have hs : Hid (Nat.gcd b (a % b) = Nat.gcd a b) := gcd_step a b
      have G2 : ¬ (b : Int) = 0 := by omega
      clear ih hlt
      go_enter Try.func89, Try.ntmps89
      go_wp2_with fail
      refine HC.out.mono ?_
      rintro e w' ⟨rfl, rfl⟩
      go_wp2
      go_ret
      exact ⟨by rw [hs.out]; rfl, rfl⟩


theorem tdiv_dvd (a : Int) (g : Nat) (hd : (g : Int) ∣ a) : a.tdiv (g : Int) = a / (g : Int) := Int.tdiv_eq_ediv_of_dvd hd

set_option maxHeartbeats 1000000 in
theorem fraction_any (a : Int) (b : Nat) (w : World) (h0 : -9223372036854775807 ≤ a) (h2 : a ≤ 9223372036854775807) (hb : b ≤ 9223372036854775807) (h1 : 1 ≤ b) :
    Calls Try.prog 82 #[.int .i64 a, .int .i64 b] w fun e w' => e = .returned (.agg #[.int .i64 (frA a b), .int .i64 (frB a b : Nat)]) ∧ Below w.heap.size w w' := by
  obtain ⟨g, hg⟩ : ∃ g, g = Nat.gcd a.natAbs b := ⟨_, rfl⟩
  have gpos : 0 < g := by rw [hg]; exact fr_gpos a h1
  have e1 : a.tdiv (g : Int) = frA a b := by rw [hg]; exact tdiv_dvd _ _ (fr_dvd a b)
  have e2 : (b : Int).tdiv (g : Int) = ((frB a b : Nat) : Int) := by rw [Int.tdiv_eq_ediv_of_nonneg (by omega), hg, ← Int.natCast_ediv]; rfl
  have b1 := frA_bd (a := a) (M := 9223372036854775807) h1 h0 h2
  have b2 := frB_le a b
  have hgle : g ≤ b := by rw [hg]; exact Nat.gcd_le_right _ (by omega)
  have G : ¬ g = 0 := by omega
  have e3 : a / (g : Int) = frA a b := by rw [hg]; rfl
  have e4 : (b : Int) / (g : Int) = ((frB a b : Nat) : Int) := by rw [hg, ← Int.natCast_ediv]; rfl
  have HG : Hid (Nat.gcd a.natAbs b = g) := hg.symm
  clear hg
  generalize frA a b = A at *
  generalize frB a b = B at *
  have E3 : Hid (wrap64 (a / (g : Int)) = A) := by rw [e3]; exact IntWalk.wrap64_in _ ⟨by omega, by omega⟩
  have E4 : Hid (wrap64 ((b : Int) / (g : Int)) = (B : Int)) := by rw [e4]; exact IntWalk.wrap64_in _ ⟨by omega, by omega⟩
  clear e3 e4
  have G2 : ((g : Int) == 0) = false := by simp; omega
  have E1 := Lib.hid e1
  have E2 := Lib.hid e2
  have W1 : IntKind.i64.wrap A = A := IntWalk.i64_in _ (by omega)
  have W2 : IntKind.i64.wrap (B : Int) = B := IntWalk.i64_in _ (by omega)
  have HW1 := Lib.hid W1
  have HW2 := Lib.hid W2
  clear e1 e2 W1 W2
  by_cases hs : 0 ≤ a
  · obtain ⟨n, rfl⟩ : ∃ n : Nat, a = n := ⟨a.toNat, by omega⟩
    rw [Int.natAbs_natCast] at HG
    go_enter Try.func82, Try.ntmps82
    go_wp2_with fail
    refine (divisor_any _ b n (by omega) (by omega)).mono ?_
    rintro e w' ⟨rfl, rfl⟩
    rw [HG.out]
    go_wp2_with fail
    go_region
    all_goals
      go_wp2
      have r1 := E1.out
      have r2 := E2.out
      have r3 := E3.out
      have r4 := E4.out
      exact bodyPost_ret (v := .agg #[.int .i64 A, .int .i64 (B : Int)]) (by simp [results, Try.results82, go_sem, r3, r4]) rfl ⟨rfl, (below_one w _).drew⟩
  · obtain ⟨n, rfl⟩ : ∃ n : Nat, a = -(n : Int) := ⟨(-a).toNat, by omega⟩
    rw [Int.natAbs_neg, Int.natAbs_natCast] at HG
    have hn1 : 0 < n := by omega
    have E6 : Hid (wrap64 (-((n : Int) / (g : Int))) = A) := by
      have h := E1.out
      rw [Int.neg_tdiv, Int.tdiv_eq_ediv_of_nonneg (by omega)] at h
      rw [Hid, h]; exact IntWalk.wrap64_in _ ⟨by omega, by omega⟩
    go_enter Try.func82, Try.ntmps82
    go_wp2_with fail
    refine (divisor_any _ b n (by omega) (by omega)).mono ?_
    rintro e w' ⟨rfl, rfl⟩
    rw [HG.out]
    go_wp2_with fail
    go_region
    all_goals
      go_wp2
      have r1 := E1.out
      have r2 := E2.out
      have r3 := E3.out
      have r4 := E4.out
      have r5 := E6.out
      exact bodyPost_ret (v := .agg #[.int .i64 A, .int .i64 (B : Int)]) (by simp [results, Try.results82, go_sem, r4, r5]) rfl ⟨rfl, (below_one w _).drew⟩
theorem heap_three0 (w : World) (o1 o2 o3 : Obj) : (((w.alloc o1).alloc o2).alloc o3).heap[w.heap.size]? = some o1 := by
  rw [Below.heap_alloc _ _ _ (by simp; omega), Below.heap_alloc _ _ _ (by simp)]
  exact heap_alloc_new w o1
theorem heap_three1 (w : World) (o1 o2 o3 : Obj) : (((w.alloc o1).alloc o2).alloc o3).heap[w.heap.size + 1]? = some o2 := by
  rw [Below.heap_alloc _ _ _ (by simp)]
  exact heap_two2 w o1 o2
theorem heap_three (w : World) (o1 o2 o3 : Obj) : (((w.alloc o1).alloc o2).alloc o3).heap[w.heap.size + 1 + 1]? = some o3 := by
  have h := heap_alloc_new ((w.alloc o1).alloc o2) o3
  have e : ((w.alloc o1).alloc o2).heap.size = w.heap.size + 1 + 1 := by simp
  rw [e] at h
  exact h
/-- Two cells of a fraction. -/
theorem fr_cells {w : World} {b : Nat} {x y : Value} {T : TypeId} (h : w.heap[b]? = some (.cells #[x, y] T)) :
    w.cell? ⟨b, 0, none⟩ = some x ∧ w.cell? ⟨b, 1, none⟩ = some y ∧ w.frozen? ⟨b, 0, none⟩ = false ∧ w.frozen? ⟨b, 1, none⟩ = false :=
  ⟨block_cell h 0, block_cell h 1, block_free h 0, block_free h 1⟩

set_option maxHeartbeats 4000000 in
set_option maxRecDepth 100000 in
theorem plus_any (a b : Int) (L : Nat) (w : World) (hL : 1 ≤ L) (hM : L ≤ 4611686018427387903) (ha : a.natAbs ≤ 4611686018427387903) (hb : b.natAbs ≤ 4611686018427387903) :
    Calls Try.prog 93 #[.agg #[.int .i64 (frA a L), .int .i64 (frB a L : Nat)], .agg #[.int .i64 (frA b L), .int .i64 (frB b L : Nat)]] w fun e w' => e = .returned (.agg #[.int .i64 (frA (a + b) L), .int .i64 (frB (a + b) L : Nat)]) ∧ Below w.heap.size w w' := by
  obtain ⟨d, hd⟩ : ∃ d, d = Nat.gcd (frB a L) (frB b L) := ⟨_, rfl⟩
  obtain ⟨K, hK, e1, e2, e3⟩ := fr_plus a b hL hd
  have a1 := frA_abs a hL
  have a2 := frA_abs b hL
  have b1 := frB_le a L
  have b2 := frB_le b L
  have p1 := frB_pos a hL
  have p2 := frB_pos b hL
  generalize frA a L = A at *
  generalize frA b L = B at *
  generalize frB a L = C at *
  generalize frB b L = D at *
  have dpos : 0 < d := by rw [hd]; exact Nat.gcd_pos_of_pos_left _ p1
  have HG : Hid (Nat.gcd C D = d) := hd.symm
  clear hd
  obtain ⟨X, hX⟩ : ∃ X : Int, X = A * ((D / d : Nat) : Int) := ⟨_, rfl⟩
  obtain ⟨Y, hY⟩ : ∃ Y : Int, Y = B * ((C / d : Nat) : Int) := ⟨_, rfl⟩
  obtain ⟨Z, hZ⟩ : ∃ Z : Nat, Z = C / d * D := ⟨_, rfl⟩
  rw [← hX] at e2
  rw [← hY] at e3
  rw [← hZ] at e1
  have x1 : X.natAbs ≤ a.natAbs := by
    rw [← e2, Int.natAbs_mul, Int.natAbs_natCast]; exact Nat.le_mul_of_pos_right _ hK
  have y1 : Y.natAbs ≤ b.natAbs := by
    rw [← e3, Int.natAbs_mul, Int.natAbs_natCast]; exact Nat.le_mul_of_pos_right _ hK
  have z1 : Z ≤ L := by rw [← e1]; exact Nat.le_mul_of_pos_right _ hK
  have z0 : 1 ≤ Z := by
    rcases Nat.eq_zero_or_pos Z with h | h
    · rw [h] at e1; omega
    · exact h
  have hs := fr_same (a := X + Y) (b := a + b) (L := Z) (K := L) z0 hL (by
    rw [← e1, ← e2, ← e3, Int.natCast_mul]; grind)
  have HS := Lib.hid hs
  have hC8 : C ≤ 4611686018427387903 := by omega
  have hD8 : D ≤ 4611686018427387903 := by omega
  have c1 : (C : Int).tdiv (d : Int) = ((C / d : Nat) : Int) := by rw [Int.tdiv_eq_ediv_of_nonneg (by omega)]; omega
  have d1 : (D : Int).tdiv (d : Int) = ((D / d : Nat) : Int) := by rw [Int.tdiv_eq_ediv_of_nonneg (by omega)]; omega
  have hq1 : C / d ≤ C := Nat.div_le_self _ _
  have hq2 : D / d ≤ D := Nat.div_le_self _ _
  generalize C / d = c at *
  generalize D / d = e at *
  have G : ¬ d = 0 := by omega
  have G2 : ((d : Int) == 0) = false := by simp; omega
  have v1 : IntKind.i64.wrap (c : Int) = c := IntWalk.i64_in _ (by omega)
  have v2 : IntKind.i64.wrap (e : Int) = e := IntWalk.i64_in _ (by omega)
  have v3 : IntKind.i64.wrap (A * (e : Int)) = X := by rw [← hX]; exact IntWalk.i64_in _ (by omega)
  have v4 : IntKind.i64.wrap (B * (c : Int)) = Y := by rw [← hY]; exact IntWalk.i64_in _ (by omega)
  have v5 : IntKind.i64.wrap ((c : Int) * (D : Int)) = Z := by rw [hZ, ← Int.natCast_mul]; exact IntWalk.i64_in _ (by have := hZ; omega)
  have v6 : IntKind.i64.wrap (X + Y) = X + Y := IntWalk.i64_in _ (by omega)
  have HF := Lib.hid (fun w => fraction_any (X + Y) Z w (by omega) (by omega) (by omega) z0)
  have HdA : C ≤ 9223372036854775807 := by omega
  have HdB : D ≤ 9223372036854775807 := by omega
  have R := Lib.hid (And.intro c1 (And.intro d1 (And.intro v1 (And.intro v2 (And.intro v3 (And.intro v4 (And.intro v5 v6)))))))
  clear c1 d1 v1 v2 v3 v4 v5 v6 hX hY hZ e1 e2 e3 hs x1 y1 z1 hq1 hq2 a1 a2 ha hb b1 b2 hC8 hD8
  go_enter Try.func93, Try.ntmps93
  go_wp2_with fail
  refine (divisor_any _ D C HdA HdB).mono ?_
  rintro e' w' ⟨rfl, rfl⟩
  rw [HG.out]
  go_wp2_with fail
  obtain ⟨W, hW⟩ : ∃ W, W = ((w.alloc (.cells #[.int .i64 A, .int .i64 (C : Int)] 24)).alloc (.cells #[.int .i64 B, .int .i64 (D : Int)] 24)).alloc (.cells #[.int .i64 0, .int .i64 0] 24) := ⟨_, rfl⟩
  rw [← hW]
  have HBW : Hid (Below w.heap.size w W) := by rw [hW]; exact (((Below.refl _ _).alloc (Nat.le_refl _) _).alloc (by simp) _).alloc (by simp; omega) _
  have hs1 : W.heap.size = w.heap.size + 3 := by rw [hW]; simp
  obtain ⟨qa1, qa2, qa3, qa4⟩ := fr_cells (w := W) (b := w.heap.size) (by rw [hW]; exact heap_three0 w _ _ _)
  obtain ⟨qb1, qb2, qb3, qb4⟩ := fr_cells (w := W) (b := w.heap.size + 1) (by rw [hW]; exact heap_three1 w _ _ _)
  have hbk := heap_three w (.cells #[.int .i64 A, .int .i64 (C : Int)] 24) (.cells #[.int .i64 B, .int .i64 (D : Int)] 24) (.cells #[.int .i64 0, .int .i64 0] 24)
  rw [← hW] at hbk
  have HBK := Lib.hid hbk
  clear hbk hW
  obtain ⟨c1, d1, v1, v2, v3, v4, v5, v6⟩ := R.out
  have u1 : wrap64 ((C : Int) / (d : Int)) = c := by rw [← Int.tdiv_eq_ediv_of_nonneg (by omega), c1]; exact (IntWalk.i64_left _).symm.trans v1
  have u2 : wrap64 ((D : Int) / (d : Int)) = e := by rw [← Int.tdiv_eq_ediv_of_nonneg (by omega), d1]; exact (IntWalk.i64_left _).symm.trans v2
  have u3 := (IntWalk.i64_left _).symm.trans v3
  have u4 := (IntWalk.i64_left _).symm.trans v4
  have u5 := (IntWalk.i64_left _).symm.trans v5
  have u6 := (IntWalk.i64_left _).symm.trans v6
  go_still_tail 22, (by kernel_rfl)
  change wpList _ _ _ _ _ W.drew
  clear c1 d1 v1 v2 v3 v4 v5 v6 u1 u2 u3 u4 u5 u6 qa1 qa2 qa3 qa4 qb1 qb2 qb3 qb4
  have HBW2 : Hid (Below w.heap.size w W.drew) := HBW.out.drew
  have hs2 : W.drew.heap.size = w.heap.size + 3 := hs1
  have HBK2 : Hid (W.drew.heap[w.heap.size + 1 + 1]? = some (.cells #[.int .i64 0, .int .i64 0] 24)) := HBK.out
  clear HBW hs1 HBK
  generalize W.drew = W2 at *
  go_wp2_with fail
  refine (HF.out W2).mono ?_
  rintro e' w2 ⟨rfl, hb2⟩
  obtain ⟨q1, q2, q3, q4⟩ := fr_cells ((hb2.block (w.heap.size + 1 + 1) (by omega)).trans HBK2.out)
  have HB2 : Hid (Below w.heap.size w w2) := HBW2.out.trans (hb2.mono (by omega))
  clear hb2
  rw [HS.out.1, HS.out.2]
  go_wp2
  exact bodyPost_ret (v := .agg #[.int .i64 (frA (a + b) L), .int .i64 (frB (a + b) L : Nat)]) (by simp [results, Try.results93, go_sem, q1, q2]) rfl ⟨rfl, (HB2.out.setCell (by simp; omega) _).setCell (by simp; omega) _⟩

set_option maxHeartbeats 4000000 in
set_option maxRecDepth 100000 in
theorem times_any (a : Int) (L n : Nat) (w : World) (hL : 1 ≤ L) (hM : L ≤ 4611686018427387903) (hn : 1 ≤ n) (hn2 : n ≤ 1000000) (_ha : a.natAbs ≤ 4611686018427387903) (hr : (frA (a * n) L).natAbs ≤ 9223372036854775807) :
    Calls Try.prog 73 #[.agg #[.int .i64 (frA a L), .int .i64 (frB a L : Nat)], .int .i64 n] w fun e w' => e = .returned (.agg #[.int .i64 (frA (a * n) L), .int .i64 (frB (a * n) L : Nat)]) ∧ Below w.heap.size w w' := by
  obtain ⟨d, hd⟩ : ∃ d, d = Nat.gcd n (frB a L) := ⟨_, rfl⟩
  obtain ⟨e1, e2⟩ := fr_times a n hL hn hd
  have a1 := frA_abs a hL
  have b1 := frB_le a L
  have b3 := frB_le (a * n) L
  have p1 := frB_pos a hL
  generalize frA a L = A at *
  generalize frB a L = C at *
  generalize frA (a * n) L = X at *
  generalize frB (a * n) L = Y at *
  have dpos : 0 < d := by rw [hd]; exact Nat.gcd_pos_of_pos_left _ hn
  have HG : Hid (Nat.gcd n C = d) := hd.symm
  clear hd
  have c1 : (C : Int).tdiv (d : Int) = (Y : Int) := by rw [Int.tdiv_eq_ediv_of_nonneg (by omega), ← e2]; omega
  have d1 : (n : Int).tdiv (d : Int) = ((n / d : Nat) : Int) := by rw [Int.tdiv_eq_ediv_of_nonneg (by omega)]; omega
  have hq2 : n / d ≤ n := Nat.div_le_self _ _
  generalize n / d = q at *
  have G : ¬ d = 0 := by omega
  have G2 : ((d : Int) == 0) = false := by simp; omega
  have v1 : IntKind.i64.wrap (Y : Int) = Y := IntWalk.i64_in _ (by omega)
  have v2 : IntKind.i64.wrap (q : Int) = q := IntWalk.i64_in _ (by omega)
  have v3 : IntKind.i64.wrap (A * (q : Int)) = X := by rw [e1]; exact IntWalk.i64_in _ (by omega)
  have HdA : C ≤ 9223372036854775807 := by omega
  have HdB : n ≤ 9223372036854775807 := by omega
  have u1 : wrap64 ((C : Int) / (d : Int)) = Y := by rw [← Int.tdiv_eq_ediv_of_nonneg (by omega), c1]; exact (IntWalk.i64_left _).symm.trans v1
  have u2 : wrap64 ((n : Int) / (d : Int)) = q := by rw [← Int.tdiv_eq_ediv_of_nonneg (by omega), d1]; exact (IntWalk.i64_left _).symm.trans v2
  have u3 := (IntWalk.i64_left _).symm.trans v3
  have R := Lib.hid (And.intro c1 (And.intro d1 (And.intro v1 (And.intro v2 (And.intro v3 (And.intro u1 (And.intro u2 u3)))))))
  clear c1 d1 v1 v2 v3 u1 u2 u3 e1 e2 hq2 a1 _ha hr b1 b3
  go_enter Try.func73, Try.ntmps73
  go_wp2_with fail
  refine (divisor_any _ C n HdB HdA).mono ?_
  rintro e' w' ⟨rfl, rfl⟩
  rw [HG.out]
  go_wp2_with fail
  obtain ⟨W, hW⟩ : ∃ W, W = (w.alloc (.cells #[.int .i64 A, .int .i64 (C : Int)] 24)).alloc (.cells #[.int .i64 0, .int .i64 0] 24) := ⟨_, rfl⟩
  rw [← hW]
  have HBW : Hid (Below w.heap.size w W) := by rw [hW]; exact below_two _ _ _
  have hs1 : W.heap.size = w.heap.size + 2 := by rw [hW]; simp
  obtain ⟨qa1, qa2, qa3, qa4⟩ := fr_cells (w := W) (b := w.heap.size) (by rw [hW]; exact heap_two1 w _ _)
  obtain ⟨qb1, qb2, qb3, qb4⟩ := fr_cells (w := W) (b := w.heap.size + 1) (by rw [hW]; exact heap_two2 w _ _)
  clear hW
  obtain ⟨c1, d1, v1, v2, v3, u1, u2, u3⟩ := R.out
  go_region
  all_goals
    go_wp2
    exact bodyPost_ret (v := .agg #[.int .i64 X, .int .i64 (Y : Int)]) (by simp [results, Try.results73, go_sem, qb1, qb2]) rfl ⟨rfl, (HBW.out.drew.setCell (by simp) _).setCell (by simp) _⟩
end Go.Proofs.Ytgednacoeifclaa
