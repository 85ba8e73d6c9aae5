import Derived.Test.YtgednacoeifclaaP3
import Derived.Test.YtgednacoeifclaaX6
import Derived.Test.YtgednacoeifclaaX3
import Derived.OwnWalk
namespace Go.Proofs.Ytgednacoeifclaa
open Go.RowKit Go.Shelf

/-- Is it a kind of the set? -/
def hasB (s : Nat) (k : Int) : Bool := decide (0 ≤ k) && s.testBit k.toNat
set_option maxHeartbeats 1000000 in
theorem has_any (s : Nat) (k : Int) (w : World) (hs : s < 64) :
    Calls Try.prog 51 #[.int .i64 s, .int .i64 k] w fun e w' => e = .returned (.bool (hasB s k)) ∧ w = w' := by
  by_cases h : k < 0
  · have e : hasB s k = false := by unfold hasB; rw [decide_eq_false (by omega)]; rfl
    rw [e]
    clear e hs
    have h2 : ¬ 0 ≤ k := by omega
    go_enter Try.func51, Try.ntmps51
    go_wp2
    go_ret
    exact ⟨rfl, rfl⟩
  · obtain ⟨y, rfl⟩ : ∃ y : Nat, k = y := ⟨k.toNat, by omega⟩
    have B := bit_at s (min y 64) (Nat.lt_of_lt_of_le hs (by decide))
    have hb : s.testBit (min y 64) = hasB s y := by
      unfold hasB
      rw [decide_eq_true (by omega), Bool.true_and, Int.toNat_natCast]
      by_cases hy : y ≤ 64
      · rw [Nat.min_eq_left hy]
      · rw [Nat.min_eq_right (by omega), Nat.testBit_lt_two_pow (Nat.lt_of_lt_of_le hs (by decide)), Nat.testBit_lt_two_pow (Nat.lt_of_lt_of_le hs (Nat.pow_le_pow_right (by decide) (by omega : 6 ≤ y) : 2 ^ 6 ≤ 2 ^ y))]
    rw [hb] at B
    generalize hasB s y = r at *
    clear hb hs h
    have h0 : (0 : Int) ≤ (y : Int) := by omega
    go_enter Try.func51, Try.ntmps51
    go_wp2
    go_ret
    exact ⟨by rw [← B]; rfl, rfl⟩

set_option maxRecDepth 100000 in
set_option maxHeartbeats 2000000 in
theorem fLast_bad (a : Option Addr) (n cap : Nat) (z : Nat → Int) (s k : Int) (w : World) (h : okS n z s = false ∨ hasB s.toNat k = false) (hn : n ≤ 140737488351232) (hz : Ints w a n z) :
    Calls Try.prog 20 #[.slice a n cap, .int .i64 s, .int .i64 k] w fun e w' => BadOut w e w' := by
  cases hv : okS n z s
  · have HV := Lib.hid (valid_one false a n cap z s w hv hn hz)
    clear h hz hv
    go_enter Try.func20, Try.ntmps20
    go_wp2_with (go_at_call 48; refine HV.out.mono ?_; rintro e w' ⟨rfl, rfl⟩)
    exact bodyPost_ret (v := .tuple #[.agg #[.int .i64 0, .int .i64 0], .int .i64 2]) (by simp [results, Try.results20, go_sem]) rfl ⟨rfl, below_two w _ _⟩
  · have hk : hasB s.toNat k = false := by
      rcases h with h | h
      · rw [hv] at h; cases h
      · exact h
    have HV := Lib.hid (valid_one true a n cap z s w hv hn hz)
    obtain ⟨t, rfl, hs, _, hn6, _⟩ := okS_nat hv
    have hH := fun W => has_any t k W (lt64 hs hn6)
    rw [Int.toNat_natCast] at hk
    rw [hk] at hH
    have HH := Lib.hid hH
    clear h hz hv hk hH hs
    go_enter Try.func20, Try.ntmps20
    go_wp2_with (first | (go_at_call 48; refine HV.out.mono ?_; rintro e w' ⟨rfl, rfl⟩) | (go_at_call 51; refine (HH.out _).mono ?_; rintro e w' ⟨rfl, rfl⟩))
    exact bodyPost_ret (v := .tuple #[.agg #[.int .i64 0, .int .i64 0], .int .i64 2]) (by simp [results, Try.results20, go_sem]) rfl ⟨rfl, below_two w _ _⟩
end Go.Proofs.Ytgednacoeifclaa

/-
  A slice of fractions of a call's own, in a block.
-/
namespace Go.Proofs.Ytgednacoeifclaa
open Go.RowKit Go.Shelf

/-- A block that holds N fractions. -/
def RowF (W : World) (B N : Nat) (A : Nat → Int) (D : Nat → Nat) : Prop :=
  ∃ cs, W.heap[B]? = some (.cells cs 24) ∧ ∀ k, k < N → cs[k * 2]? = some (.int .i64 (A k)) ∧ cs[k * 2 + 1]? = some (.int .i64 (D k : Nat))
theorem RowF.lt {W : World} {B N : Nat} {A : Nat → Int} {D : Nat → Nat} (h : RowF W B N A D) : B < W.heap.size := by
  obtain ⟨cs, h1, _⟩ := h; exact blk_lt h1
theorem RowF.keep {W W' : World} {B N : Nat} {A : Nat → Int} {D : Nat → Nat} (h : RowF W B N A D) (hb : Below W.heap.size W W') : RowF W' B N A D := by
  obtain ⟨cs, h1, h2⟩ := h; exact ⟨cs, keep_blk h1 hb, h2⟩
theorem cells_at {W : World} {B j : Nat} {cs : Array Value} {T : TypeId} {v : Value} (h : W.heap[B]? = some (.cells cs T)) (hj : cs[j]? = some v) : W.cell? ⟨B, j, none⟩ = some v ∧ W.frozen? ⟨B, j, none⟩ = false := by
  have h1 := block_cell h j
  have h2 := block_free h j
  exact ⟨by rw [h1]; exact hj, h2⟩
theorem RowF.at {W : World} {B N : Nat} {A : Nat → Int} {D : Nat → Nat} (h : RowF W B N A D) {k : Nat} (hk : k < N) :
    W.cell? ⟨B, k * 2, none⟩ = some (.int .i64 (A k)) ∧ W.cell? ⟨B, k * 2 + 1, none⟩ = some (.int .i64 (D k : Nat)) ∧ W.frozen? ⟨B, k * 2, none⟩ = false ∧ W.frozen? ⟨B, k * 2 + 1, none⟩ = false := by
  obtain ⟨cs, h1, h2⟩ := h
  have a := cells_at h1 (h2 k hk).1
  have b := cells_at h1 (h2 k hk).2
  exact ⟨a.1, b.1, a.2, b.2⟩
theorem RowF.set {W : World} {B N : Nat} {A : Nat → Int} {D : Nat → Nat} (h : RowF W B N A D) {t : Nat} (ht : t < N) (x : Int) (y : Nat) :
    RowF ((W.setCell ⟨B, t * 2, none⟩ (.int .i64 x)).setCell ⟨B, t * 2 + 1, none⟩ (.int .i64 (y : Nat))) B N (fun k => if k = t then x else A k) (fun k => if k = t then y else D k) := by
  obtain ⟨cs, h1, h2⟩ := h
  refine ⟨_, set_block (set_block h1 _) _, fun k hk => ?_⟩
  have ha := (h2 t ht).1
  have hb := (h2 t ht).2
  have la : t * 2 < cs.size := (Array.getElem?_eq_some_iff.1 ha).1
  have lb : t * 2 + 1 < cs.size := (Array.getElem?_eq_some_iff.1 hb).1
  by_cases e : k = t
  · subst e
    constructor
    · rw [Array.getElem?_setIfInBounds_ne (by omega), Array.getElem?_setIfInBounds_self_of_lt la]; simp
    · rw [Array.getElem?_setIfInBounds_self_of_lt (by simpa using lb)]; simp
  · constructor
    · rw [Array.getElem?_setIfInBounds_ne (by omega), Array.getElem?_setIfInBounds_ne (by omega), (h2 k hk).1]; simp [e]
    · rw [Array.getElem?_setIfInBounds_ne (by omega), Array.getElem?_setIfInBounds_ne (by omega), (h2 k hk).2]; simp [e]
set_option maxHeartbeats 4000000 in
set_option maxRecDepth 100000 in
theorem rplus_sum (a b : Int) (L : Nat) (w : World) (hL : 1 ≤ L) (hM : L ≤ 4611686018427387903) (hab : a.natAbs + b.natAbs ≤ 9223372036854775807) :
    Calls Try.prog 55 #[.agg #[.int .i64 (frA a L), .int .i64 (frB a L : Nat)], .agg #[.int .i64 (frA b L), .int .i64 (frB b L : Nat)]] w fun e w' => QOut (a + b) L w e w' := by
  obtain ⟨d, hd⟩ : ∃ d, d = Nat.gcd (frB a L) (frB b L) := ⟨_, rfl⟩
  obtain ⟨K, hK, e1, e2, e3⟩ := fr_plus a b hL hd
  have a1 := frA_abs a hL
  have a2 := frA_abs b hL
  have b1 := frB_le a L
  have b2 := frB_le b L
  have p1 := frB_pos a hL
  have p2 := frB_pos b hL
  generalize frA a L = A at *
  generalize frA b L = B at *
  generalize frB a L = C at *
  generalize frB b L = D at *
  have dpos : 0 < d := by rw [hd]; exact Nat.gcd_pos_of_pos_left _ p1
  have hdC : d ∣ C := by rw [hd]; exact Nat.gcd_dvd_left _ _
  have hdD : d ∣ D := by rw [hd]; exact Nat.gcd_dvd_right _ _
  have HG : Hid (Nat.gcd C D = d) := hd.symm
  clear hd
  obtain ⟨X, hX⟩ : ∃ X : Int, X = A * ((D / d : Nat) : Int) := ⟨_, rfl⟩
  obtain ⟨Y, hY⟩ : ∃ Y : Int, Y = B * ((C / d : Nat) : Int) := ⟨_, rfl⟩
  obtain ⟨Z, hZ⟩ : ∃ Z : Nat, Z = C / d * D := ⟨_, rfl⟩
  have hZC : Z / C = D / d := by
    rw [hZ]
    obtain ⟨x, rfl⟩ := hdC
    obtain ⟨y, rfl⟩ := hdD
    have hx : 0 < x := by rcases Nat.eq_zero_or_pos x with h | h; (subst h; omega); exact h
    rw [Nat.mul_div_cancel_left _ dpos, Nat.mul_div_cancel_left _ dpos, show x * (d * y) = (d * x) * y by rw [Nat.mul_left_comm, Nat.mul_assoc]]
    exact Nat.mul_div_cancel_left _ p1
  have hZD : Z / D = C / d := by rw [hZ]; exact Nat.mul_div_cancel _ p2
  rw [← hX] at e2
  rw [← hY] at e3
  rw [← hZ] at e1
  have x1 : X.natAbs ≤ a.natAbs := by
    rw [← e2, Int.natAbs_mul, Int.natAbs_natCast]; exact Nat.le_mul_of_pos_right _ hK
  have y1 : Y.natAbs ≤ b.natAbs := by
    rw [← e3, Int.natAbs_mul, Int.natAbs_natCast]; exact Nat.le_mul_of_pos_right _ hK
  have z1 : Z ≤ L := by rw [← e1]; exact Nat.le_mul_of_pos_right _ hK
  have z0 : 1 ≤ Z := by
    rcases Nat.eq_zero_or_pos Z with h | h
    · rw [h] at e1; omega
    · exact h
  have hs := fr_same (a := X + Y) (b := a + b) (L := Z) (K := L) z0 hL (by
    rw [← e1, ← e2, ← e3, Int.natCast_mul]; grind)
  have HS := Lib.hid hs
  have hC8 : C ≤ 4611686018427387903 := by omega
  have hD8 : D ≤ 4611686018427387903 := by omega
  have c1 : (C : Int).tdiv (d : Int) = ((C / d : Nat) : Int) := by rw [Int.tdiv_eq_ediv_of_nonneg (by omega)]; omega
  have zc : (Z : Int).tdiv (C : Int) = ((D / d : Nat) : Int) := by rw [Int.tdiv_eq_ediv_of_nonneg (by omega), ← hZC]; omega
  have zd : (Z : Int).tdiv (D : Int) = ((C / d : Nat) : Int) := by rw [Int.tdiv_eq_ediv_of_nonneg (by omega), ← hZD]; omega
  have hq1 : C / d ≤ C := Nat.div_le_self _ _
  have hq2 : D / d ≤ D := Nat.div_le_self _ _
  clear hZC hZD hdC hdD
  generalize C / d = c at *
  generalize D / d = e at *
  have G : ¬ d = 0 := by omega
  have G2 : ((d : Int) == 0) = false := by simp; omega
  have GC : ((C : Int) == 0) = false := by simp; omega
  have GD : ((D : Int) == 0) = false := by simp; omega
  have GC' : ¬ C = 0 := by omega
  have GD' : ¬ D = 0 := by omega
  have v1 : IntKind.i64.wrap (c : Int) = c := IntWalk.i64_in _ (by omega)
  have v2 : IntKind.i64.wrap (e : Int) = e := IntWalk.i64_in _ (by omega)
  have v3 : IntKind.i64.wrap (A * (e : Int)) = X := by rw [← hX]; exact IntWalk.i64_in _ (by omega)
  have v4 : IntKind.i64.wrap (B * (c : Int)) = Y := by rw [← hY]; exact IntWalk.i64_in _ (by omega)
  have v5 : IntKind.i64.wrap ((c : Int) * (D : Int)) = Z := by rw [hZ, ← Int.natCast_mul]; exact IntWalk.i64_in _ (by have := hZ; omega)
  have v6 : IntKind.i64.wrap (X + Y) = X + Y := IntWalk.i64_in _ (by omega)
  have HF := Lib.hid (fun w => rfrac_any (X + Y) Z w (by omega) (by omega) (by omega) z0)
  have HdA : C ≤ 9223372036854775807 := by omega
  have HdB : D ≤ 9223372036854775807 := by omega
  have R := Lib.hid (And.intro c1 (And.intro zc (And.intro zd (And.intro v1 (And.intro v2 (And.intro v3 (And.intro v4 (And.intro v5 v6))))))))
  clear c1 zc zd v1 v2 v3 v4 v5 v6 hX hY hZ e1 e2 e3 hs x1 y1 z1 hq1 hq2 a1 a2 hab b1 b2 hC8 hD8
  go_enter Try.func55, Try.ntmps55
  go_wp2_with fail
  obtain ⟨W, hW⟩ : ∃ W, W = ((w.alloc (.cells #[.int .i64 A, .int .i64 (C : Int)] 24)).alloc (.cells #[.int .i64 B, .int .i64 (D : Int)] 24)).alloc (.cells #[.int .i64 0, .int .i64 0] 24) := ⟨_, rfl⟩
  rw [← hW]
  have HBW : Hid (Below w.heap.size w W) := by rw [hW]; exact (((Below.refl _ _).alloc (Nat.le_refl _) _).alloc (by simp) _).alloc (by simp; omega) _
  have hs1 : W.heap.size = w.heap.size + 3 := by rw [hW]; simp
  obtain ⟨qa1, qa2, qa3, qa4⟩ := fr_cells (w := W) (b := w.heap.size) (by rw [hW]; exact heap_three0 w _ _ _)
  obtain ⟨qb1, qb2, qb3, qb4⟩ := fr_cells (w := W) (b := w.heap.size + 1) (by rw [hW]; exact heap_three1 w _ _ _)
  have hbk := heap_three w (.cells #[.int .i64 A, .int .i64 (C : Int)] 24) (.cells #[.int .i64 B, .int .i64 (D : Int)] 24) (.cells #[.int .i64 0, .int .i64 0] 24)
  rw [← hW] at hbk
  have HBK := Lib.hid hbk
  clear hbk hW
  obtain ⟨c1, zc, zd, v1, v2, v3, v4, v5, v6⟩ := R.out
  have u1 : wrap64 ((C : Int) / (d : Int)) = c := by rw [← Int.tdiv_eq_ediv_of_nonneg (by omega), c1]; exact (IntWalk.i64_left _).symm.trans v1
  have u5 := (IntWalk.i64_left _).symm.trans v5
  have HGc : Hid (∀ q, Calls Try.prog 76 #[.int .i64 C, .int .i64 D] (W.drewN q) fun e w' => e = .returned (.int .i64 (d : Int)) ∧ ∃ m, w' = (W.drewN q).drewN m) := fun q => by
    have h := rgcd_any C D (W.drewN q) HdA HdB
    rw [HG.out] at h
    exact h
  go_quiet ((go_at_call 76; exact Calls.quiet_of (HGc.out _)))
  obtain ⟨W1, hW1⟩ : ∃ W1, W1 = W.drewN nq := ⟨_, rfl⟩
  have HBW1 : Hid (Below w.heap.size w W1) := by rw [hW1]; exact below_drewN HBW.out _
  have hs3 : W1.heap.size = w.heap.size + 3 := by rw [hW1]; exact hs1
  have ra1 : W1.cell? ⟨w.heap.size, 0, none⟩ = some (.int .i64 A) := by rw [hW1]; exact qa1
  have ra2 : W1.cell? ⟨w.heap.size, 1, none⟩ = some (.int .i64 (C : Int)) := by rw [hW1]; exact qa2
  have rb1 : W1.cell? ⟨w.heap.size + 1, 0, none⟩ = some (.int .i64 B) := by rw [hW1]; exact qb1
  have rb2 : W1.cell? ⟨w.heap.size + 1, 1, none⟩ = some (.int .i64 (D : Int)) := by rw [hW1]; exact qb2
  have HBK1 : Hid (W1.heap[w.heap.size + 1 + 1]? = some (.cells #[.int .i64 0, .int .i64 0] 24)) := by rw [hW1]; exact HBK.out
  rw [← hW1]
  clear hW1 qa1 qa2 qb1 qb2 qa3 qa4 qb3 qb4 c1 u1 u5 HBW HBK
  have w1' : wrap64 ((Z : Int) / (C : Int)) = e := by rw [← Int.tdiv_eq_ediv_of_nonneg (by omega), zc]; exact (IntWalk.i64_left _).symm.trans v2
  have w2' : wrap64 ((Z : Int) / (D : Int)) = c := by rw [← Int.tdiv_eq_ediv_of_nonneg (by omega), zd]; exact (IntWalk.i64_left _).symm.trans v1
  have w3' := (IntWalk.i64_left _).symm.trans v3
  have w4' := (IntWalk.i64_left _).symm.trans v4
  have w6' := (IntWalk.i64_left _).symm.trans v6
  go_wp2
  go_still_tail 16, (by kernel_rfl)
  change wpList _ _ _ _ _ W1.drew
  clear zc zd v1 v2 v3 v4 v5 v6 w1' w2' w3' w4' w6' ra1 ra2 rb1 rb2
  have HBW2 : Hid (Below w.heap.size w W1.drew) := HBW1.out.drew
  have hs2 : W1.drew.heap.size = w.heap.size + 3 := hs3
  have HBK2 : Hid (W1.drew.heap[w.heap.size + 1 + 1]? = some (.cells #[.int .i64 0, .int .i64 0] 24)) := HBK1.out
  clear HBW1 hs3 HBK1
  generalize W1.drew = W2 at *
  go_wp2_with fail
  refine (HF.out W2).mono ?_
  rintro e' w2 ⟨rfl, hb2⟩
  obtain ⟨q1, q2, q3, q4⟩ := fr_cells ((hb2.block (w.heap.size + 1 + 1) (by omega)).trans HBK2.out)
  have HB2 : Hid (Below w.heap.size w w2) := HBW2.out.trans (hb2.mono (by omega))
  clear hb2
  rw [HS.out.1, HS.out.2]
  go_wp2
  exact bodyPost_ret (v := .agg #[.int .i64 (frA (a + b) L), .int .i64 (frB (a + b) L : Nat)]) (by simp [results, Try.results55, go_sem, q1, q2]) rfl ⟨rfl, (HB2.out.setCell (by simp; omega) _).setCell (by simp; omega) _⟩

/-- The document's own mean of a set, kind by kind, over its weight and L. -/
def meT (z : Nat → Int) (D t j : Nat) : Int := (D : Int) + sumC (fun i => z i * mX z D (sdiff t (2 ^ i))) (kindsTo t j)
structure MStep (n : Nat) (z : Nat → Int) (L D t o : Nat) : Prop where
  o1 : 1 ≤ o ∧ o ≤ 54
  oe : ofS z t = o
  K1 : 1 ≤ o * L
  KM : o * L ≤ 1152921504606846976
  z0 : frA (ofS z (2 ^ n - 1)) o = frA (meT z D t 0) (o * L) ∧ frB (ofS z (2 ^ n - 1)) o = frB (meT z D t 0) (o * L)
  rg : ∀ i, i < n → t.testBit i = true → 0 ≤ mX z D (sdiff t (2 ^ i)) ∧ mX z D (sdiff t (2 ^ i)) ≤ 4611686018427387903 ∧ 0 ≤ z i * mX z D (sdiff t (2 ^ i))
  bd : ∀ j, j ≤ n → 0 ≤ meT z D t j ∧ meT z D t j ≤ 9223372036854775807
  yes : ∀ j, t.testBit j = true → meT z D t (j + 1) = meT z D t j + z j * mX z D (sdiff t (2 ^ j))
  no : ∀ j, t.testBit j = false → meT z D t (j + 1) = meT z D t j
  en : frA (meT z D t n) (o * L) = frA (mX z D t) L ∧ frB (meT z D t n) (o * L) = frB (mX z D t) L
theorem mstep_any {z : Nat → Int} {n L D t : Nat} (ht : t < 2 ^ n) (h0 : t ≠ 0) (h1n : 1 ≤ n) (hn : n ≤ 6) (h9 : ∀ j, j < n → 1 ≤ z j ∧ z j ≤ 9) (hF : MeanF n z L (mX z D)) (hD : (D : Int) = L * ofS z (2 ^ n - 1)) (hdD : DOk z D (2 ^ n - 1)) (hKM : D ≤ 1152921504606846976) : ∃ o, MStep n z L D t o := by
  have ht64 := lt64 ht hn
  have hf := full_lt hn
  have hf64 := lt64 hf hn
  have hf0 : 2 ^ n - 1 ≠ 0 := by
    have : 2 ^ 1 ≤ 2 ^ n := Nat.pow_le_pow_right (by decide) h1n
    omega
  have hal := of_pos hf hn hf0 h9
  have hot := of_pos ht hn h0 h9
  have hdf := ofS_diff z hf64 ht64 (full_sub ht)
  have hpos : 0 ≤ ofS z (sdiff (2 ^ n - 1) t) := by
    by_cases h : sdiff (2 ^ n - 1) t = 0
    · rw [h]; unfold ofS; rw [show kindsL 0 = [] by decide +kernel]; exact Int.le_refl _
    · have := (of_pos (sdiff_lt hf) hn h h9).1; omega
  obtain ⟨o, ho⟩ : ∃ o : Nat, ofS z t = o := ⟨(ofS z t).toNat, by omega⟩
  obtain ⟨al, hae⟩ : ∃ al : Nat, ofS z (2 ^ n - 1) = al := ⟨(ofS z (2 ^ n - 1)).toNat, by omega⟩
  have hL1 := hF.L1
  have hoal : o ≤ al := by omega
  rw [hae] at hD
  have hDn : D = L * al := by rw [← Int.natCast_mul] at hD; exact Int.ofNat_inj.1 hD
  have hK : o * L ≤ D := by rw [hDn, Nat.mul_comm L al]; exact Nat.mul_le_mul_right _ hoal
  have hK1 : 1 ≤ o * L := Nat.mul_pos (by omega) (by omega)
  have hrg : ∀ i, i < n → t.testBit i = true → 0 ≤ mX z D (sdiff t (2 ^ i)) ∧ mX z D (sdiff t (2 ^ i)) ≤ 4611686018427387903 ∧ 0 ≤ z i * mX z D (sdiff t (2 ^ i)) := fun i hi hb => by
    have h := hF.rg (sdiff t (2 ^ i)) (sdiff_lt ht)
    exact ⟨h.1, h.2.1, Int.mul_nonneg (by have := h9 i hi; omega) h.1⟩
  have hst := mX_step ht64 ht64 (sub_self t) (hdD.sub (full_sub ht))
  rw [if_neg h0] at hst
  have hend : meT z D t n = (o : Int) * mX z D t := by
    unfold meT sumC
    rw [kindsTo_end ht hn, hst, ho]; omega
  have hmo := hF.mo (2 ^ n - 1) t hf (full_sub ht)
  have hmp := (hF.rg t ht).1
  have hmal := hF.al
  rw [hae] at hmal
  have htop : (o : Int) * mX z D t ≤ 9223372036854775807 := by
    have h1 : (o : Int) * mX z D t ≤ (al : Int) * mX z D t := Int.mul_le_mul_of_nonneg_right (by omega) hmp
    have h2 : (al : Int) * mX z D t ≤ (al : Int) * mX z D (2 ^ n - 1) := Int.mul_le_mul_of_nonneg_left hmo (by omega)
    omega
  refine ⟨o, ⟨by omega, ho, hK1, by omega, ?_, hrg, fun j hj => ?_, fun j hb => ?_, fun j hb => ?_, ?_⟩⟩
  · have h := fr_scale (ofS z (2 ^ n - 1)) o (c := L) (by omega)
    have e : meT z D t 0 = ofS z (2 ^ n - 1) * (L : Int) := by
      have : meT z D t 0 = (D : Int) := by unfold meT sumC; simp [kindsTo]
      rw [this, hae, hD, Int.mul_comm]
    rw [e]; exact ⟨h.1.symm, h.2.symm⟩
  · have hsub : (kindsTo t j).Sublist (kindsL t) := (kindsTo_le (by omega : j ≤ 6)).sublist
    have hp : ∀ i ∈ kindsL t, 0 ≤ z i * mX z D (sdiff t (2 ^ i)) := fun i hi => (hrg i (kindsL_in ht hi) (kinds_bit hi)).2.2
    have h1 := sumA_pos (fun i hi => hp i (hsub.subset hi))
    have h2 := sumA_sub (fun i => z i * mX z D (sdiff t (2 ^ i))) hsub
    have h3 := sumA_pos hp
    have h5 : (D : Int) + sumC (fun i => z i * mX z D (sdiff t (2 ^ i))) (kindsL t) = (o : Int) * mX z D t := by
      unfold sumC; rw [hst, ho]; omega
    unfold meT
    clear hst hend hmal hmo hdf hpos
    omega
  · unfold meT; rw [kindsTo_yes hb, sumC_snoc]; omega
  · unfold meT; rw [kindsTo_no hb]
  · rw [hend]
    have h := fr_scale (mX z D t) L (c := o) (by omega)
    rw [Int.mul_comm (o : Int), Nat.mul_comm o L]
    exact h
end Go.Proofs.Ytgednacoeifclaa
