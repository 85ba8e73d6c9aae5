import Derived.Test.YtkbbijhknbcflaaB1
/-
  The program's Reach and Always.
-/
namespace Go.Proofs.Ytkbbijhknbcflaa
open Go.RowKit Go.Shelf

/-- A works in memory: its next states and its marks. -/
structure Wk (W : World) (aN : Option Addr) (n : Nat) (aM : Option Addr) (nx mk : Nat → Nat) : Prop where
  n6 : n ≤ 6
  N : Ints W aN n (fun i => (nx i : Int))
  M : Ints W aM n (fun i => (mk i : Int))
  nx_lt : ∀ i, i < n → nx i < 2 ^ n
  mk_lt : ∀ i, i < n → mk i < 16
theorem Wk.keep {W W' : World} {aN : Option Addr} {n : Nat} {aM : Option Addr} {nx mk : Nat → Nat} (h : Wk W aN n aM nx mk) {B : Nat} (hB : W.heap.size ≤ B) (hb : Below B W W') : Wk W' aN n aM nx mk :=
  ⟨h.n6, h.N.keep hB hb, h.M.keep hB hb, h.nx_lt, h.mk_lt⟩
theorem Wk.before {W : World} {aN : Option Addr} {n : Nat} {aM : Option Addr} {nx mk : Nat → Nat} (h : Wk W aN n aM nx mk) (cN cM : Nat) (X : Nat) (hX : X < 2 ^ n) :
    Calls Try.prog 29 #[wkV aN n cN aM n cM, .int .i64 (X : Int)] W fun e w' => e = .returned (.int .i64 ((bef nx X n : Nat) : Int)) ∧ Below W.heap.size W w' :=
  before_any aN n cN aM n cM nx X W h.n6 h.N (fun i hi => lt64 (h.nx_lt i hi) h.n6) (lt64 hX h.n6)
theorem Wk.marked {W : World} {aN : Option Addr} {n : Nat} {aM : Option Addr} {nx mk : Nat → Nat} (h : Wk W aN n aM nx mk) (cN cM : Nat) (j : Nat) (hj : j ≤ 3) :
    Calls Try.prog 51 #[wkV aN n cN aM n cM, .int .i64 (j : Int)] W fun e w' => e = .returned (.int .i64 ((mkd mk j n : Nat) : Int)) ∧ Below W.heap.size W w' :=
  marked_any aN n cN aM n cM mk j W h.n6 h.M (fun i hi => by have := h.mk_lt i hi; omega) hj

/-- The boxes that a closure holds: a set, a works. -/
structure CB3 (bS bW : Nat) (s : Int) (aN : Option Addr) (n cN : Nat) (aM : Option Addr) (m cM : Nat) (W : World) : Prop where
  c0 : W.cell? ⟨bS, 0, none⟩ = some (.int .i64 s)
  c1 : W.cell? ⟨bW, 0, none⟩ = some (.slice aN n cN)
  c2 : W.cell? ⟨bW, 1, none⟩ = some (.slice aM m cM)
theorem CB3.keep {bS bW : Nat} {s : Int} {aN : Option Addr} {n cN : Nat} {aM : Option Addr} {m cM : Nat} {W W' : World} (h : CB3 bS bW s aN n cN aM m cM W) (hb : Below W.heap.size W W') : CB3 bS bW s aN n cN aM m cM W' :=
  ⟨(hb.cell (World.block_lt_of_cell? _ _ h.c0)).trans h.c0, (hb.cell (World.block_lt_of_cell? _ _ h.c1)).trans h.c1, (hb.cell (World.block_lt_of_cell? _ _ h.c2)).trans h.c2⟩
theorem CB3.all {bS bW : Nat} {s : Int} {aN : Option Addr} {n cN : Nat} {aM : Option Addr} {m cM : Nat} {W : World} (h : CB3 bS bW s aN n cN aM m cM W) :
    W.cell? ⟨bS, 0, none⟩ = some (.int .i64 s) ∧ W.cell? ⟨bW, 0, none⟩ = some (.slice aN n cN) ∧ W.cell? ⟨bW, 1, none⟩ = some (.slice aM m cM) := ⟨h.c0, h.c1, h.c2⟩
theorem CB3.start (s : Int) (aN : Option Addr) (n cN : Nat) (aM : Option Addr) (m cM : Nat) (w : World) : CB3 (w.heap.size + 1) w.heap.size s aN n cN aM m cM ((w.alloc (.cells #[.slice aN n cN, .slice aM m cM] 28)).alloc (.cells #[.int .i64 s] 3)) :=
  ⟨block_cell (heap_two2 _ _ _) 0, block_cell (heap_two1 _ _ _) 0, block_cell (heap_two1 _ _ _) 1⟩

set_option maxHeartbeats 4000000 in
set_option maxRecDepth 100000 in
theorem reach1_any (aN : Option Addr) (n cN : Nat) (aM : Option Addr) (cM : Nat) (nx mk : Nat → Nat) (s X bS bW : Nat) (W : World) (h : Wk W aN n aM nx mk) (hs : s < 2 ^ n) (hX : X < 2 ^ n)
    (hS : W.cell? ⟨bS, 0, none⟩ = some (.int .i64 (s : Int))) (hW0 : W.cell? ⟨bW, 0, none⟩ = some (.slice aN n cN)) (hW1 : W.cell? ⟨bW, 1, none⟩ = some (.slice aM n cM)) :
    Calls Try.prog 28 #[.int .i64 (X : Int), .pointer (some ⟨bS, 0, none⟩), .pointer (some ⟨bW, 0, none⟩)] W fun e w' => e = .returned (.int .i64 (reF n nx s X : Nat)) ∧ Below W.heap.size W w' := by
  have HB := Lib.hid (fun W' (hb : Below W.heap.size W W') => (h.keep (Nat.le_refl _) hb).before cN cM X hX)
  have h6 := h.n6
  have HO : Hid (bits .or .i64 (s : Int) ((bef nx X n : Nat) : Int) = (reF n nx s X : Nat)) := bor_nat _ _ (Nat.lt_of_lt_of_le (lt64 hs h6) (by decide)) (Nat.lt_of_lt_of_le (lt64 (bef_lt nx X n) h6) (by decide))
  have HC : Hid (CB3 bS bW s aN n cN aM n cM W) := ⟨hS, hW0, hW1⟩
  clear h
  go_enter Try.func28, Try.ntmps28
  go_wp2
  go_region_held3 (fun w' => w'.cell? ⟨bS, 0, none⟩ = some (.int .i64 (s : Int)) ∧ w'.cell? ⟨bW, 0, none⟩ = some (.slice aN n cN) ∧ w'.cell? ⟨bW, 1, none⟩ = some (.slice aM n cM))
    (first
      | go_keep
      | (go_split_ands; exact (HC.out.keep HB1.out).all))
    ((first
      | ((with_reducible refine (HB.out _ (Below.refl _ _).drew).mono ?_); rintro e w1 ⟨rfl, hb1⟩; have HB1 := Lib.hid (below_drew1 hb1); clear hb1)))
  all_goals
    go_wp2
    go_ret
    exact ⟨by rw [HO.out]; rfl, HB1.out⟩
set_option maxHeartbeats 4000000 in
set_option maxRecDepth 100000 in
theorem always1_any (aN : Option Addr) (n cN : Nat) (aM : Option Addr) (cM : Nat) (nx mk : Nat → Nat) (s X bS bW : Nat) (W : World) (h : Wk W aN n aM nx mk) (hs : s < 2 ^ n) (hX : X < 2 ^ n)
    (hS : W.cell? ⟨bS, 0, none⟩ = some (.int .i64 (s : Int))) (hW0 : W.cell? ⟨bW, 0, none⟩ = some (.slice aN n cN)) (hW1 : W.cell? ⟨bW, 1, none⟩ = some (.slice aM n cM)) :
    Calls Try.prog 32 #[.int .i64 (X : Int), .pointer (some ⟨bS, 0, none⟩), .pointer (some ⟨bW, 0, none⟩)] W fun e w' => e = .returned (.int .i64 (stF n nx s X : Nat)) ∧ Below W.heap.size W w' := by
  have HB := Lib.hid (fun W' (hb : Below W.heap.size W W') => (h.keep (Nat.le_refl _) hb).before cN cM X hX)
  have h6 := h.n6
  have HO : Hid (bits .and .i64 (s : Int) ((bef nx X n : Nat) : Int) = (stF n nx s X : Nat)) := band_nat _ _ (Nat.lt_of_lt_of_le (lt64 hs h6) (by decide)) (Nat.lt_of_lt_of_le (lt64 (bef_lt nx X n) h6) (by decide))
  have HC : Hid (CB3 bS bW s aN n cN aM n cM W) := ⟨hS, hW0, hW1⟩
  clear h
  go_enter Try.func32, Try.ntmps32
  go_wp2
  go_region_held3 (fun w' => w'.cell? ⟨bS, 0, none⟩ = some (.int .i64 (s : Int)) ∧ w'.cell? ⟨bW, 0, none⟩ = some (.slice aN n cN) ∧ w'.cell? ⟨bW, 1, none⟩ = some (.slice aM n cM))
    (first
      | go_keep
      | (go_split_ands; exact (HC.out.keep HB1.out).all))
    ((first
      | ((with_reducible refine (HB.out _ (Below.refl _ _).drew).mono ?_); rintro e w1 ⟨rfl, hb1⟩; have HB1 := Lib.hid (below_drew1 hb1); clear hb1)))
  all_goals
    go_wp2
    go_ret
    exact ⟨by rw [HO.out]; rfl, HB1.out⟩

theorem valid_r (r : Bool) (aN : Option Addr) (n cN : Nat) (aM : Option Addr) (m cM : Nat) (T L : Nat → Int) (w : World) (hr : isWk n m T L = r) (hn : n ≤ 9) (hm : m ≤ 9) (hT : Ints w aN n T) (hL : Ints w aM m L) :
    Calls Try.prog 25 #[wkV aN n cN aM m cM] w fun e w' => SomeB r w e w' := by
  subst hr; exact valid_any aN n cN aM m cM T L w hn hm hT hL
/-- A valid works, in plain numbers. -/
def nat (T : Nat → Int) : Nat → Nat := fun i => (T i).toNat
theorem ints_congr {w : World} {a : Option Addr} {n : Nat} {z z' : Nat → Int} (h : Ints w a n z) (e : ∀ j, j < n → z j = z' j) : Ints w a n z' := fun j hj => by
  obtain ⟨b, o, ha, hc⟩ := h j hj; exact ⟨b, o, ha, by rw [← e j hj]; exact hc⟩
theorem wk_of {n m : Nat} {T L : Nat → Int} (h : isWk n m T L = true) {W : World} {aN aM : Option Addr} (hT : Ints W aN n T) (hL : Ints W aM m L) : Wk W aN n aM (nat T) (nat L) := by
  obtain ⟨h1, h2, h3, h4⟩ := isWk_iff.1 h
  subst h3
  have hp : 1 ≤ 2 ^ m := Nat.one_le_two_pow
  exact ⟨h2, ints_congr hT (fun j hj => by have := h4 j hj; unfold nat; omega), ints_congr hL (fun j hj => by have := h4 j hj; unfold nat; omega),
    fun i hi => by have := h4 i hi; unfold nat; omega, fun i hi => by have := h4 i hi; unfold nat; omega⟩

/-- A number and that all is well; or 0 and an error. -/
def NumOut (x : Int) (er : Int) (w : World) (e : Ending) (w' : World) : Prop := e = .returned (.tuple #[.int .i64 x, .int .i64 er]) ∧ Below w.heap.size w w'

set_option maxHeartbeats 4000000 in
set_option maxRecDepth 100000 in
theorem fReach_good (aN : Option Addr) (n cN : Nat) (aM : Option Addr) (m cM : Nat) (T L : Nat → Int) (s : Nat) (w : World) (hv : isWk n m T L = true) (hs : s < 2 ^ n) (hT : Ints w aN n T) (hL : Ints w aM m L) :
    Calls Try.prog 8 #[wkV aN n cN aM m cM, .int .i64 (s : Int)] w fun e w' => NumOut (fixp false n (reF n (nat T) s) : Nat) 0 w e w' := by
  obtain ⟨k, hk, hF⟩ := (reF_mono (nx := nat T) hs).first false
  have HE := Lib.hid (hF.stay hk)
  obtain ⟨h1, h6, hmn, _⟩ := isWk_iff.1 hv
  subst hmn
  obtain ⟨W, hW⟩ : ∃ W, W = (w.alloc (.cells #[.slice aN m cN, .slice aM m cM] 28)).alloc (.cells #[.int .i64 (s : Int)] 3) := ⟨_, rfl⟩
  have HB0 : Hid (Below w.heap.size w W) := by rw [hW]; exact below_two _ _ _
  have HC0 : Hid (CB3 (w.heap.size + 1) w.heap.size s aN m cN aM m cM W) := by rw [hW]; exact CB3.start _ _ _ _ _ _ _ _
  have hTW := hT.keep (Nat.le_refl _) HB0.out
  have hLW := hL.keep (Nat.le_refl _) HB0.out
  have HWk := Lib.hid (wk_of hv hTW hLW)
  have HV := Lib.hid (valid_r true aN m cN aM m cM T L W hv (by omega) (by omega) hTW hLW)
  have HS := Lib.hid (fun W => isSet_any true aN m cN aM m cM (s : Int) W (by omega) (decide_eq_true ⟨by omega, by have := Nat.one_le_two_pow (n := m); omega⟩))
  have HW := Lib.hid hW
  have hz : W.heap.size = w.heap.size + 2 := by rw [hW]; simp
  have HFst := Lib.hid hF
  have Hs := Lib.hid hs
  clear hW hTW hLW hT hL hF hs hv
  obtain ⟨q0, q1, q2⟩ := HC0.out
  go_enter Try.func8, Try.ntmps8
  go_wp2_with fail
  rw [← HW.out]
  refine HV.out.mono ?_
  rintro e w1 ⟨rfl, hb1⟩
  have HC1 := Lib.hid (HC0.out.keep hb1)
  have HB1 := Lib.hid (HB0.out.trans (hb1.mono (by omega)))
  have HK1 := Lib.hid (HWk.out.keep (Nat.le_refl _) hb1)
  clear hb1 q0 q1 q2
  obtain ⟨q0, q1, q2⟩ := HC1.out
  go_wp2_with fail
  refine (HS.out _).mono ?_
  rintro e w2 ⟨rfl, hb2⟩
  have HC2 := Lib.hid (HC1.out.keep hb2)
  have HB2 := Lib.hid (HB1.out.trans (hb2.mono HB1.out.size))
  have HK2 := Lib.hid (HK1.out.keep (Nat.le_refl _) hb2)
  clear hb2 q0 q1 q2
  obtain ⟨q0, q1, q2⟩ := HC2.out
  have HSet := Lib.hid (settle_any (reF m (nat T) s) m 0 k 28 #[.pointer (some ⟨w.heap.size + 1, 0, none⟩), .pointer (some ⟨w.heap.size, 0, none⟩)] (fun _ W => Below w2.heap.size w2 W) w2 h6
    (fun X hX => (reF_mono Hs.out).lt hX) (Nat.two_pow_pos m) HFst.out hk (enters_of Try.func28 (by kernel_rfl) rfl)
    (fun X hX i W hb => by
      have hc := HC2.out.keep hb
      exact (reach1_any aN m cN aM cM (nat T) (nat L) s X _ _ W (HK2.out.keep (Nat.le_refl _) hb) Hs.out hX hc.c0 hc.c1 hc.c2).mono fun e W' h => ⟨h.1, hb.trans (h.2.mono hb.size)⟩)
    (Below.refl _ _))
  go_wp2_with fail
  refine HSet.out.mono ?_
  rintro e w3 ⟨rfl, hb3⟩
  have HB3 : Hid (Below w.heap.size w w3) := HB2.out.trans (hb3.mono HB2.out.size)
  have HR : Hid (iter (reF m (nat T) s) 0 k = fixp false m (reF m (nat T) s)) := HE.out.symm
  clear hb3
  go_wp2
  exact bodyPost_ret (v := .tuple #[.int .i64 (fixp false m (reF m (nat T) s) : Nat), .int .i64 0]) (by simp [results, Try.results8, go_sem, HR.out]) rfl ⟨rfl, HB3.out⟩

set_option maxHeartbeats 4000000 in
set_option maxRecDepth 100000 in
theorem fReach_bad (aN : Option Addr) (n cN : Nat) (aM : Option Addr) (m cM : Nat) (T L : Nat → Int) (s : Int) (w : World) (hn : n ≤ 9) (hm : m ≤ 9) (hb : isWk n m T L = false ∨ ¬ (0 ≤ s ∧ s ≤ ((2 ^ n - 1 : Nat) : Int))) (hT : Ints w aN n T) (hL : Ints w aM m L) :
    Calls Try.prog 8 #[wkV aN n cN aM m cM, .int .i64 s] w fun e w' => NumOut 0 2 w e w' := by
  obtain ⟨W, hW⟩ : ∃ W, W = (w.alloc (.cells #[.slice aN n cN, .slice aM m cM] 28)).alloc (.cells #[.int .i64 s] 3) := ⟨_, rfl⟩
  have HB0 : Hid (Below w.heap.size w W) := by rw [hW]; exact below_two _ _ _
  have HC0 : Hid (CB3 (w.heap.size + 1) w.heap.size s aN n cN aM m cM W) := by rw [hW]; exact CB3.start _ _ _ _ _ _ _ _
  have hTW := hT.keep (Nat.le_refl _) HB0.out
  have hLW := hL.keep (Nat.le_refl _) HB0.out
  have HW := Lib.hid hW
  have hz : W.heap.size = w.heap.size + 2 := by rw [hW]; simp
  cases hv : isWk n m T L
  · have HV := Lib.hid (valid_r false aN n cN aM m cM T L W hv hn hm hTW hLW)
    clear hW hTW hLW hT hL hb hv
    obtain ⟨q0, q1, q2⟩ := HC0.out
    go_enter Try.func8, Try.ntmps8
    go_wp2_with fail
    rw [← HW.out]
    refine HV.out.mono ?_
    rintro e w1 ⟨rfl, hb1⟩
    have HB1 := Lib.hid (HB0.out.trans (hb1.mono (by omega)))
    clear hb1 q0 q1 q2
    go_wp2
    exact bodyPost_ret (v := .tuple #[.int .i64 0, .int .i64 2]) (by simp [results, Try.results8, go_sem]) rfl ⟨rfl, HB1.out⟩
  · have hs : ¬ (0 ≤ s ∧ s ≤ ((2 ^ n - 1 : Nat) : Int)) := hb.resolve_left (by rw [hv]; decide)
    have HV := Lib.hid (valid_r true aN n cN aM m cM T L W hv hn hm hTW hLW)
    have HS := Lib.hid (fun W => isSet_any false aN n cN aM m cM s W hn (decide_eq_false hs))
    clear hW hTW hLW hT hL hb hv hs
    obtain ⟨q0, q1, q2⟩ := HC0.out
    go_enter Try.func8, Try.ntmps8
    go_wp2_with fail
    rw [← HW.out]
    refine HV.out.mono ?_
    rintro e w1 ⟨rfl, hb1⟩
    have HC1 := Lib.hid (HC0.out.keep hb1)
    have HB1 := Lib.hid (HB0.out.trans (hb1.mono (by omega)))
    clear hb1 q0 q1 q2
    obtain ⟨q0, q1, q2⟩ := HC1.out
    go_wp2_with fail
    refine (HS.out _).mono ?_
    rintro e w2 ⟨rfl, hb2⟩
    have HB2 := Lib.hid (HB1.out.trans (hb2.mono HB1.out.size))
    clear hb2 q0 q1 q2
    go_wp2
    exact bodyPost_ret (v := .tuple #[.int .i64 0, .int .i64 2]) (by simp [results, Try.results8, go_sem]) rfl ⟨rfl, HB2.out⟩
end Go.Proofs.Ytkbbijhknbcflaa
