import Derived.Test.YtgednacoeifclaaD1
namespace Go.Proofs.Ytgednacoeifclaa
open Go.RowKit Go.Shelf

/-- What 'without' hands back. -/
def WoOut (a : Option Addr) (n cap set k : Nat) (all : Int) (w : World) (e : Ending) (w' : World) : Prop :=
  ∃ b, e = .returned (.func (.func 92) #[] #[.pointer (some ⟨w.heap.size, 0, none⟩), .pointer (some ⟨w.heap.size + 1, 0, none⟩), .pointer (some ⟨w.heap.size + 1 + 1, 0, none⟩), .pointer (some ⟨b, 0, none⟩)]) ∧
    WoAt w' w.heap.size (w.heap.size + 1) (w.heap.size + 1 + 1) b a n cap set k all ∧ Below w.heap.size w w'

/-- The three boxes. -/
structure W3At (W : World) (B : Nat) (a : Option Addr) (n cap set k : Nat) : Prop where
  c1 : W.cell? ⟨B, 0, none⟩ = some (.slice a n cap)
  c2 : W.cell? ⟨B + 1, 0, none⟩ = some (.int .i64 set)
  c3 : W.cell? ⟨B + 1 + 1, 0, none⟩ = some (.int .i64 k)
  lt : B + 1 + 1 < W.heap.size
theorem W3At.cells {W : World} {B : Nat} {a : Option Addr} {n cap set k : Nat} (h : W3At W B a n cap set k) : W.cell? ⟨B, 0, none⟩ = some (.slice a n cap) ∧ W.cell? ⟨B + 1, 0, none⟩ = some (.int .i64 set) ∧ W.cell? ⟨B + 1 + 1, 0, none⟩ = some (.int .i64 k) := ⟨h.c1, h.c2, h.c3⟩
theorem W3At.low {W W' : World} {B : Nat} {a : Option Addr} {n cap set k : Nat} (h : W3At W B a n cap set k) (hb : Below (B + 1 + 1 + 1) W W') : W3At W' B a n cap set k :=
  ⟨(hb.cell (p := ⟨B, 0, none⟩) (by show B < B + 1 + 1 + 1; omega)).trans h.c1, (hb.cell (p := ⟨B + 1, 0, none⟩) (by show B + 1 < B + 1 + 1 + 1; omega)).trans h.c2, (hb.cell (p := ⟨B + 1 + 1, 0, none⟩) (by show B + 1 + 1 < B + 1 + 1 + 1; omega)).trans h.c3, Nat.lt_of_lt_of_le h.lt hb.size⟩
theorem W3At.keep {W W' : World} {B : Nat} {a : Option Addr} {n cap set k : Nat} (h : W3At W B a n cap set k) (hb : Below W.heap.size W W') : W3At W' B a n cap set k := h.low (hb.mono h.lt)

theorem below_al1 {W w1 : World} {o : Obj} (h : Below (W.alloc o).drew.heap.size (W.alloc o).drew w1) : Below W.heap.size W w1 := ((below_one W o).drew).trans (h.mono (by show W.heap.size ≤ (W.alloc o).heap.size; simp))
theorem blk_al1 {W w1 : World} {o : Obj} (h : Below (W.alloc o).drew.heap.size (W.alloc o).drew w1) : w1.heap[W.heap.size]? = some o := (h.block W.heap.size (by show W.heap.size < (W.alloc o).heap.size; simp)).trans (heap_alloc_new W o)
theorem wo_blk {W w1 : World} {b : Nat} {o : Obj} (h : w1.heap[W.heap.size]? = some o) (hs : W.heap.size = b + 3) : w1.heap[b + 3]? = some o := by rw [← hs]; exact h
theorem below_cell (W : World) (b : Nat) (v : Value) : Below (b + 1 + 1 + 1) W (W.setCell ⟨b + 3, 0, none⟩ v) := Below.setCell (p := ⟨b + 3, 0, none⟩) (Below.refl _ W) (Nat.le_refl _) v

set_option maxRecDepth 100000 in
set_option maxHeartbeats 8000000 in
theorem without_any (a : Option Addr) (n cap : Nat) (z : Nat → Int) (set k : Nat) (w : World) (h1n : 1 ≤ n) (hn : n ≤ 6) (hz : Ints w a n z) (h9 : ∀ j, j < n → 1 ≤ z j ∧ z j ≤ 9) (hk : k ≤ 8) :
    Calls Try.prog 77 #[.slice a n cap, .int .i64 set, .int .i64 k] w fun e w' => WoOut a n cap set k (((ofS z (2 ^ n - 1)).toNat ^ k : Nat) : Int) w e w' := by
  obtain ⟨p1, p2⟩ := pow_6 hn
  have hall : 2 ^ n - 1 < 2 ^ n := by omega
  have hall0 : 2 ^ n - 1 ≠ 0 := by
    have : 2 ^ 1 ≤ 2 ^ n := Nat.pow_le_pow_right (by decide) h1n
    omega
  have hof := of_pos hall hn hall0 h9
  obtain ⟨w3, hw3⟩ : ∃ w3, w3 = ((w.alloc (.cells #[.slice a n cap] 53)).alloc (.cells #[.int .i64 set] 3)).alloc (.cells #[.int .i64 k] 3) := ⟨_, rfl⟩
  have hb3 : Below w.heap.size w w3 := by rw [hw3]; exact (below_two _ _ _).alloc (by simp; omega) _
  have hs3 : w3.heap.size = w.heap.size + 3 := by rw [hw3]; simp
  have h3 : W3At w3 w.heap.size a n cap set k := ⟨by rw [hw3]; exact block_cell (heap_three0 w _ _ _) 0, by rw [hw3]; exact block_cell (heap_three1 w _ _ _) 0, by rw [hw3]; exact block_cell (heap_three w _ _ _) 0, by omega⟩
  obtain ⟨m, hm⟩ : ∃ m : Nat, ofS z (2 ^ n - 1) = m := ⟨(ofS z (2 ^ n - 1)).toNat, by omega⟩
  have hm54 : m ≤ 54 := by omega
  have HOf : Hid (∀ W, Below w.heap.size w W → Calls Try.prog 74 #[.slice a n cap, .int .i64 ((2 ^ n - 1 : Nat) : Int)] W fun e w' => e = .returned (.int .i64 m) ∧ Below W.heap.size W w') := fun W hW => by
    have h := of_any a n cap z (2 ^ n - 1) W hall hn (hz.keep (Nat.le_refl _) hW) h9
    rw [hm] at h
    exact h
  have hp := fun W => power_any m k W (by omega) (fun j hj => by have := pow54n hm54 (k := j) (by omega); omega)
  have HP := Lib.hid hp
  have HB3 := Lib.hid hb3
  have H3 := Lib.hid h3
  have HW3 := Lib.hid hw3
  rw [hm]
  clear hp hb3 h3 hw3 hm hof hz h9
  obtain ⟨q1, q2, q3⟩ := H3.out.cells
  rw [show ((m : Int).toNat) = m from rfl]
  generalize m ^ k = M at *
  go_enter Try.func77, Try.ntmps77
  go_wp2_with fail
  rw [← HW3.out]
  go_region_held3 (fun w' => w'.cell? ⟨w.heap.size, 0, none⟩ = some (.slice a n cap) ∧ w'.cell? ⟨w.heap.size + 1, 0, none⟩ = some (.int .i64 set) ∧ w'.cell? ⟨w.heap.size + 1 + 1, 0, none⟩ = some (.int .i64 k))
    (first
      | (go_split_ands; exact (HC1.out.keep (below_one _ _)).cells)
      | (go_split_ands; exact HC1.out.cells)
      | (go_split_ands; exact H3.out.cells)
      | (go_split_ands; exact (H3.out.keep (below_one _ _)).cells)
      | (go_split_ands; exact (HC1.out.low (below_cell w1 w.heap.size _)).cells)
      | go_keep)
    ((first
      | ((with_reducible refine (all_any a n cap _ hn).mono ?_); rintro e w' ⟨rfl, rfl⟩)
      | ((with_reducible refine (HOf.out _ HB3.out.drew).mono ?_); rintro e w1 ⟨rfl, hb1⟩; have HB1 := Lib.hid (below_drew1 hb1); have HC1 := Lib.hid (H3.out.keep HB1.out); clear hb1)
      | ((with_reducible refine (HOf.out _ (HB3.out.trans ((below_one w3 (.cells #[.int .i64 0] 3)).mono HB3.out.size)).drew).mono ?_); rintro e w1 ⟨rfl, hb1⟩; have HB1 := Lib.hid (below_al1 hb1); have HC1 := Lib.hid (H3.out.keep HB1.out); have HA1 := Lib.hid (blk_al1 hb1); have ha1 := HA1.out; rw [hs3] at ha1; have f1 := block_free ha1 0; have g1 := block_cell ha1 0; clear hb1 ha1)
      | ((with_reducible refine (HP.out _).mono ?_); rintro e w2 ⟨rfl, rfl⟩)))
  all_goals
    have HBw : Hid (Below w.heap.size w w1) := HB3.out.trans (HB1.out.mono (by omega))
    go_wp2
    go_ret
    first
      | exact ⟨w1.heap.size, rfl, ⟨(HC1.out.keep (below_one _ _)).c1, (HC1.out.keep (below_one _ _)).c2, (HC1.out.keep (below_one _ _)).c3, block_cell (heap_alloc_new w1 _) 0⟩, HBw.out.alloc HBw.out.size _⟩
      | exact ⟨w.heap.size + 3, rfl, ⟨(HC1.out.low (below_cell w1 w.heap.size _)).c1, (HC1.out.low (below_cell w1 w.heap.size _)).c2, (HC1.out.low (below_cell w1 w.heap.size _)).c3, block_cell (set_block (j := 0) (wo_blk HA1.out hs3) _) 0⟩, HBw.out.setCell (by simp) _⟩

/-- Over L, the chance that a set is there; that just its kinds came. -/
def doC (z : Nat → Int) (full s k : Nat) : Int := sumC (alC (woC z full k)) (partsL s)

theorem woC_abs {z : Nat → Int} {n set k : Nat} (hset : set < 2 ^ n) (h9 : ∀ j, j < n → 1 ≤ z j ∧ z j ≤ 9) (hk : k ≤ 8) (x : Nat) : (woC z set k x).natAbs ≤ 72301961339136 := by
  have hsd : sdiff set x < 2 ^ n := Nat.lt_of_le_of_lt (sdiff_le _ _) hset
  have hof := of_bd hsd h9
  have := pow54n (m := (ofS z (sdiff set x)).toNat) (by omega) hk
  unfold woC
  omega
theorem sumA_le {c : Nat → Int} {M : Nat} (h : ∀ x, (c x).natAbs ≤ M) : ∀ xs : List Nat, sumA c xs ≤ xs.length * M
  | [] => by simp [sumA]
  | x :: xs => by
    have := sumA_le h xs
    have h1 := h x
    simp only [sumA, List.map_cons, List.sum_cons, List.length_cons, Nat.add_mul] at this ⊢
    omega
theorem partsL_len (s : Nat) : (partsL s).length ≤ 64 := Nat.le_trans (List.length_filter_le _ _) (by simp)

set_option maxRecDepth 100000 in
set_option maxHeartbeats 4000000 in
/-- 'done' and 'exact' end alike. -/
theorem wo_alt (a : Option Addr) (n cap : Nat) (z : Nat → Int) (set s k : Nat) (b1 b2 b3 b4 : Nat) (w : World) (hset : set < 2 ^ n) (hs : s < 2 ^ n) (h1n : 1 ≤ n) (hn : n ≤ 6) (hz : Ints w a n z) (h9 : ∀ j, j < n → 1 ≤ z j ∧ z j ≤ 9)
    (hk : k ≤ 8) (hc : WoAt w b1 b2 b3 b4 a n cap set k (((ofS z (2 ^ n - 1)).toNat ^ k : Nat) : Int)) :
    Calls Try.prog 71 #[.int .i64 s, .func (.func 92) #[] #[.pointer (some ⟨b1, 0, none⟩), .pointer (some ⟨b2, 0, none⟩), .pointer (some ⟨b3, 0, none⟩), .pointer (some ⟨b4, 0, none⟩)]] w fun e w' =>
      e = .returned (.agg #[.int .i64 (frA (doC z set s k) ((ofS z (2 ^ n - 1)).toNat ^ k)), .int .i64 (frB (doC z set s k) ((ofS z (2 ^ n - 1)).toNat ^ k) : Nat)]) ∧ Below w.heap.size w w' := by
  obtain ⟨p1, p2⟩ := pow_6 hn
  have hall : 2 ^ n - 1 < 2 ^ n := by omega
  have hall0 : 2 ^ n - 1 ≠ 0 := by
    have : 2 ^ 1 ≤ 2 ^ n := Nat.pow_le_pow_right (by decide) h1n
    omega
  have hof := of_pos hall hn hall0 h9
  have hA1 : 1 ≤ (ofS z (2 ^ n - 1)).toNat := by omega
  have hA : (ofS z (2 ^ n - 1)).toNat ≤ 54 := by omega
  have hnum := without1_any a n cap z set k (ofS z (2 ^ n - 1)).toNat (partsL s) b1 b2 b3 b4 w hset hn hz h9 hk hA1 hA hc (fun x hx => partsL_lt hx)
  have hL := pow54n hA hk
  have hL1 : 1 ≤ (ofS z (2 ^ n - 1)).toNat ^ k := Nat.one_le_pow _ _ hA1
  have hab := sumA_le (c := woC z set k) (woC_abs hset h9 hk) (partsL s)
  have hlen := partsL_len s
  have hm : (partsL s).length * 72301961339136 ≤ 64 * 72301961339136 := Nat.mul_le_mul_right _ hlen
  exact alternate_any s 92 _ (woC z set k) ((ofS z (2 ^ n - 1)).toNat ^ k) w (lt64 hs hn) (enters_of Try.func92 (by kernel_rfl) rfl) hL1 (by omega) hnum (by omega)
end Go.Proofs.Ytgednacoeifclaa
