import Derived.Test.YtgednacoeifclaaF1
namespace Go.Proofs.Ytgednacoeifclaa
open Go.RowKit Go.Shelf

/-- A set without another one. -/
def sdiff (s t : Nat) : Nat := s - (s &&& t)
theorem andNot_all : (List.range 64).all (fun s => (List.range 64).all fun t => bits .andNot .i64 (s : Int) (t : Int) == ((sdiff s t : Nat) : Int)) = true := by decide +kernel
theorem andNot_nat {s t : Nat} (hs : s < 64) (ht : t < 64) : bits .andNot .i64 (s : Int) (t : Int) = ((sdiff s t : Nat) : Int) := by
  have := List.all_eq_true.1 (List.all_eq_true.1 andNot_all s (List.mem_range.2 hs)) t (List.mem_range.2 ht)
  simpa using this
theorem sdiff_le (s t : Nat) : sdiff s t ≤ s := Nat.sub_le _ _

theorem pow54n {m : Nat} (hm : m ≤ 54) {k : Nat} (hk : k ≤ 8) : m ^ k ≤ 72301961339136 := by
  calc m ^ k ≤ 54 ^ k := Nat.pow_le_pow_left hm k
    _ ≤ 54 ^ 8 := Nat.pow_le_pow_right (by decide) hk
    _ = 72301961339136 := by decide

/-- What the function value of 'without' reads again. -/
structure WoAt (W : World) (b1 b2 b3 b4 : Nat) (a : Option Addr) (n cap : Nat) (set k : Nat) (all : Int) : Prop where
  c1 : W.cell? ⟨b1, 0, none⟩ = some (.slice a n cap)
  c2 : W.cell? ⟨b2, 0, none⟩ = some (.int .i64 set)
  c3 : W.cell? ⟨b3, 0, none⟩ = some (.int .i64 k)
  c4 : W.cell? ⟨b4, 0, none⟩ = some (.int .i64 all)
theorem WoAt.keep {W W' : World} {b1 b2 b3 b4 : Nat} {a : Option Addr} {n cap set k : Nat} {all : Int} (h : WoAt W b1 b2 b3 b4 a n cap set k all) (hb : Below W.heap.size W W') : WoAt W' b1 b2 b3 b4 a n cap set k all :=
  ⟨(hb.cell (p := ⟨b1, 0, none⟩) (World.block_lt_of_cell? _ _ h.c1)).trans h.c1, (hb.cell (p := ⟨b2, 0, none⟩) (World.block_lt_of_cell? _ _ h.c2)).trans h.c2,
   (hb.cell (p := ⟨b3, 0, none⟩) (World.block_lt_of_cell? _ _ h.c3)).trans h.c3, (hb.cell (p := ⟨b4, 0, none⟩) (World.block_lt_of_cell? _ _ h.c4)).trans h.c4⟩
theorem WoAt.cells {W : World} {b1 b2 b3 b4 : Nat} {a : Option Addr} {n cap set k : Nat} {all : Int} (h : WoAt W b1 b2 b3 b4 a n cap set k all) :
    W.cell? ⟨b1, 0, none⟩ = some (.slice a n cap) ∧ W.cell? ⟨b2, 0, none⟩ = some (.int .i64 set) ∧ W.cell? ⟨b3, 0, none⟩ = some (.int .i64 k) ∧ W.cell? ⟨b4, 0, none⟩ = some (.int .i64 all) := ⟨h.c1, h.c2, h.c3, h.c4⟩
theorem WoAt.low {W W' : World} {b1 b2 b3 b4 lo : Nat} {a : Option Addr} {n cap set k : Nat} {all : Int} (h : WoAt W b1 b2 b3 b4 a n cap set k all) (hl : b1 < lo ∧ b2 < lo ∧ b3 < lo ∧ b4 < lo) (hb : Below lo W W') : WoAt W' b1 b2 b3 b4 a n cap set k all :=
  ⟨(hb.cell (p := ⟨b1, 0, none⟩) hl.1).trans h.c1, (hb.cell (p := ⟨b2, 0, none⟩) hl.2.1).trans h.c2, (hb.cell (p := ⟨b3, 0, none⟩) hl.2.2.1).trans h.c3, (hb.cell (p := ⟨b4, 0, none⟩) hl.2.2.2).trans h.c4⟩
theorem WoAt.lt {W : World} {b1 b2 b3 b4 : Nat} {a : Option Addr} {n cap set k : Nat} {all : Int} (h : WoAt W b1 b2 b3 b4 a n cap set k all) : b1 < W.heap.size ∧ b2 < W.heap.size ∧ b3 < W.heap.size ∧ b4 < W.heap.size :=
  ⟨World.block_lt_of_cell? _ _ h.c1, World.block_lt_of_cell? _ _ h.c2, World.block_lt_of_cell? _ _ h.c3, World.block_lt_of_cell? _ _ h.c4⟩
theorem below_set2 (W : World) (b : Nat) (x y : Value) : Below b W ((W.setCell ⟨b, 0, none⟩ x).setCell ⟨b, 1, none⟩ y) := Below.setCell (p := ⟨b, 1, none⟩) (Below.setCell (p := ⟨b, 0, none⟩) (Below.refl b W) (Nat.le_refl b) x) (Nat.le_refl b) y
theorem below_drew1 {W W' : World} (h : Below W.drew.heap.size W.drew W') : Below W.heap.size W W' := (Below.refl _ W).drew.trans h

/-- The cards of some packets that are of a set but not of a part, to the power of the number of packets. -/
def woC (z : Nat → Int) (set k part : Nat) : Int := ((ofS z (sdiff set part)).toNat ^ k : Nat)

set_option maxRecDepth 100000 in
set_option maxHeartbeats 8000000 in
theorem without1_any (a : Option Addr) (n cap : Nat) (z : Nat → Int) (set k A : Nat) (xs : List Nat) (b1 b2 b3 b4 : Nat) (w : World) (hset : set < 2 ^ n) (hn : n ≤ 6) (hz : Ints w a n z) (h9 : ∀ j, j < n → 1 ≤ z j ∧ z j ≤ 9)
    (hk : k ≤ 8) (hA1 : 1 ≤ A) (hA : A ≤ 54) (hc : WoAt w b1 b2 b3 b4 a n cap set k ((A ^ k : Nat) : Int)) (hx : ∀ x ∈ xs, x < 64) :
    Num 92 #[.pointer (some ⟨b1, 0, none⟩), .pointer (some ⟨b2, 0, none⟩), .pointer (some ⟨b3, 0, none⟩), .pointer (some ⟨b4, 0, none⟩)] (woC z set k) (A ^ k) xs w := by
  intro x hxx W hW
  have hx64 := hx x hxx
  have hcW := hc.keep hW
  obtain ⟨W0, hW0⟩ : ∃ W0, W0 = W.alloc (.cells #[.int .i64 0, .int .i64 0] 24) := ⟨_, rfl⟩
  have hbW0 : Below W.heap.size W W0 := by rw [hW0]; exact below_one W _
  have hr0 : W0.heap[W.heap.size]? = some (.cells #[.int .i64 0, .int .i64 0] 24) := by rw [hW0]; exact heap_alloc_new W _
  have hs0 : W0.heap.size = W.heap.size + 1 := by rw [hW0]; simp
  have hc0 := hcW.keep hbW0
  have hsd : sdiff set x < 2 ^ n := Nat.lt_of_le_of_lt (sdiff_le _ _) hset
  have hof := of_bd hsd h9
  obtain ⟨m, hm⟩ : ∃ m : Nat, ofS z (sdiff set x) = m := ⟨(ofS z (sdiff set x)).toNat, by omega⟩
  have hm54 : m ≤ 54 := by omega
  have hzW0 : Ints W0.drew a n z := hz.keep (Nat.le_refl _) ((hW.trans (hbW0.mono hW.size)).drew)
  have hofc := of_any a n cap z (sdiff set x) W0.drew hsd hn hzW0 h9
  rw [hm] at hofc
  have hp := fun W => power_any m k W (by omega) (fun j hj => by have := pow54n hm54 (k := j) (by omega); omega)
  have hpm := pow54n hm54 hk
  have hpA := pow54n hA hk
  have hpA1 : 1 ≤ A ^ k := Nat.one_le_pow _ _ hA1
  have hfr := fun W => fraction_any ((m ^ k : Nat) : Int) (A ^ k) W (by omega) (by omega) (by omega) hpA1
  have hY : woC z set k x = ((m ^ k : Nat) : Int) := by unfold woC; rw [hm]; rfl
  have hand := andNot_nat (lt64 hset hn) hx64
  have HLt := Lib.hid hcW.lt
  have HOf := Lib.hid hofc
  have HP := Lib.hid hp
  have HFr := Lib.hid hfr
  have HBW := Lib.hid hbW0
  have HR0 := Lib.hid hr0
  have HC0 := Lib.hid hc0
  have HW0 := Lib.hid hW0
  rw [hY]
  clear hofc hp hfr hbW0 hr0 hc0 hW0 hY hc hcW hz h9 hx hzW0 hm hof hW hpm hpA hpA1 hxx
  generalize A ^ k = L at *
  generalize m ^ k = M at *
  obtain ⟨q1, q2, q3, q4⟩ := HC0.out.cells
  show Calls Try.prog 92 #[.int .i64 x, .pointer (some ⟨b1, 0, none⟩), .pointer (some ⟨b2, 0, none⟩), .pointer (some ⟨b3, 0, none⟩), .pointer (some ⟨b4, 0, none⟩)] W _
  go_enter Try.func92, Try.ntmps92
  go_wp2_with fail
  rw [← HW0.out]
  go_region_held3 (fun w' => w'.cell? ⟨b1, 0, none⟩ = some (.slice a n cap) ∧ w'.cell? ⟨b2, 0, none⟩ = some (.int .i64 set) ∧ w'.cell? ⟨b3, 0, none⟩ = some (.int .i64 k) ∧ w'.cell? ⟨b4, 0, none⟩ = some (.int .i64 (L : Int)))
    (first
      | (go_split_ands; exact (HC3.out.low HLt.out (below_set2 _ _ _ _)).cells)
      | (go_split_ands; exact HC3.out.cells)
      | (go_split_ands; exact HC1.out.cells)
      | (go_split_ands; exact HC0.out.cells)
      | go_keep)
    ((first
      | ((with_reducible refine HOf.out.mono ?_); rintro e w1 ⟨rfl, hb1⟩; have HB1 := Lib.hid (below_drew1 hb1); have HC1 := Lib.hid (HC0.out.keep HB1.out); clear hb1)
      | ((with_reducible refine (HP.out _).mono ?_); rintro e w2 ⟨rfl, rfl⟩)
      | ((with_reducible refine (HFr.out _).mono ?_); rintro e w3 ⟨rfl, hb3⟩; have HC3 := Lib.hid (HC1.out.keep hb3); have HB3 := Lib.hid hb3; clear hb3; obtain ⟨r1, r2, r3, r4⟩ := fr_cells ((HB3.out.block W.heap.size (Nat.lt_of_lt_of_le (show W.heap.size < W0.heap.size by omega) HB1.out.size)).trans ((HB1.out.block W.heap.size (show W.heap.size < W0.heap.size by omega)).trans HR0.out)))))
  all_goals
    have HF : Hid (Below W.heap.size W w3) := (HBW.out.trans (HB1.out.mono (show W.heap.size ≤ W0.heap.size by omega))).trans (HB3.out.mono (Nat.le_trans (show W.heap.size ≤ W0.heap.size by omega) HB1.out.size))
    clear q1 q2 q3 q4
    go_wp2
    exact bodyPost_ret (v := .agg #[.int .i64 (frA (M : Int) L), .int .i64 (frB (M : Int) L : Nat)]) (by simp [results, Try.results92, go_sem, r1, r2]) rfl ⟨rfl, (HF.out.setCell (by simp) _).setCell (by simp) _⟩
end Go.Proofs.Ytgednacoeifclaa
