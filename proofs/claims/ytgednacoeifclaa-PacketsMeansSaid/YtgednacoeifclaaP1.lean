import Derived.Test.YtgednacoeifclaaU6
namespace Go.Proofs.Ytgednacoeifclaa
/-
  The chance that a kind comes before all those of a part; that it is the last of a set.
-/
open Go.RowKit Go.Shelf

theorem lC_fr {z : Nat → Int} {L k x : Nat} (h : z k + ofS z x ∣ z k * (L : Int)) (h1 : 1 ≤ z k) (h2 : 0 ≤ ofS z x) (hL : 1 ≤ L) :
    frA (z k) (z k + ofS z x).toNat = frA (lC z L k x) L ∧ frB (z k) (z k + ofS z x).toNat = frB (lC z L k x) L := by
  refine fr_same (by omega) hL ?_
  have e : (((z k + ofS z x).toNat : Nat) : Int) = z k + ofS z x := by omega
  rw [e]
  unfold lC
  rw [Int.ediv_mul_cancel h]

theorem cells3 {W W' : World} {p q r : Addr} {u v x : Value} (h : W.cell? p = some u ∧ W.cell? q = some v ∧ W.cell? r = some x) (hb : Below W.heap.size W W') : W'.cell? p = some u ∧ W'.cell? q = some v ∧ W'.cell? r = some x :=
  ⟨(hb.cell (World.block_lt_of_cell? _ _ h.1)).trans h.1, (hb.cell (World.block_lt_of_cell? _ _ h.2.1)).trans h.2.1, (hb.cell (World.block_lt_of_cell? _ _ h.2.2)).trans h.2.2⟩

theorem cells3_low {B : Nat} {W W' : World} {p q r : Addr} {u v x : Value} (h : W.cell? p = some u ∧ W.cell? q = some v ∧ W.cell? r = some x) (hl : p.block < B ∧ q.block < B ∧ r.block < B) (hb : Below B W W') : W'.cell? p = some u ∧ W'.cell? q = some v ∧ W'.cell? r = some x :=
  ⟨(hb.cell hl.1).trans h.1, (hb.cell hl.2.1).trans h.2.1, (hb.cell hl.2.2).trans h.2.2⟩

set_option maxRecDepth 100000 in
set_option maxHeartbeats 8000000 in
theorem before1_any (a : Option Addr) (n cap : Nat) (z : Nat → Int) (k L : Nat) (xs : List Nat) (b1 b2 : Nat) (w : World) (hk : k < n) (hn : n ≤ 6) (hz : Ints w a n z) (h9 : ∀ j, j < n → 1 ≤ z j ∧ z j ≤ 9)
    (hc1 : w.cell? ⟨b1, 0, none⟩ = some (.slice a n cap)) (hc2 : w.cell? ⟨b2, 0, none⟩ = some (.int .i64 k)) (hL : 1 ≤ L) (hx : ∀ x ∈ xs, x < 2 ^ n ∧ z k + ofS z x ∣ z k * (L : Int)) :
    Num 90 #[.pointer (some ⟨b1, 0, none⟩), .pointer (some ⟨b2, 0, none⟩)] (lC z L k) L xs w := by
  intro x hxx W hW
  obtain ⟨hx2, hxd⟩ := hx x hxx
  have hof := of_bd hx2 h9
  have h9k := h9 k hk
  have hfr := lC_fr hxd h9k.1 (by omega) hL
  have c1 : W.cell? ⟨b1, 0, none⟩ = some (.slice a n cap) := (hW.cell (p := ⟨b1, 0, none⟩) (World.block_lt_of_cell? _ _ hc1)).trans hc1
  have c2 : W.cell? ⟨b2, 0, none⟩ = some (.int .i64 k) := (hW.cell (p := ⟨b2, 0, none⟩) (World.block_lt_of_cell? _ _ hc2)).trans hc2
  obtain ⟨W0, hW0⟩ : ∃ W0, W0 = W.alloc (.cells #[.int .i64 0, .int .i64 0] 24) := ⟨_, rfl⟩
  have d1 : W0.cell? ⟨b1, 0, none⟩ = some (.slice a n cap) := by rw [hW0]; exact cell_kept c1 (World.grownBy_alloc W _ none) (fun r e => by cases e)
  have d2 : W0.cell? ⟨b2, 0, none⟩ = some (.int .i64 k) := by rw [hW0]; exact cell_kept c2 (World.grownBy_alloc W _ none) (fun r e => by cases e)
  have hb0 : Below W.heap.size W W0 := by rw [hW0]; exact below_one W _
  have hr0 : W0.heap[W.heap.size]? = some (.cells #[.int .i64 0, .int .i64 0] 24) := by rw [hW0]; exact heap_alloc_new W _
  have hs0 : W.heap.size < W0.heap.size := by rw [hW0]; simp
  have hz0 := hz.keep (Nat.le_refl _) (hW.trans (hb0.mono hW.size))
  obtain ⟨bb, o, rfl, hcx⟩ := hz0 k hk
  have hofc := of_any _ n cap z x W0.drew hx2 hn (hz.keep (Nat.le_refl _) (hW.trans (hb0.mono hW.size)).drew) h9
  have hkn : (k : Int) < (n : Int) := by omega
  have hkn0 : (0 : Int) ≤ (k : Int) := by omega
  obtain ⟨m, hm⟩ : ∃ m : Nat, z k + ofS z x = m := ⟨(z k + ofS z x).toNat, by omega⟩
  have hwr : wrap64 (z k + ofS z x) = (m : Int) := by rw [hm]; exact IntWalk.wrap64_in _ ⟨by omega, by omega⟩
  have hwr2 : IntKind.i64.wrap (z k + ofS z x) = (m : Int) := (IntWalk.i64_left _).trans hwr
  have hF := fun W => fraction_any (z k) m W (by omega) (by omega) (by omega) (by omega)
  rw [hm] at hfr
  rw [show ((m : Int).toNat) = m from rfl] at hfr
  rw [hfr.1, hfr.2] at hF
  have HC0 := Lib.hid (And.intro d1 (And.intro d2 hcx))
  have HLT : Hid (b1 < W.heap.size ∧ b2 < W.heap.size ∧ bb < W.heap.size) := ⟨World.block_lt_of_cell? _ _ c1, World.block_lt_of_cell? _ _ c2, by
    obtain ⟨b', o', e', h'⟩ := (hz.keep (Nat.le_refl _) hW) k hk
    cases e'; exact World.block_lt_of_cell? _ _ h'⟩
  have HF := Lib.hid hF
  have HO := Lib.hid hofc
  have HB0 := Lib.hid hb0
  have HR0 := Lib.hid hr0
  have HW0 := Lib.hid hW0
  have HWR := Lib.hid hwr
  have HWR2 := Lib.hid hwr2
  clear hF hfr hofc hW hx hz hz0 h9 hc1 hc2 c1 c2 hW0 hb0 hr0 hxx hxd hm hwr hwr2
  generalize lC z L k x = X at *
  generalize ofS z x = S at *
  generalize z k = K at *
  show Calls Try.prog 90 #[.int .i64 x, .pointer (some ⟨b1, 0, none⟩), .pointer (some ⟨b2, 0, none⟩)] W _
  go_enter Try.func90, Try.ntmps90
  go_wp2_with fail
  rw [← HW0.out]
  go_region_held3 (fun w' => w'.cell? ⟨b1, 0, none⟩ = some (.slice (some ⟨bb, o, none⟩) n cap) ∧ w'.cell? ⟨b2, 0, none⟩ = some (.int .i64 k) ∧ w'.cell? ⟨bb, o + k, none⟩ = some (.int .i64 K))
    (first
      | (go_split_ands; exact cells3_low HC2.out HLT.out (below_set2 _ _ _ _))
      | (go_split_ands; exact HC2.out)
      | (go_split_ands; exact HC1.out)
      | (go_split_ands; exact HC0.out)
      | go_keep)
    ((first
      | ((with_reducible refine HO.out.mono ?_); rintro e w1 ⟨rfl, hb1⟩; have HB1 := Lib.hid (below_drew1 hb1); have HC1 := Lib.hid (cells3 HC0.out HB1.out); clear hb1)
      | ((first | rw [HWR.out] | rw [HWR2.out] | skip); (with_reducible refine (HF.out _).mono ?_); rintro e w2 ⟨rfl, hb2⟩; obtain ⟨s1, s2, s3, s4⟩ := fr_cells ((hb2.block W.heap.size (Nat.lt_of_lt_of_le hs0 HB1.out.size)).trans ((HB1.out.block _ hs0).trans HR0.out)); have HB2 := Lib.hid hb2; have HC2 := Lib.hid (cells3 HC1.out hb2); clear hb2)))
  all_goals
    have HF : Hid (Below W.heap.size W w2) := (HB0.out.trans (HB1.out.mono (by omega))).trans (HB2.out.mono (Nat.le_trans (Nat.le_of_lt hs0) HB1.out.size))
    go_wp2
    exact bodyPost_ret (v := .agg #[.int .i64 (frA X L), .int .i64 (frB X L : Nat)]) (by simp [results, Try.results90, go_sem, s1, s2]) rfl ⟨rfl, (HF.out.setCell (by simp) _).setCell (by simp) _⟩

theorem before_any (a : Option Addr) (n cap : Nat) (k : Int) (w : World) :
    Calls Try.prog 75 #[.slice a n cap, .int .i64 k] w fun e w' => e = .returned (.func (.func 90) #[] #[.pointer (some ⟨w.heap.size, 0, none⟩), .pointer (some ⟨w.heap.size + 1, 0, none⟩)]) ∧ w' = (w.alloc (.cells #[.slice a n cap] 53)).alloc (.cells #[.int .i64 k] 3) := by
  go_enter Try.func75, Try.ntmps75
  go_wp2
  go_ret
  exact ⟨rfl, rfl⟩

/-- What 'before' hands back, loosely. -/
def BfOut (a : Option Addr) (n cap k : Nat) (w : World) (e : Ending) (w' : World) : Prop :=
  ∃ b1 b2, e = .returned (.func (.func 90) #[] #[.pointer (some ⟨b1, 0, none⟩), .pointer (some ⟨b2, 0, none⟩)]) ∧ w'.cell? ⟨b1, 0, none⟩ = some (.slice a n cap) ∧ w'.cell? ⟨b2, 0, none⟩ = some (.int .i64 k) ∧ Below w.heap.size w w'
theorem before_out (a : Option Addr) (n cap k : Nat) (w : World) : Calls Try.prog 75 #[.slice a n cap, .int .i64 k] w fun e w' => BfOut a n cap k w e w' := by
  refine (before_any a n cap k w).mono ?_
  rintro e w' ⟨rfl, rfl⟩
  exact ⟨_, _, rfl, block_cell (heap_two1 w _ _) 0, block_cell (heap_two2 w _ _) 0, below_two w _ _⟩

/-- What the denominator L must be for. -/
structure LastOk (z : Nat → Int) (k r L : Nat) : Prop where
  L1 : 1 ≤ L
  LM : L ≤ 1152921504606846976
  dv : LOk z L k r
  ab : sumA (lC z L k) (partsL r) ≤ 4611686018427387903

set_option maxRecDepth 100000 in
set_option maxHeartbeats 4000000 in
theorem last_any (a : Option Addr) (n cap : Nat) (z : Nat → Int) (s k L : Nat) (w : World) (hs : s < 2 ^ n) (hk : k < n) (hn : n ≤ 6) (hz : Ints w a n z) (h9 : ∀ j, j < n → 1 ≤ z j ∧ z j ≤ 9) (hok : LastOk z k (sdiff s (2 ^ k)) L) :
    Calls Try.prog 52 #[.slice a n cap, .int .i64 s, .int .i64 k] w fun e w' => QOut (lX z L k (sdiff s (2 ^ k))) L w e w' := by
  obtain ⟨hL, hM, hdv, hab⟩ := hok
  have hr := sdiff_lt (t := 2 ^ k) hs
  have HAlt : Hid (∀ W b1 b2, Below w.heap.size w W → W.cell? ⟨b1, 0, none⟩ = some (.slice a n cap) → W.cell? ⟨b2, 0, none⟩ = some (.int .i64 k) →
      Calls Try.prog 71 #[.int .i64 ((sdiff s (2 ^ k) : Nat) : Int), .func (.func 90) #[] #[.pointer (some ⟨b1, 0, none⟩), .pointer (some ⟨b2, 0, none⟩)]] W fun e w' => e = .returned (.agg #[.int .i64 (frA (lX z L k (sdiff s (2 ^ k))) L), .int .i64 (frB (lX z L k (sdiff s (2 ^ k))) L : Nat)]) ∧ Below W.heap.size W w') := by
    intro W b1 b2 hb c1 c2
    have hnum := before1_any a n cap z k L (partsL (sdiff s (2 ^ k))) b1 b2 W hk hn (hz.keep (Nat.le_refl _) hb) h9 c1 c2 hL (fun x hx => ⟨partsL_lt2 hr hx, hdv x hx⟩)
    exact alternate_any (sdiff s (2 ^ k)) 90 #[.pointer (some ⟨b1, 0, none⟩), .pointer (some ⟨b2, 0, none⟩)] (lC z L k) L W (lt64 hr hn) (enters_of Try.func90 (by kernel_rfl) rfl) hL (by omega) hnum hab
  have hand : bits .andNot .i64 (s : Int) (((2 : Nat) ^ k : Nat) : Int) = ((sdiff s (2 ^ k) : Nat) : Int) := andNot_nat (lt64 hs hn) (by have : 2 ^ k < 2 ^ 6 := Nat.pow_lt_pow_right (by decide) (by omega); omega)
  have HP : Hid (wrap64 ((2 : Int) ^ k) = ((2 ^ k : Nat) : Int)) := wrap_two (by omega)
  have HP2 : Hid (IntKind.i64.wrap ((2 : Int) ^ k) = ((2 ^ k : Nat) : Int)) := wrap_two' (by omega)
  have HN := Lib.hid hand
  have hk0 : (0 : Int) ≤ (k : Int) := by omega
  clear hdv hab hz h9 hand hr
  generalize lX z L k (sdiff s (2 ^ k)) = X at *
  obtain ⟨w0, hw0⟩ : ∃ w0, w0 = w.alloc (.cells #[.int .i64 0, .int .i64 0] 24) := ⟨_, rfl⟩
  have HB0 : Hid (Below w.heap.size w w0) := by rw [hw0]; exact below_one w _
  have HR0 : Hid (w0.heap[w.heap.size]? = some (.cells #[.int .i64 0, .int .i64 0] 24)) := by rw [hw0]; exact heap_alloc_new w _
  have hs0 : w.heap.size < w0.heap.size := by rw [hw0]; simp
  have HW0 := Lib.hid hw0
  clear hw0
  go_enter Try.func52, Try.ntmps52
  go_wp2_with fail
  rw [← HW0.out]
  go_region_with (first
    | (go_at_call 75; refine (before_out a n cap k _).mono ?_; rintro e w1 ⟨b1, b2, rfl, hc1, hc2, hb1⟩; have HB1 := Lib.hid (below_drew1 hb1); have HA1 := Lib.hid (HAlt.out w1 b1 b2 (HB0.out.trans (HB1.out.mono (Nat.le_of_lt hs0))) hc1 hc2); clear hb1 hc1 hc2)
    | (go_at_call 71; first | rw [HP.out] | rw [HP2.out] | skip; rw [HN.out]; refine HA1.out.mono ?_; rintro e w2 ⟨rfl, hb2⟩; obtain ⟨s1, s2, s3, s4⟩ := fr_cells ((hb2.block w.heap.size (Nat.lt_of_lt_of_le hs0 HB1.out.size)).trans ((HB1.out.block _ hs0).trans HR0.out)); have HB2 := Lib.hid hb2; clear hb2))
  all_goals
    have HF : Hid (Below w.heap.size w w2) := (HB0.out.trans (HB1.out.mono (Nat.le_of_lt hs0))).trans (HB2.out.mono (Nat.le_trans (Nat.le_of_lt hs0) HB1.out.size))
    go_wp2
    exact bodyPost_ret (v := .agg #[.int .i64 (frA X L), .int .i64 (frB X L : Nat)]) (by simp [results, Try.results52, go_sem, s1, s2]) rfl ⟨rfl, (HF.out.setCell (by simp) _).setCell (by simp) _⟩
end Go.Proofs.Ytgednacoeifclaa
