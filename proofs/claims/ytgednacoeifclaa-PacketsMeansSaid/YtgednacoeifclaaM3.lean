import Derived.Test.YtgednacoeifclaaM2
namespace Go.Proofs.Ytgednacoeifclaa
open Go.RowKit Go.Shelf

attribute [local go_sem] Oper.semAt_some

/-- A stay over the denominator L; the wait for a part. -/
def stC (z : Nat → Int) (part L once : Nat) : Int := stN z (kindsL once) * (L : Int) / (((ofS z part).toNat ^ (pop once + 1) : Nat) : Int)
def shC (z : Nat → Int) (tw L part : Nat) : Int := if part = 0 then 0 else sumC (stC z part L) (partsL (part &&& tw))
/-- The denominator L serves this stay. -/
def StOk (z : Nat → Int) (part L once : Nat) : Prop := (((ofS z part).toNat ^ (pop once + 1) : Nat) : Int) ∣ stN z (kindsL once) * (L : Int)
theorem StOk.of {z : Nat → Int} {part L once : Nat} (h : (ofS z part).toNat ^ (pop once + 1) ∣ L) : StOk z part L once := Int.dvd_mul_of_dvd_right (Int.natCast_dvd_natCast.2 h)

theorem stC_fr {z : Nat → Int} {part L once : Nat} (h0 : 0 < L) (hD : 0 < (ofS z part).toNat ^ (pop once + 1)) (hd : StOk z part L once) :
    frA (stN z (kindsL once)) ((ofS z part).toNat ^ (pop once + 1)) = frA (stC z part L once) L ∧ frB (stN z (kindsL once)) ((ofS z part).toNat ^ (pop once + 1)) = frB (stC z part L once) L := by
  obtain ⟨c, hc⟩ := hd
  have e : stC z part L once = c := by unfold stC; rw [hc]; exact Int.mul_ediv_cancel_left _ (by omega)
  rw [e]
  exact fr_same hD h0 (by rw [hc]; exact Int.mul_comm _ _)

set_option maxRecDepth 100000 in
set_option maxHeartbeats 4000000 in
theorem short11_any (a : Option Addr) (n cap : Nat) (z : Nat → Int) (part L : Nat) (xs : List Nat) (b1 b2 : Nat) (w : World) (hs : part < 2 ^ n) (h0 : part ≠ 0) (hn : n ≤ 6) (hz : Ints w a n z) (h9 : ∀ j, j < n → 1 ≤ z j ∧ z j ≤ 9)
    (hc1 : w.cell? ⟨b1, 0, none⟩ = some (.slice a n cap)) (hc2 : w.cell? ⟨b2, 0, none⟩ = some (.int .i64 part)) (hL : 0 < L) (hx : ∀ x ∈ xs, x < 2 ^ n ∧ StOk z part L x) :
    Num 87 #[.pointer (some ⟨b1, 0, none⟩), .pointer (some ⟨b2, 0, none⟩)] (stC z part L) L xs w := by
  intro x hxx W hW
  have c1 : W.cell? ⟨b1, 0, none⟩ = some (.slice a n cap) := (hW.cell (p := ⟨b1, 0, none⟩) (World.block_lt_of_cell? _ _ hc1)).trans hc1
  have c2 : W.cell? ⟨b2, 0, none⟩ = some (.int .i64 part) := (hW.cell (p := ⟨b2, 0, none⟩) (World.block_lt_of_cell? _ _ hc2)).trans hc2
  have d1 : (W.alloc (.cells #[.int .i64 0, .int .i64 0] 24)).cell? ⟨b1, 0, none⟩ = some (.slice a n cap) := cell_kept c1 (World.grownBy_alloc W _ none) (fun r e => by cases e)
  have d2 : (W.alloc (.cells #[.int .i64 0, .int .i64 0] 24)).cell? ⟨b2, 0, none⟩ = some (.int .i64 part) := cell_kept c2 (World.grownBy_alloc W _ none) (fun r e => by cases e)
  have hst := stay_any a n cap z part x (W.alloc (.cells #[.int .i64 0, .int .i64 0] 24)) hs h0 (hx x hxx).1 hn (hz.keep (Nat.le_refl _) (hW.alloc hW.size _)) h9
  have hfr := stC_fr hL (Nat.pow_pos (by have := of_pos hs hn h0 h9; omega)) (hx x hxx).2
  rw [hfr.1, hfr.2] at hst
  have HSt := Lib.hid hst
  clear hst hfr c1 c2 hc1 hc2 hz h9 hx hW
  generalize frA (stC z part L x) L = A at *
  generalize frB (stC z part L x) L = B at *
  show Calls Try.prog 87 #[.int .i64 x, .pointer (some ⟨b1, 0, none⟩), .pointer (some ⟨b2, 0, none⟩)] W _
  go_enter Try.func87, Try.ntmps87
  go_wp2_with (go_at_call 88; refine HSt.out.mono ?_; rintro e w1 ⟨rfl, hb1⟩; obtain ⟨q1, q2, q3, q4⟩ := fr_cells ((hb1.block W.heap.size (by simp)).trans (heap_alloc_new W _)); have HB1 : Hid (Below W.heap.size W w1) := (below_one W _).trans (hb1.mono (by simp)); clear hb1)
  exact bodyPost_ret (v := .agg #[.int .i64 A, .int .i64 (B : Int)]) (by simp [results, Try.results87, go_sem, q1, q2]) rfl ⟨rfl, (HB1.out.setCell (by simp) _).setCell (by simp) _⟩

theorem sumA_mem {c : Nat → Int} : ∀ {xs : List Nat} {x : Nat}, x ∈ xs → (c x).natAbs ≤ sumA c xs
  | y :: ys, x, h => by
    simp only [sumA, List.map_cons, List.sum_cons]
    rcases List.mem_cons.1 h with rfl | h
    · omega
    · have := sumA_mem (c := c) h; unfold sumA at this; omega
theorem sumA_pos {c : Nat → Int} : ∀ {xs : List Nat}, (∀ x ∈ xs, 0 ≤ c x) → (sumA c xs : Int) = sumC c xs
  | [], _ => rfl
  | y :: ys, h => by
    have ih := sumA_pos (c := c) (xs := ys) (fun x hx => h x (List.mem_cons_of_mem _ hx))
    have h1 := h y (List.mem_cons_self ..)
    simp only [sumA, sumC, List.map_cons, List.sum_cons] at ih ⊢
    omega
theorem stC_pos {z : Nat → Int} {n part L once : Nat} (ho : once < 2 ^ n) (h9 : ∀ j, j < n → 1 ≤ z j ∧ z j ≤ 9) : 0 ≤ stC z part L once := by
  have h := stN_bd (z := z) (xs := kindsL once) (kindsL_len once) (fun y hy => h9 y (kindsL_in ho hy))
  unfold stC
  exact Int.ediv_nonneg (Int.mul_nonneg (by omega) (Int.natCast_nonneg _)) (Int.natCast_nonneg _)
theorem partsL_sub {s t : Nat} (h : t ∈ partsL s) : t &&& s = t := by simpa using (List.mem_filter.1 h).2
theorem partsL_lt2 {s t n : Nat} (hs : s < 2 ^ n) (h : t ∈ partsL s) : t < 2 ^ n := by
  rw [← partsL_sub h]; exact Nat.and_lt_two_pow _ hs

set_option maxRecDepth 100000 in
set_option maxHeartbeats 4000000 in
theorem short1_any (a : Option Addr) (n cap : Nat) (z : Nat → Int) (tw L : Nat) (xs : List Nat) (b1 b2 : Nat) (w : World) (ht : tw < 2 ^ n) (hn : n ≤ 6) (hz : Ints w a n z) (h9 : ∀ j, j < n → 1 ≤ z j ∧ z j ≤ 9)
    (hc1 : w.cell? ⟨b1, 0, none⟩ = some (.int .i64 tw)) (hc2 : w.cell? ⟨b2, 0, none⟩ = some (.slice a n cap)) (hL : 1 ≤ L) (hM : L ≤ 4611686018427387903)
    (hx : ∀ x ∈ xs, x < 2 ^ n) (hd : ∀ x ∈ xs, x ≠ 0 → ∀ once ∈ partsL (x &&& tw), StOk z x L once) (hA : sumA (shC z tw L) xs ≤ 4611686018427387903) :
    Num 86 #[.pointer (some ⟨b1, 0, none⟩), .pointer (some ⟨b2, 0, none⟩)] (shC z tw L) L xs w := by
  intro x hxx W hW
  have hx2 := hx x hxx
  have hbl1 := Nat.lt_of_lt_of_le (World.block_lt_of_cell? _ _ hc1) hW.size
  have hbl2 := Nat.lt_of_lt_of_le (World.block_lt_of_cell? _ _ hc2) hW.size
  simp only at hbl1 hbl2
  have c1 : W.cell? ⟨b1, 0, none⟩ = some (.int .i64 tw) := (hW.cell (p := ⟨b1, 0, none⟩) (World.block_lt_of_cell? _ _ hc1)).trans hc1
  have c2 : W.cell? ⟨b2, 0, none⟩ = some (.slice a n cap) := (hW.cell (p := ⟨b2, 0, none⟩) (World.block_lt_of_cell? _ _ hc2)).trans hc2
  show Calls Try.prog 86 #[.int .i64 x, .pointer (some ⟨b1, 0, none⟩), .pointer (some ⟨b2, 0, none⟩)] W _
  by_cases h0 : x = 0
  · subst h0
    have hf0 := fraction_any 0 1
    have z0 := fr_one 0
    have z1 := fr_zero (L := L) hL
    rw [z0.1, z0.2] at hf0
    have HF0 := Lib.hid hf0
    have HZ : Hid (frA (shC z tw L 0) L = 0 ∧ frB (shC z tw L 0) L = 1) := z1
    have G : (((0 : Nat) : Int) == 0) = true := rfl
    clear hf0 z0 z1 hz h9 hx hd hA hW hc1 hc2 c1 c2 hxx
    go_enter Try.func86, Try.ntmps86
    go_wp2_with (go_at_call 82; refine (HF0.out _ (by omega) (by omega) (by omega) (by omega)).mono ?_; rintro e w1 ⟨rfl, hb1⟩; obtain ⟨q1, q2, q3, q4⟩ := fr_cells ((hb1.block (W.heap.size + 1) (by simp)).trans (heap_two2 W _ _)); have HB1 : Hid (Below W.heap.size W w1) := (below_two W _ _).trans (hb1.mono (by simp; omega)); clear hb1)
    exact bodyPost_ret (v := .agg #[.int .i64 0, .int .i64 1]) (by simp [results, Try.results86, go_sem, q1, q2]) rfl ⟨by rw [HZ.out.1, HZ.out.2]; rfl, (HB1.out.setCell (by simp) _).setCell (by simp) _⟩
  · have hE : shC z tw L x = sumC (stC z x L) (partsL (x &&& tw)) := by simp [shC, h0]
    have hy2 : (x &&& tw) < 2 ^ n := Nat.and_lt_two_pow _ ht
    have hy64 := lt64 hy2 hn
    have hxs : ∀ y ∈ partsL (x &&& tw), y < 2 ^ n ∧ StOk z x L y := fun y hy => ⟨partsL_lt2 hy2 hy, hd x hxx h0 y hy⟩
    have hA2 : sumA (stC z x L) (partsL (x &&& tw)) ≤ 4611686018427387903 := by
      have h1 := sumA_pos (c := stC z x L) (xs := partsL (x &&& tw)) (fun y hy => stC_pos (hxs y hy).1 h9)
      have h2 := sumA_mem (c := shC z tw L) hxx
      rw [hE] at h2
      omega
    obtain ⟨w3, hw3⟩ : ∃ w3, w3 = ((W.alloc (.cells #[.int .i64 x] 3)).alloc (.cells #[.int .i64 0, .int .i64 0] 24)).alloc (.cells #[.int .i64 ((x &&& tw : Nat) : Int)] 3) := ⟨_, rfl⟩
    have hb3 : Below W.heap.size W w3 := by rw [hw3]; exact (below_two _ _ _).alloc (by simp; omega) _
    have hs3 : w3.heap.size = W.heap.size + 3 := by rw [hw3]; simp
    have e0 : w3.heap[W.heap.size]? = some (.cells #[.int .i64 x] 3) := by rw [hw3]; exact heap_three0 W _ _ _
    have e1 : w3.heap[W.heap.size + 1]? = some (.cells #[.int .i64 0, .int .i64 0] 24) := by rw [hw3]; exact heap_three1 W _ _ _
    have e2 : w3.heap[W.heap.size + 1 + 1]? = some (.cells #[.int .i64 ((x &&& tw : Nat) : Int)] 3) := by rw [hw3]; exact heap_three W _ _ _
    have hn2 := short11_any a n cap z x L (partsL (x &&& tw)) b2 W.heap.size w3 hx2 h0 hn (hz.keep (Nat.le_refl _) (hW.trans (hb3.mono hW.size))) h9
      ((hb3.cell (p := ⟨b2, 0, none⟩) hbl2).trans c2) (block_cell e0 0) hL hxs
    have hit := parts_iter (x &&& tw) hy64 (W.heap.size + 1 + 1) w3 (block_cell e2 0)
    have hsum := sum_any 95 #[.pointer (some ⟨W.heap.size + 1 + 1, 0, none⟩)] 87 #[.pointer (some ⟨b2, 0, none⟩), .pointer (some ⟨W.heap.size, 0, none⟩)] (stC z x L) L (partsL (x &&& tw)) _ w3 (enters_of Try.func95 (by kernel_rfl) rfl) (enters_of Try.func87 (by kernel_rfl) rfl)
      hit (fun k h => by omega) hn2 hL hM hA2
    rw [← hE] at hsum
    have d1 : ((W.alloc (.cells #[.int .i64 x] 3)).alloc (.cells #[.int .i64 0, .int .i64 0] 24)).cell? ⟨b1, 0, none⟩ = some (.int .i64 tw) := ((below_two W _ _).cell (p := ⟨b1, 0, none⟩) hbl1).trans c1
    have hband : bits BinOp.and IntKind.i64 (x : Int) (tw : Int) = ((x &&& tw : Nat) : Int) := band_nat x tw (Nat.lt_of_lt_of_le (lt64 hx2 hn) (by decide)) (Nat.lt_of_lt_of_le (lt64 ht hn) (by decide))
    have G : ((x : Int) == 0) = false := by simp; omega
    have HS := Lib.hid hsum
    have HB3 := Lib.hid hb3
    have HE1 := Lib.hid e1
    have HW3 := Lib.hid hw3
    clear hsum hit hn2 e0 e1 e2 hb3 hw3 hz h9 hx hd hA hA2 hxs hE hW hc1 hc2 c1 c2 hxx
    generalize shC z tw L x = Y at *
    go_enter Try.func86, Try.ntmps86
    go_wp2_with (go_at_call 83; refine (parts_any _ _).mono ?_; rintro e w' ⟨rfl, rfl⟩)
    rw [← HW3.out]
    refine HS.out.mono ?_
    rintro e w4 ⟨rfl, hb4⟩
    obtain ⟨q1, q2, q3, q4⟩ := fr_cells ((hb4.block (W.heap.size + 1) (by omega)).trans HE1.out)
    have HB4 : Hid (Below W.heap.size W w4) := HB3.out.trans (hb4.mono (by omega))
    clear hb4
    go_wp2
    exact bodyPost_ret (v := .agg #[.int .i64 (frA Y L), .int .i64 (frB Y L : Nat)]) (by simp [results, Try.results86, go_sem, q1, q2]) rfl ⟨rfl, (HB4.out.setCell (by simp) _).setCell (by simp) _⟩
end Go.Proofs.Ytgednacoeifclaa
