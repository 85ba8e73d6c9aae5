import Derived.Test.YtkbbijhknbcflaaR5
/-
  Where the document says that a formula holds: two formulas, a step ahead.
-/
namespace Go.Proofs.Ytkbbijhknbcflaa
open Go.RowKit Go.Shelf

/-- The boxes of the document's holds, and nothing that was there has turned. -/
structure HInv (aN : Option Addr) (n cN : Nat) (aM : Option Addr) (cM : Nat) (e : Nat → Nat) (W w : World) : Prop where
  b0 : w.heap[W.heap.size]? = some (.cells #[.slice aN n cN, .slice aM n cM] 24)
  b1 : w.heap[W.heap.size + 1]? = some (.cells #[.int .i64 (e 0 : Nat), .int .i64 (e 1 : Nat), .int .i64 (e 2 : Nat)] 55)
  bel : Below W.heap.size W w
section
variable {aN : Option Addr} {n cN : Nat} {aM : Option Addr} {cM : Nat} {e : Nat → Nat} {W w w' : World}
theorem HInv.start : HInv aN n cN aM cM e W ((W.alloc (.cells #[.slice aN n cN, .slice aM n cM] 24)).alloc (.cells #[.int .i64 (e 0 : Nat), .int .i64 (e 1 : Nat), .int .i64 (e 2 : Nat)] 55)) := ⟨heap_two1 _ _ _, heap_two2 _ _ _, below_two _ _ _⟩
theorem HInv.keep (h : HInv aN n cN aM cM e W w) (hb : Below w.heap.size w w') : HInv aN n cN aM cM e W w' :=
  ⟨by rw [hb.block _ (Array.getElem?_eq_some_iff.1 h.b0).1]; exact h.b0, by rw [hb.block _ (Array.getElem?_eq_some_iff.1 h.b1).1]; exact h.b1, band h.bel hb⟩
theorem HInv.cells (h : HInv aN n cN aM cM e W w) : w.cell? ⟨W.heap.size, 0, none⟩ = some (.slice aN n cN) ∧ w.cell? ⟨W.heap.size, 1, none⟩ = some (.slice aM n cM) ∧
    w.cell? ⟨W.heap.size + 1, 0, none⟩ = some (.int .i64 (e 0 : Nat)) ∧ w.cell? ⟨W.heap.size + 1, 1, none⟩ = some (.int .i64 (e 1 : Nat)) ∧ w.cell? ⟨W.heap.size + 1, 2, none⟩ = some (.int .i64 (e 2 : Nat)) :=
  ⟨block_cell h.b0 0, block_cell h.b0 1, block_cell h.b1 0, block_cell h.b1 1, block_cell h.b1 2⟩
end
theorem at_two_parts {m : Nat → Bool} {l : List UInt8} {a z : Nat} {t : Bool} {F G : Fm} (h : At m l a (.two t F G) z) : At m l (a + 1) F (a + 1 + (str F).length) ∧ At m l (a + 1 + (str F).length) G z := by
  obtain ⟨ha, hx⟩ := at_head h (x := if t then 38 else 124) (t := str F ++ str G) rfl
  have h1 := h.1
  rw [drop_at ha hx] at h1
  have h2 : l.drop (a + 1) = str F ++ (str G ++ l.drop z) := by
    have := (List.cons.inj h1).2
    rw [this]; exact List.append_assoc _ _ _
  have a1 : At m l (a + 1) F (a + 1 + (str F).length) := At.of ⟨h2, h.2.2.1⟩
  have e2 : l.drop (a + 1 + (str F).length) = str G ++ l.drop z := by rw [← List.drop_drop, h2]; simp
  refine ⟨a1, e2, ?_, h.2.2.2⟩
  have := h.2.1
  simp only [str, List.length_cons, List.length_append] at this
  omega
theorem at_ahead_part {m : Nat → Bool} {l : List UInt8} {a z : Nat} {t : Bool} {F : Fm} (h : At m l a (.ahead t F) z) : At m l (a + 1) F z := by
  obtain ⟨ha, hx⟩ := at_head h (x := if t then 60 else 91) (t := str F) rfl
  have h1 := h.1
  rw [drop_at ha hx] at h1
  refine ⟨(List.cons.inj h1).2, ?_, h.2.2⟩
  have := h.2.1
  simp only [str, List.length_cons] at this
  omega
/-- The states, of the first k, all whose next states are in a set. -/
def bx (nx : Nat → Nat) (X : Nat) : Nat → Nat
  | 0 => 0
  | k + 1 => if sdf (nx k) X = 0 then bx nx X k ||| 2 ^ k else bx nx X k
theorem bx_yes {nx : Nat → Nat} {X k : Nat} (h : sdf (nx k) X = 0) : bx nx X (k + 1) = bx nx X k ||| 2 ^ k := by simp [bx, h]
theorem bx_no {nx : Nat → Nat} {X k : Nat} (h : ¬ sdf (nx k) X = 0) : bx nx X (k + 1) = bx nx X k := by simp [bx, h]
theorem bit_bx (nx : Nat → Nat) (X : Nat) : ∀ k i, (bx nx X k).testBit i = (decide (i < k) && decide (sdf (nx i) X = 0))
  | 0, i => by simp [bx]
  | k + 1, i => by
    simp only [bx]
    split
    · rename_i h
      rw [Nat.testBit_or, bit_bx nx X k i, bit_pow]
      by_cases e : i = k
      · subst e; simp [h]
      · have : decide (i < k) = decide (i < k + 1) := by rw [decide_eq_decide]; omega
        rw [this]
        simp [show ¬ k = i from fun h => e h.symm]
    · rename_i h
      rw [bit_bx nx X k i]
      by_cases e : i = k
      · subst e; simp [h]
      · have : decide (i < k) = decide (i < k + 1) := by rw [decide_eq_decide]; omega
        rw [this]
theorem bx_lt (nx : Nat → Nat) (X k : Nat) : bx nx X k < 2 ^ k := lt_of_bits fun i hi => by rw [bit_bx] at hi; simp at hi; exact hi.1
theorem bx_is {nx : Nat → Nat} {X n : Nat} (hn : ∀ i, i < n → nx i < 2 ^ n) : bx nx X n = sdf (2 ^ n - 1) (bef nx (sdf (2 ^ n - 1) X) n) := by
  refine Nat.eq_of_testBit_eq fun i => ?_
  rw [bit_bx, bit_sdf, bit_all, bit_bef]
  by_cases hi : i < n
  · have : (sdf (nx i) X = 0) ↔ ¬ (nx i &&& sdf (2 ^ n - 1) X ≠ 0) := by
      constructor
      · intro h hne
        obtain ⟨j, h1, h2⟩ := and_ne.1 hne
        rw [bit_sdf] at h2
        have := congrArg (·.testBit j) h
        simp [bit_sdf, h1] at this
        simp [this] at h2
      · intro h
        refine Nat.eq_of_testBit_eq fun j => ?_
        rw [bit_sdf, Nat.zero_testBit]
        cases h1 : (nx i).testBit j
        · rfl
        · cases h2 : X.testBit j
          · exact absurd (and_ne.2 ⟨j, h1, by rw [bit_sdf, bit_all, h2]; simp; exact bit_in (hn i hi) h1⟩) h
          · rfl
    simp only [hi, decide_true, Bool.true_and]
    by_cases h : sdf (nx i) X = 0
    · simp [h, this.1 h]
    · have h2 : nx i &&& sdf (2 ^ n - 1) X ≠ 0 := Classical.byContradiction fun hc => h (this.2 hc)
      simp [h, h2]
  · simp [hi]

set_option maxHeartbeats 4000000 in
set_option maxRecDepth 100000 in
theorem hr_and (F G : Fm) (ih1 : HR F) (ih2 : HR G) : HR (.two true F G) := by
  intro m l a z e aN n cN aM cM nx mk W hl hA hk hE
  obtain ⟨ha, hx⟩ := at_head hA (x := 38) (t := str F ++ str G) rfl
  have h6 := hk.n6
  have HB := Lib.hid (below_two W (.cells #[.slice aN n cN, .slice aM n cM] 24) (.cells #[.int .i64 (e 0 : Nat), .int .i64 (e 1 : Nat), .int .i64 (e 2 : Nat)] 55))
  obtain ⟨hA1, hA2⟩ := at_two_parts hA
  have hle1 := hA1.le
  have H1 := Lib.hid (fun w (hb : Below W.heap.size W w) => ih1 m l (a + 1) _ e aN n cN aM cM nx mk w hl hA1 (hk.keep (Nat.le_refl _) hb) hE)
  have H2 := Lib.hid (fun w (hb : Below W.heap.size W w) => ih2 m l _ z e aN n cN aM cM nx mk w hl hA2 (hk.keep (Nat.le_refl _) hb) hE)
  rw [show ((a + 1 : Nat) : Int) = (a : Int) + 1 by omega] at H1
  have hX := lt64 (den_lt (nx := nx) (mk := mk) F hE) h6
  have hY := lt64 (den_lt (nx := nx) (mk := mk) G hE) h6
  have HO := Lib.hid (band_nat (den n nx mk F e) (den n nx mk G e) (Nat.lt_of_lt_of_le hX (by decide)) (Nat.lt_of_lt_of_le hY (by decide)))
  have hs : (st l).size = l.length := st_size l
  have hg : ∀ h : a < (st l).size, (st l)[a] = 38 := fun h => hx
  have hsz : (st l).size ≤ 5000 := by omega
  have has : a < (st l).size := by omega
  generalize st l = L at *
  have hg' := hg has
  have HI0 := Lib.hid (HInv.start (aN := aN) (n := n) (cN := cN) (aM := aM) (cM := cM) (e := e) (W := W))
  have HK := Lib.hid hk
  have HDen : Hid (den n nx mk (.two true F G) e = den n nx mk F e &&& den n nx mk G e) := if_pos rfl
  generalize a + 1 + (str F).length = z1 at *
  generalize den n nx mk F e = X at *
  have hz15 : z1 ≤ 5000 := by omega
  generalize den n nx mk G e = Y at *
  clear hx hs hl hA hk hE hA1 hA2 hle1 ih1 ih2
  obtain ⟨q0, q1, q2, q3, q4⟩ := HI0.out.cells
  go_enter Try.func39, Try.ntmps39
  go_wp2_with (first | (go_at_call 39; refine (H1.out _ HI0.out.bel).mono ?_) | go_in)
  rintro r w1 ⟨rfl, hb⟩
  have HI1 := Lib.hid (HI0.out.keep hb)
  clear hb q0 q1 q2 q3 q4
  obtain ⟨q0, q1, q2, q3, q4⟩ := HI1.out.cells
  go_wp2_with (first | (go_at_call 39; refine (H2.out _ HI1.out.bel).mono ?_) | go_in)
  rintro r w2 ⟨rfl, hb⟩
  have HI2 := Lib.hid (HI1.out.keep hb)
  clear hb q0 q1 q2 q3 q4
  go_wp2
  exact bodyPost_ret (v := .tuple #[.int .i64 (X &&& Y : Nat), .int .i64 (z : Nat)]) (by simp [results, Try.results39, go_sem, HO.out]) rfl ⟨by rw [HDen.out], HI2.out.bel⟩

set_option maxHeartbeats 4000000 in
set_option maxRecDepth 100000 in
theorem hr_or (F G : Fm) (ih1 : HR F) (ih2 : HR G) : HR (.two false F G) := by
  intro m l a z e aN n cN aM cM nx mk W hl hA hk hE
  obtain ⟨ha, hx⟩ := at_head hA (x := 124) (t := str F ++ str G) rfl
  have h6 := hk.n6
  have HB := Lib.hid (below_two W (.cells #[.slice aN n cN, .slice aM n cM] 24) (.cells #[.int .i64 (e 0 : Nat), .int .i64 (e 1 : Nat), .int .i64 (e 2 : Nat)] 55))
  obtain ⟨hA1, hA2⟩ := at_two_parts hA
  have hle1 := hA1.le
  have H1 := Lib.hid (fun w (hb : Below W.heap.size W w) => ih1 m l (a + 1) _ e aN n cN aM cM nx mk w hl hA1 (hk.keep (Nat.le_refl _) hb) hE)
  have H2 := Lib.hid (fun w (hb : Below W.heap.size W w) => ih2 m l _ z e aN n cN aM cM nx mk w hl hA2 (hk.keep (Nat.le_refl _) hb) hE)
  rw [show ((a + 1 : Nat) : Int) = (a : Int) + 1 by omega] at H1
  have hX := lt64 (den_lt (nx := nx) (mk := mk) F hE) h6
  have hY := lt64 (den_lt (nx := nx) (mk := mk) G hE) h6
  have HO := Lib.hid (bor_nat (den n nx mk F e) (den n nx mk G e) (Nat.lt_of_lt_of_le hX (by decide)) (Nat.lt_of_lt_of_le hY (by decide)))
  have hs : (st l).size = l.length := st_size l
  have hg : ∀ h : a < (st l).size, (st l)[a] = 124 := fun h => hx
  have hsz : (st l).size ≤ 5000 := by omega
  have has : a < (st l).size := by omega
  generalize st l = L at *
  have hg' := hg has
  have HI0 := Lib.hid (HInv.start (aN := aN) (n := n) (cN := cN) (aM := aM) (cM := cM) (e := e) (W := W))
  have HK := Lib.hid hk
  have HDen : Hid (den n nx mk (.two false F G) e = den n nx mk F e ||| den n nx mk G e) := if_neg (by decide)
  generalize a + 1 + (str F).length = z1 at *
  generalize den n nx mk F e = X at *
  have hz15 : z1 ≤ 5000 := by omega
  generalize den n nx mk G e = Y at *
  clear hx hs hl hA hk hE hA1 hA2 hle1 ih1 ih2
  obtain ⟨q0, q1, q2, q3, q4⟩ := HI0.out.cells
  go_enter Try.func39, Try.ntmps39
  go_wp2_with (first | (go_at_call 39; refine (H1.out _ HI0.out.bel).mono ?_) | go_in)
  rintro r w1 ⟨rfl, hb⟩
  have HI1 := Lib.hid (HI0.out.keep hb)
  clear hb q0 q1 q2 q3 q4
  obtain ⟨q0, q1, q2, q3, q4⟩ := HI1.out.cells
  go_wp2_with (first | (go_at_call 39; refine (H2.out _ HI1.out.bel).mono ?_) | go_in)
  rintro r w2 ⟨rfl, hb⟩
  have HI2 := Lib.hid (HI1.out.keep hb)
  clear hb q0 q1 q2 q3 q4
  go_wp2
  exact bodyPost_ret (v := .tuple #[.int .i64 (X ||| Y : Nat), .int .i64 (z : Nat)]) (by simp [results, Try.results39, go_sem, HO.out]) rfl ⟨by rw [HDen.out], HI2.out.bel⟩

set_option maxHeartbeats 4000000 in
set_option maxRecDepth 100000 in
theorem hr_dia (F : Fm) (ih : HR F) : HR (.ahead true F) := by
  intro m l a z e aN n cN aM cM nx mk W hl hA hk hE
  obtain ⟨ha, hx⟩ := at_head hA (x := 60) (t := str F) rfl
  have h6 := hk.n6
  have HB := Lib.hid (below_two W (.cells #[.slice aN n cN, .slice aM n cM] 24) (.cells #[.int .i64 (e 0 : Nat), .int .i64 (e 1 : Nat), .int .i64 (e 2 : Nat)] 55))
  have hA1 := at_ahead_part hA
  have hle1 := hA1.le
  have H1 := Lib.hid (fun w (hb : Below W.heap.size W w) => ih m l (a + 1) z e aN n cN aM cM nx mk w hl hA1 (hk.keep (Nat.le_refl _) hb) hE)
  rw [show ((a + 1 : Nat) : Int) = (a : Int) + 1 by omega] at H1
  have hX := den_lt (nx := nx) (mk := mk) F hE
  have hs : (st l).size = l.length := st_size l
  have hg : ∀ h : a < (st l).size, (st l)[a] = 60 := fun h => hx
  have hsz : (st l).size ≤ 5000 := by omega
  have has : a < (st l).size := by omega
  generalize st l = L at *
  have hg' := hg has
  have HI0 := Lib.hid (HInv.start (aN := aN) (n := n) (cN := cN) (aM := aM) (cM := cM) (e := e) (W := W))
  have HK := Lib.hid hk
  have HDen : Hid (den n nx mk (.ahead true F) e = bef nx (den n nx mk F e) n) := rfl
  generalize den n nx mk F e = X at *
  have HB2 : Hid (bef nx X n = den n nx mk (.ahead true F) e) := by rw [Hid, HDen.out]
  clear hx hs hl hA hk hE hA1 hle1 ih HDen
  obtain ⟨q0, q1, q2, q3, q4⟩ := HI0.out.cells
  go_enter Try.func39, Try.ntmps39
  go_wp2_with (first | (go_at_call 39; refine (H1.out _ HI0.out.bel).mono ?_) | go_in)
  rintro r w1 ⟨rfl, hb⟩
  have HI1 := Lib.hid (HI0.out.keep hb)
  have HN := Lib.hid (HK.out.keep (Nat.le_refl _) HI1.out.bel).N
  clear hb q0 q1 q2 q3 q4
  obtain ⟨q0, q1, q2, q3, q4⟩ := HI1.out.cells
  go_wp2
  go_loop [23, 156] (fun sv iv => ∃ k : Nat, k ≤ n ∧ iv = .int .i64 k ∧ sv = .int .i64 ((bef nx X k : Nat) : Int)) (fun _ iv => n - (intOf iv).toNat)
  case atStart => exact ⟨0, Nat.zero_le _, rfl, rfl⟩
  case round =>
    obtain ⟨k, hk, rfl, rfl⟩ := hrel
    by_cases hlt : k < n
    · obtain ⟨b, o, rfl, hck⟩ := HN.out k hlt
      have hck' := hck
      simp only at hck'
      have hnk := lt64 (HK.out.nx_lt k hlt) h6
      have hX64 := lt64 hX h6
      have HO := Lib.hid (or_wrap (lt64 (bef_lt nx X k) (show k ≤ 6 by omega)) (show k ≤ 6 by omega))
      have hb := band_nat (nx k) X (Nat.lt_of_lt_of_le hnk (by decide)) (Nat.lt_of_lt_of_le hX64 (by decide))
      by_cases h0 : nx k &&& X = 0
      · have HKn := Lib.hid (bef_no h0)
        have hb' : bits .and .i64 (nx k : Int) (X : Int) = 0 := by rw [hb, h0]; rfl
        clear hb h0 hck hnk hX64
        go_wp2
        go_round
        case rel => exact ⟨k + 1, by omega, by go_num, by rw [HKn.out]⟩
        case measure => simp [intOf]; omega
      · have HKn := Lib.hid (bef_yes h0)
        obtain ⟨Z, hZ⟩ : ∃ Z : Int, bits .and .i64 (nx k : Int) (X : Int) = Z ∧ ¬ Z = 0 := ⟨_, hb, by omega⟩
        obtain ⟨hZ, hZ0⟩ := hZ
        clear hb h0 hck hnk hX64
        go_wp2
        go_round
        case rel => exact ⟨k + 1, by omega, by go_num, by rw [HKn.out, HO.out]⟩
        case measure => simp [intOf]; omega
    · obtain rfl : k = n := by omega
      go_wp2
      exact bodyPost_ret (v := .tuple #[.int .i64 (bef nx X k : Nat), .int .i64 (z : Nat)]) (by simp [results, Try.results39, go_sem]) rfl ⟨by rw [HB2.out], HI1.out.bel⟩

set_option maxHeartbeats 4000000 in
set_option maxRecDepth 100000 in
theorem hr_box (F : Fm) (ih : HR F) : HR (.ahead false F) := by
  intro m l a z e aN n cN aM cM nx mk W hl hA hk hE
  obtain ⟨ha, hx⟩ := at_head hA (x := 91) (t := str F) rfl
  have h6 := hk.n6
  have HB := Lib.hid (below_two W (.cells #[.slice aN n cN, .slice aM n cM] 24) (.cells #[.int .i64 (e 0 : Nat), .int .i64 (e 1 : Nat), .int .i64 (e 2 : Nat)] 55))
  have hA1 := at_ahead_part hA
  have hle1 := hA1.le
  have H1 := Lib.hid (fun w (hb : Below W.heap.size W w) => ih m l (a + 1) z e aN n cN aM cM nx mk w hl hA1 (hk.keep (Nat.le_refl _) hb) hE)
  rw [show ((a + 1 : Nat) : Int) = (a : Int) + 1 by omega] at H1
  have hX := den_lt (nx := nx) (mk := mk) F hE
  have hs : (st l).size = l.length := st_size l
  have hg : ∀ h : a < (st l).size, (st l)[a] = 91 := fun h => hx
  have hsz : (st l).size ≤ 5000 := by omega
  have has : a < (st l).size := by omega
  generalize st l = L at *
  have hg' := hg has
  have HI0 := Lib.hid (HInv.start (aN := aN) (n := n) (cN := cN) (aM := aM) (cM := cM) (e := e) (W := W))
  have HK := Lib.hid hk
  have HDen : Hid (den n nx mk (.ahead false F) e = sdf (2 ^ n - 1) (bef nx (sdf (2 ^ n - 1) (den n nx mk F e)) n)) := rfl
  generalize den n nx mk F e = X at *
  have HB2 : Hid (bx nx X n = den n nx mk (.ahead false F) e) := by rw [Hid, HDen.out]; exact bx_is hk.nx_lt
  clear hx hs hl hA hk hE hA1 hle1 ih HDen
  obtain ⟨q0, q1, q2, q3, q4⟩ := HI0.out.cells
  go_enter Try.func39, Try.ntmps39
  go_wp2_with (first | (go_at_call 39; refine (H1.out _ HI0.out.bel).mono ?_) | go_in)
  rintro r w1 ⟨rfl, hb⟩
  have HI1 := Lib.hid (HI0.out.keep hb)
  have HN := Lib.hid (HK.out.keep (Nat.le_refl _) HI1.out.bel).N
  clear hb q0 q1 q2 q3 q4
  obtain ⟨q0, q1, q2, q3, q4⟩ := HI1.out.cells
  go_wp2
  go_loop [23, 156] (fun sv iv => ∃ k : Nat, k ≤ n ∧ iv = .int .i64 k ∧ sv = .int .i64 ((bx nx X k : Nat) : Int)) (fun _ iv => n - (intOf iv).toNat)
  case atStart => exact ⟨0, Nat.zero_le _, rfl, rfl⟩
  case round =>
    obtain ⟨k, hk, rfl, rfl⟩ := hrel
    by_cases hlt : k < n
    · obtain ⟨b, o, rfl, hck⟩ := HN.out k hlt
      have hck' := hck
      simp only at hck'
      have hnk := lt64 (HK.out.nx_lt k hlt) h6
      have hX64 := lt64 hX h6
      have HO := Lib.hid (or_wrap (lt64 (bx_lt nx X k) (show k ≤ 6 by omega)) (show k ≤ 6 by omega))
      have hb := andNot_nat hnk hX64
      by_cases h0 : sdf (nx k) X = 0
      · have HKn := Lib.hid (bx_yes h0)
        have hb' : bits .andNot .i64 (nx k : Int) (X : Int) = 0 := by rw [hb, h0]; rfl
        clear hb h0 hck hnk hX64
        go_wp2
        go_round
        case rel => exact ⟨k + 1, by omega, by go_num, by rw [HKn.out, HO.out]⟩
        case measure => simp [intOf]; omega
      · have HKn := Lib.hid (bx_no h0)
        obtain ⟨Z, hZ⟩ : ∃ Z : Int, bits .andNot .i64 (nx k : Int) (X : Int) = Z ∧ (Z == 0) = false := ⟨_, hb, by simpa using h0⟩
        obtain ⟨hZ, hZ0⟩ := hZ
        clear hb h0 hck hnk hX64
        go_wp2
        go_round
        case rel => exact ⟨k + 1, by omega, by go_num, by rw [HKn.out]⟩
        case measure => simp [intOf]; omega
    · obtain rfl : k = n := by omega
      go_wp2
      exact bodyPost_ret (v := .tuple #[.int .i64 (bx nx X k : Nat), .int .i64 (z : Nat)]) (by simp [results, Try.results39, go_sem]) rfl ⟨by rw [HB2.out], HI1.out.bel⟩

end Go.Proofs.Ytkbbijhknbcflaa
