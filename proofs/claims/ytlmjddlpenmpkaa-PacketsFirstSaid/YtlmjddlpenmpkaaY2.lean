import Derived.Test.YtlmjddlpenmpkaaY1
namespace Go.Proofs.Ytlmjddlpenmpkaa
open Go.RowKit Go.Shelf

set_option maxHeartbeats 4000000 in
set_option maxRecDepth 100000 in
theorem first_bad (a : Option Addr) (n cap : Nat) (z : Nat → Int) (x y : Int) (w : World) (h : (okS n z x && okS n z y) = false ∨ x = 0 ∨ y = 0) (hcap : n ≤ cap) (h8 : n * 8 ≤ 140737488355328) (hz : Ints w a n z) :
    Calls Try.prog 6 #[.slice a n cap, .int .i64 x, .int .i64 y] w fun e w' => SomeB true w e w' := by
  have h2 : (okS (min n 8) z x && okS (min n 8) z y) = false ∨ x = 0 ∨ y = 0 := by rw [okS_cut, okS_cut]; exact h
  have HL := Lib.hid (fun W (hW : Below w.heap.size w W) => list_any a cap n z W hcap h8 (hz.keep (Nat.le_refl _) hW))
  have HD := Lib.hid (fun a1 c1 W (hI : Ints W a1 (min n 8) z) => fFirst_bad a1 (min n 8) c1 z x y W h2 (by have := Nat.min_le_right n 8; omega) hI)
  obtain ⟨ra, hra⟩ : ∃ r, okS n z x = r := ⟨_, rfl⟩
  obtain ⟨rb, hrb⟩ : ∃ r, okS n z y = r := ⟨_, rfl⟩
  have HS1 := Lib.hid (fun W (hW : Below w.heap.size w W) => rset_r ra a n cap z x W hra (by omega) (hz.keep (Nat.le_refl _) hW))
  have HS2 := Lib.hid (fun W (hW : Below w.heap.size w W) => rset_r rb a n cap z y W hrb (by omega) (hz.keep (Nat.le_refl _) hW))
  rw [hra, hrb] at h
  have key : ra = false ∨ (ra = true ∧ rb = false) ∨ (ra = true ∧ rb = true ∧ (x == 0) = true) ∨ (ra = true ∧ rb = true ∧ (x == 0) = false ∧ (y == 0) = true) := by
    cases ra
    · exact Or.inl rfl
    · cases rb
      · exact Or.inr (Or.inl ⟨rfl, rfl⟩)
      · right; right
        by_cases hx : x = 0
        · exact Or.inl ⟨rfl, rfl, by simp [hx]⟩
        · right
          rcases h with h | h | h
          · cases h
          · exact absurd h hx
          · exact ⟨rfl, rfl, by simp [hx], by simp [h]⟩
  clear hz h h2 hra hrb
  rcases key with rfl | ⟨rfl, rfl⟩ | ⟨rfl, rfl, g1⟩ | ⟨rfl, rfl, g1, g2⟩
  · go_enter Try.func6, Try.ntmps6
    go_wp2_with fail
    refine (HL.out w (Below.refl _ _)).mono ?_
    rintro e w1 ⟨a1, c1, rfl, hO, hb⟩
    have HI1 := Lib.hid hO.ints
    clear hO
    have HBw1 := Lib.hid (band (Below.refl _ _) hb)
    clear hb
    go_wp2_with fail
    refine (HD.out a1 c1 w1 HI1.out).mono ?_
    rintro e w2 ⟨rfl, hb⟩
    have HBw2 := Lib.hid (band HBw1.out hb)
    clear hb
    obtain ⟨w3, hw3⟩ : ∃ w3, w3 = w2.alloc (.cells #[.int .i64 0, .int .i64 (0 : Int)] 24) := ⟨_, rfl⟩
    have HQ1 : Hid (w3.heap[w2.heap.size]? = some (.cells #[.int .i64 0, .int .i64 (0 : Int)] 24)) := by rw [hw3]; exact heap_alloc_new w2 _
    have HBw3 : Hid (Below w.heap.size w w3) := by rw [hw3]; exact HBw2.out.alloc (HBw2.out).size _
    have HWw3 := Lib.hid hw3
    clear hw3
    obtain ⟨qa2, qb2, _, _⟩ := fr_cells HQ1.out
    go_wp2_with fail
    rw [← HWw3.out]
    refine (HS1.out w3 HBw3.out).mono ?_
    rintro e w' ⟨rfl, rfl⟩
    go_wp2_with fail
    refine (none_zero _).mono ?_
    rintro e w4 ⟨rfl, hb⟩
    clear qa2 qb2
    have HBw4 := Lib.hid (band HBw3.out hb)
    have HQ3 := Lib.hid (frAt HQ1.out hb)
    clear hb
    obtain ⟨qa4, qb4, _, _⟩ := fr_cells HQ3.out
    go_wp2_with fail
    refine (awake_any _).mono ?_
    rintro e w5 ⟨rfl, hb⟩
    clear qa4 qb4
    have HBw5 := Lib.hid (band HBw4.out hb)
    have HQ5 := Lib.hid (frAt HQ3.out hb)
    clear hb
    obtain ⟨qa6, qb6, _, _⟩ := fr_cells HQ5.out
    go_wp2
    go_ret
    exact ⟨rfl, HBw5.out⟩
  · go_enter Try.func6, Try.ntmps6
    go_wp2_with fail
    refine (HL.out w (Below.refl _ _)).mono ?_
    rintro e w1 ⟨a1, c1, rfl, hO, hb⟩
    have HI1 := Lib.hid hO.ints
    clear hO
    have HBw1 := Lib.hid (band (Below.refl _ _) hb)
    clear hb
    go_wp2_with fail
    refine (HD.out a1 c1 w1 HI1.out).mono ?_
    rintro e w2 ⟨rfl, hb⟩
    have HBw2 := Lib.hid (band HBw1.out hb)
    clear hb
    obtain ⟨w3, hw3⟩ : ∃ w3, w3 = w2.alloc (.cells #[.int .i64 0, .int .i64 (0 : Int)] 24) := ⟨_, rfl⟩
    have HQ1 : Hid (w3.heap[w2.heap.size]? = some (.cells #[.int .i64 0, .int .i64 (0 : Int)] 24)) := by rw [hw3]; exact heap_alloc_new w2 _
    have HBw3 : Hid (Below w.heap.size w w3) := by rw [hw3]; exact HBw2.out.alloc (HBw2.out).size _
    have HWw3 := Lib.hid hw3
    clear hw3
    obtain ⟨qa2, qb2, _, _⟩ := fr_cells HQ1.out
    go_wp2_with fail
    rw [← HWw3.out]
    refine (HS1.out w3 HBw3.out).mono ?_
    rintro e w' ⟨rfl, rfl⟩
    go_wp2_with fail
    refine (HS2.out w3 HBw3.out).mono ?_
    rintro e w' ⟨rfl, rfl⟩
    go_wp2_with fail
    refine (none_zero _).mono ?_
    rintro e w4 ⟨rfl, hb⟩
    clear qa2 qb2
    have HBw4 := Lib.hid (band HBw3.out hb)
    have HQ3 := Lib.hid (frAt HQ1.out hb)
    clear hb
    obtain ⟨qa4, qb4, _, _⟩ := fr_cells HQ3.out
    go_wp2_with fail
    refine (awake_any _).mono ?_
    rintro e w5 ⟨rfl, hb⟩
    clear qa4 qb4
    have HBw5 := Lib.hid (band HBw4.out hb)
    have HQ5 := Lib.hid (frAt HQ3.out hb)
    clear hb
    obtain ⟨qa6, qb6, _, _⟩ := fr_cells HQ5.out
    go_wp2
    go_ret
    exact ⟨rfl, HBw5.out⟩
  · go_enter Try.func6, Try.ntmps6
    go_wp2_with fail
    refine (HL.out w (Below.refl _ _)).mono ?_
    rintro e w1 ⟨a1, c1, rfl, hO, hb⟩
    have HI1 := Lib.hid hO.ints
    clear hO
    have HBw1 := Lib.hid (band (Below.refl _ _) hb)
    clear hb
    go_wp2_with fail
    refine (HD.out a1 c1 w1 HI1.out).mono ?_
    rintro e w2 ⟨rfl, hb⟩
    have HBw2 := Lib.hid (band HBw1.out hb)
    clear hb
    obtain ⟨w3, hw3⟩ : ∃ w3, w3 = w2.alloc (.cells #[.int .i64 0, .int .i64 (0 : Int)] 24) := ⟨_, rfl⟩
    have HQ1 : Hid (w3.heap[w2.heap.size]? = some (.cells #[.int .i64 0, .int .i64 (0 : Int)] 24)) := by rw [hw3]; exact heap_alloc_new w2 _
    have HBw3 : Hid (Below w.heap.size w w3) := by rw [hw3]; exact HBw2.out.alloc (HBw2.out).size _
    have HWw3 := Lib.hid hw3
    clear hw3
    obtain ⟨qa2, qb2, _, _⟩ := fr_cells HQ1.out
    go_wp2_with fail
    rw [← HWw3.out]
    refine (HS1.out w3 HBw3.out).mono ?_
    rintro e w' ⟨rfl, rfl⟩
    go_wp2_with fail
    refine (HS2.out w3 HBw3.out).mono ?_
    rintro e w' ⟨rfl, rfl⟩
    go_wp2_with fail
    refine (none_zero _).mono ?_
    rintro e w4 ⟨rfl, hb⟩
    clear qa2 qb2
    have HBw4 := Lib.hid (band HBw3.out hb)
    have HQ3 := Lib.hid (frAt HQ1.out hb)
    clear hb
    obtain ⟨qa4, qb4, _, _⟩ := fr_cells HQ3.out
    go_wp2_with fail
    refine (awake_any _).mono ?_
    rintro e w5 ⟨rfl, hb⟩
    clear qa4 qb4
    have HBw5 := Lib.hid (band HBw4.out hb)
    have HQ5 := Lib.hid (frAt HQ3.out hb)
    clear hb
    obtain ⟨qa6, qb6, _, _⟩ := fr_cells HQ5.out
    go_wp2
    go_ret
    exact ⟨rfl, HBw5.out⟩
  · go_enter Try.func6, Try.ntmps6
    go_wp2_with fail
    refine (HL.out w (Below.refl _ _)).mono ?_
    rintro e w1 ⟨a1, c1, rfl, hO, hb⟩
    have HI1 := Lib.hid hO.ints
    clear hO
    have HBw1 := Lib.hid (band (Below.refl _ _) hb)
    clear hb
    go_wp2_with fail
    refine (HD.out a1 c1 w1 HI1.out).mono ?_
    rintro e w2 ⟨rfl, hb⟩
    have HBw2 := Lib.hid (band HBw1.out hb)
    clear hb
    obtain ⟨w3, hw3⟩ : ∃ w3, w3 = w2.alloc (.cells #[.int .i64 0, .int .i64 (0 : Int)] 24) := ⟨_, rfl⟩
    have HQ1 : Hid (w3.heap[w2.heap.size]? = some (.cells #[.int .i64 0, .int .i64 (0 : Int)] 24)) := by rw [hw3]; exact heap_alloc_new w2 _
    have HBw3 : Hid (Below w.heap.size w w3) := by rw [hw3]; exact HBw2.out.alloc (HBw2.out).size _
    have HWw3 := Lib.hid hw3
    clear hw3
    obtain ⟨qa2, qb2, _, _⟩ := fr_cells HQ1.out
    go_wp2_with fail
    rw [← HWw3.out]
    refine (HS1.out w3 HBw3.out).mono ?_
    rintro e w' ⟨rfl, rfl⟩
    go_wp2_with fail
    refine (HS2.out w3 HBw3.out).mono ?_
    rintro e w' ⟨rfl, rfl⟩
    go_wp2_with fail
    refine (none_zero _).mono ?_
    rintro e w4 ⟨rfl, hb⟩
    clear qa2 qb2
    have HBw4 := Lib.hid (band HBw3.out hb)
    have HQ3 := Lib.hid (frAt HQ1.out hb)
    clear hb
    obtain ⟨qa4, qb4, _, _⟩ := fr_cells HQ3.out
    go_wp2_with fail
    refine (awake_any _).mono ?_
    rintro e w5 ⟨rfl, hb⟩
    clear qa4 qb4
    have HBw5 := Lib.hid (band HBw4.out hb)
    have HQ5 := Lib.hid (frAt HQ3.out hb)
    clear hb
    obtain ⟨qa6, qb6, _, _⟩ := fr_cells HQ5.out
    go_wp2
    go_ret
    exact ⟨rfl, HBw5.out⟩

set_option maxHeartbeats 8000000 in
set_option maxRecDepth 100000 in
theorem first_good (a : Option Addr) (n cap : Nat) (z : Nat → Int) (x y : Nat) (w : World) (hx : okS n z x = true) (hy : okS n z y = true) (hx0 : x ≠ 0) (hy0 : y ≠ 0) (hcap : n ≤ cap) (h8 : n * 8 ≤ 140737488355328) (hz : Ints w a n z) :
    Calls Try.prog 6 #[.slice a n cap, .int .i64 x, .int .i64 y] w fun e w' => SomeB true w e w' := by
  obtain ⟨t, ht, hs, h1n, hn6, h9⟩ := okS_nat hx
  have ht' : x = t := by omega
  subst ht'
  obtain ⟨t, ht2, hs2, _, _, _⟩ := okS_nat hy
  have ht' : y = t := by omega
  subst ht'
  have hmn : min n 8 = n := by omega
  have hl := fun W (hW : Below w.heap.size w W) => list_any a cap n z W hcap h8 (hz.keep (Nat.le_refl _) hW)
  rw [hmn] at hl
  have HL := Lib.hid hl
  have hx64 := lt64 hs hn6
  have hy64 := lt64 hs2 hn6
  have hxy : x ||| y < 2 ^ n := Nat.or_lt_two_pow hs hs2
  have hxy0 : x ||| y ≠ 0 := fun h => hx0 (Nat.or_eq_zero_iff.1 h).1
  obtain ⟨L, hSL⟩ := setL_any (z := z) hxy hxy0 hn6 h9
  have hL1 := hSL.L1
  have hLM := hSL.LM
  have sb1 := sub_diff hx64 hy64
  have HFi : Hid (∀ a1 c1 W, Ints W a1 n z → Calls Try.prog 33 #[.slice a1 n c1, .int .i64 x, .int .i64 y] W fun e w' => FrOut (fiX z L x y) L W e w') := fun a1 c1 W hI =>
    fFirst_good a1 n c1 z x y L W hx hy hx0 hy0 (by omega) hI hL1 hLM (fun k hk => hSL.ok k (sb1.subset hk)) (by have := hSL.some sb1; omega)
  have HRF := Lib.hid (fun W (hW : Below w.heap.size w W) => rfirst_any a n cap z x y L W hs hs2 h1n hn6 (hz.keep (Nat.le_refl _) hW) h9 hSL)
  have HR1 := Lib.hid (fun W (hW : Below w.heap.size w W) => rset_r true a n cap z (x : Int) W hx (by omega) (hz.keep (Nat.le_refl _) hW))
  have HR2 := Lib.hid (fun W (hW : Below w.heap.size w W) => rset_r true a n cap z (y : Int) W hy (by omega) (hz.keep (Nat.le_refl _) hW))
  have G1 : ((x : Int) == 0) = false := by simp; omega
  have G2 : ((y : Int) == 0) = false := by simp; omega
  clear hl hmn hx hy hx0 hy0 ht ht2 hs hs2 h9 hz hx64 hy64 hxy hxy0 hSL sb1
  generalize fiX z L x y = X at *
  go_enter Try.func6, Try.ntmps6
  go_wp2_with fail
  refine (HL.out w (Below.refl _ _)).mono ?_
  rintro e w1 ⟨a1, c1, rfl, hO, hb⟩
  have HI1 := Lib.hid hO.ints
  clear hO
  have HBw1 := Lib.hid (band (Below.refl _ _) hb)
  clear hb
  go_wp2_with fail
  refine (HFi.out a1 c1 w1 HI1.out).mono ?_
  rintro e w2 ⟨rfl, hb⟩
  obtain ⟨A1, hA1⟩ : ∃ A1, A1 = frA X L := ⟨_, rfl⟩
  obtain ⟨B1, hB1⟩ : ∃ B1, B1 = frB X L := ⟨_, rfl⟩
  have HNA1 : Hid (frA X L = A1 ∧ frB X L = B1) := ⟨hA1.symm, hB1.symm⟩
  rw [← hA1, ← hB1]
  clear hA1 hB1
  have HBw2 := Lib.hid (band HBw1.out hb)
  clear hb
  obtain ⟨w3, hw3⟩ : ∃ w3, w3 = w2.alloc (.cells #[.int .i64 A1, .int .i64 (B1 : Int)] 24) := ⟨_, rfl⟩
  have HQ1 : Hid (w3.heap[w2.heap.size]? = some (.cells #[.int .i64 A1, .int .i64 (B1 : Int)] 24)) := by rw [hw3]; exact heap_alloc_new w2 _
  have HBw3 : Hid (Below w.heap.size w w3) := by rw [hw3]; exact HBw2.out.alloc (HBw2.out).size _
  have HWw3 := Lib.hid hw3
  clear hw3
  obtain ⟨qa2, qb2, _, _⟩ := fr_cells HQ1.out
  go_wp2_with fail
  rw [← HWw3.out]
  refine (HR1.out w3 HBw3.out).mono ?_
  rintro e w' ⟨rfl, rfl⟩
  go_wp2_with fail
  refine (HR2.out w3 HBw3.out).mono ?_
  rintro e w' ⟨rfl, rfl⟩
  have HRF1 := Lib.hid (HRF.out w3.drew HBw3.out.drew)
  go_wp2
  go_region_held3 (fun w' => w'.cell? ⟨w2.heap.size, 0, none⟩ = some (.int .i64 A1) ∧ w'.cell? ⟨w2.heap.size, 1, none⟩ = some (.int .i64 (B1 : Int)))
    (first
      | (go_split_ands; exact two_cells HQ5.out)
      | (go_split_ands; exact two_cells HQ6.out)
      | go_keep)
    ((first
      | ((with_reducible refine HRF1.out.mono ?_); rintro e w5 ⟨rfl, hb5⟩; rw [HNA1.out.1, HNA1.out.2]; have HQ6 := Lib.hid (frAt HQ1.out (below_drew1 hb5)); have HB5 := Lib.hid (band HBw3.out (below_drew1 hb5)); clear hb5)
      | ((with_reducible refine (awake_any _).mono ?_); rintro e w6 ⟨rfl, hb6⟩; have HQ5 := Lib.hid (frAt HQ6.out hb6); have HB6 := Lib.hid (band HB5.out hb6); clear hb6)))
  all_goals
    go_wp2
    go_ret
    exact ⟨rfl, HB6.out⟩

theorem first_row (w : World) (a : Option Addr) (n cap : Nat) (z : Nat → Int) (hcap : n ≤ cap) (h8 : n * 8 ≤ 140737488355328) (hz : Ints w a n z) (x : Int) (_ : -9223372036854775808 ≤ x ∧ x ≤ 9223372036854775807) (y : Int) (_ : -9223372036854775808 ≤ y ∧ y ≤ 9223372036854775807) :
    Calls Try.prog 6 #[.slice a n cap, .int .i64 x, .int .i64 y] w fun e w' => SomeB true w e w' := by
  by_cases h : (okS n z x && okS n z y) = true ∧ x ≠ 0 ∧ y ≠ 0
  · have h1 := h.1
    rw [Bool.and_eq_true] at h1
    obtain ⟨t, ht, _⟩ := okS_nat h1.1
    obtain ⟨u, hu, _⟩ := okS_nat h1.2
    subst ht hu
    exact first_good a n cap z t u w h1.1 h1.2 (by omega) (by omega) hcap h8 hz
  · refine first_bad a n cap z x y w ?_ hcap h8 hz
    cases h1 : (okS n z x && okS n z y)
    · exact Or.inl rfl
    · right
      by_cases hx : x = 0
      · exact Or.inl hx
      · by_cases hy : y = 0
        · exact Or.inr hy
        · exact absurd ⟨h1, hx, hy⟩ h
end Go.Proofs.Ytlmjddlpenmpkaa
