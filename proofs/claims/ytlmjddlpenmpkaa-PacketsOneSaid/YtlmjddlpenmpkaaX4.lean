import Derived.Test.YtlmjddlpenmpkaaX3
namespace Go.Proofs.Ytlmjddlpenmpkaa
open Go.RowKit Go.Shelf

theorem wrap_full6 {n : Nat} (hn : n ≤ 6) : wrap64 (wrap64 ((2 : Int) ^ n) - 1) = ((2 ^ n - 1 : Nat) : Int) := by
  rw [wrap_pow6 hn]
  have h := pow_6 hn
  generalize 2 ^ n = P at *
  rw [IntWalk.wrap64_in _ ⟨by omega, by omega⟩]
  omega
/-- The code that Mean returns. -/
def codeR (r : Bool) : Int := if r then 0 else 2
theorem mean_some {n : Nat} {z : Nat → Int} {x : Int} {r : Bool} (hr : okS n z x = r) (hn : n ≤ 140737488351232) :
    ∃ (A : Int) (B : Nat), ∀ (a : Option Addr) (cap : Nat) (w : World), Ints w a n z → Calls Try.prog 18 #[.slice a n cap, .int .i64 x] w fun e w' => e = .returned (.tuple #[.agg #[.int .i64 A, .int .i64 (B : Int)], .int .i64 (codeR r)]) ∧ Below w.heap.size w w' := by
  cases r with
  | false => exact ⟨0, 0, fun a cap w hz => fMean_bad a n cap z x w hr hn hz⟩
  | true =>
    obtain ⟨t, ht, _, h1n, hn6, h9⟩ := okS_nat hr
    subst ht
    obtain ⟨L, D, hF, _, _⟩ := meanF_any (z := z) h1n hn6 h9
    exact ⟨_, _, fun a cap w hz => hF.mean a cap t w hr hn hz⟩

set_option maxHeartbeats 4000000 in
set_option maxRecDepth 100000 in
theorem one_bad (a : Option Addr) (n cap : Nat) (z : Nat → Int) (x y : Int) (w : World) (h : (okS n z x && okS n z y) = false) (hcap : n ≤ cap) (h8 : n * 8 ≤ 140737488355328) (hz : Ints w a n z) :
    Calls Try.prog 10 #[.slice a n cap, .int .i64 x, .int .i64 y] w fun e w' => SomeB true w e w' := by
  have HL := Lib.hid (fun W (hW : Below w.heap.size w W) => list_any a cap n z W hcap h8 (hz.keep (Nat.le_refl _) hW))
  have hm := Nat.min_le_right n 8
  obtain ⟨ra, hra⟩ : ∃ r, okS n z x = r := ⟨_, rfl⟩
  obtain ⟨rb, hrb⟩ : ∃ r, okS n z y = r := ⟨_, rfl⟩
  have hxa : okS (min n 8) z x = ra := by rw [okS_cut]; exact hra
  have hxb : okS (min n 8) z y = rb := by rw [okS_cut]; exact hrb
  obtain ⟨A1, B1, hM1⟩ := mean_some hxa (by omega)
  obtain ⟨A2, B2, hM2⟩ := mean_some hxb (by omega)
  have HM1 := Lib.hid hM1
  have HM2 := Lib.hid hM2
  have HS1 := Lib.hid (fun W (hW : Below w.heap.size w W) => rset_r ra a n cap z x W hra (by omega) (hz.keep (Nat.le_refl _) hW))
  have HS2 := Lib.hid (fun W (hW : Below w.heap.size w W) => rset_r rb a n cap z y W hrb (by omega) (hz.keep (Nat.le_refl _) hW))
  rw [hra, hrb] at h
  clear hz hM1 hM2 hra hrb hxa hxb hm
  have key : ra = false ∨ (ra = true ∧ rb = false) := by cases ra <;> cases rb <;> simp at h ⊢
  rcases key with rfl | ⟨rfl, rfl⟩
  · have e1 : codeR false = 2 := rfl
    rw [e1] at HM1
    clear h e1
    obtain ⟨q, hq⟩ : ∃ q, q = codeR rb := ⟨_, rfl⟩
    rw [← hq] at HM2
    clear hq
    go_enter Try.func10, Try.ntmps10
    go_wp2_with fail
    refine (HS1.out w (Below.refl _ _)).mono ?_
    rintro e w' ⟨rfl, rfl⟩
    go_wp2_with fail
    refine (HL.out w (Below.refl _ _)).mono ?_
    rintro e w1 ⟨a1, c1, rfl, hO, hb⟩
    have HI1 := Lib.hid hO.ints
    clear hO
    have HBw1 := Lib.hid (band (Below.refl _ _) hb)
    clear hb
    go_wp2_with fail
    refine (HM1.out a1 c1 w1 HI1.out).mono ?_
    rintro e w2 ⟨rfl, hb⟩
    have HBw2 := Lib.hid (band HBw1.out hb)
    clear hb
    obtain ⟨w3, hw3⟩ : ∃ w3, w3 = w2.alloc (.cells #[.int .i64 A1, .int .i64 (B1 : Int)] 24) := ⟨_, rfl⟩
    have HQ1 : Hid (w3.heap[w2.heap.size]? = some (.cells #[.int .i64 A1, .int .i64 (B1 : Int)] 24)) := by rw [hw3]; exact heap_alloc_new w2 _
    have HBw3 : Hid (Below w.heap.size w w3) := by rw [hw3]; exact HBw2.out.alloc (HBw2.out).size _
    have HWw3 := Lib.hid hw3
    clear hw3
    obtain ⟨qa2, qb2, _, _⟩ := fr_cells HQ1.out
    go_wp2_with fail
    rw [← HWw3.out]
    refine (HL.out w3 HBw3.out).mono ?_
    rintro e w4 ⟨a2, c2, rfl, hO, hb⟩
    have HI2 := Lib.hid hO.ints
    clear hO
    clear qa2 qb2
    have HBw4 := Lib.hid (band HBw3.out hb)
    have HQ3 := Lib.hid (frAt HQ1.out hb)
    clear hb
    obtain ⟨qa4, qb4, _, _⟩ := fr_cells HQ3.out
    go_wp2_with fail
    refine (HM2.out a2 c2 w4 HI2.out).mono ?_
    rintro e w5 ⟨rfl, hb⟩
    clear qa4 qb4
    have HBw5 := Lib.hid (band HBw4.out hb)
    have HQ5 := Lib.hid (frAt HQ3.out hb)
    clear hb
    obtain ⟨qa6, qb6, _, _⟩ := fr_cells HQ5.out
    clear qa6 qb6
    obtain ⟨w6, hw6⟩ : ∃ w6, w6 = w5.alloc (.cells #[.int .i64 A2, .int .i64 (B2 : Int)] 24) := ⟨_, rfl⟩
    have HQ7 : Hid (w6.heap[w2.heap.size]? = some (.cells #[.int .i64 A1, .int .i64 (B1 : Int)] 24)) := by rw [hw6]; exact frAt HQ5.out (below_one w5 _)
    have HQ8 : Hid (w6.heap[w5.heap.size]? = some (.cells #[.int .i64 A2, .int .i64 (B2 : Int)] 24)) := by rw [hw6]; exact heap_alloc_new w5 _
    have HBw6 : Hid (Below w.heap.size w w6) := by rw [hw6]; exact HBw5.out.alloc (HBw5.out).size _
    have HWw6 := Lib.hid hw6
    clear hw6
    obtain ⟨qa9, qb9, _, _⟩ := fr_cells HQ7.out
    obtain ⟨qa10, qb10, _, _⟩ := fr_cells HQ8.out
    obtain ⟨qa11, qb11, _, _⟩ := fr_cells (frAt HQ5.out (below_one w5 (.cells #[.int .i64 A2, .int .i64 (B2 : Int)] 24)))
    go_wp2_with fail
    rw [← HWw6.out]
    refine (awake_any _).mono ?_
    rintro e w7 ⟨rfl, hb⟩
    clear qa9 qb9 qa10 qb10 qa11 qb11
    have HBw7 := Lib.hid (band HBw6.out hb)
    have HQ12 := Lib.hid (frAt HQ7.out hb)
    have HQ13 := Lib.hid (frAt HQ8.out hb)
    clear hb
    obtain ⟨qa14, qb14, _, _⟩ := fr_cells HQ12.out
    obtain ⟨qa15, qb15, _, _⟩ := fr_cells HQ13.out
    go_wp2
    go_ret
    exact ⟨rfl, HBw7.out⟩
  · have e1 : codeR true = 0 := rfl
    have e2 : codeR false = 2 := rfl
    rw [e1] at HM1
    rw [e2] at HM2
    clear h e1 e2
    go_enter Try.func10, Try.ntmps10
    go_wp2_with fail
    refine (HS1.out w (Below.refl _ _)).mono ?_
    rintro e w' ⟨rfl, rfl⟩
    go_wp2_with fail
    refine (HS2.out w (Below.refl _ _)).mono ?_
    rintro e w' ⟨rfl, rfl⟩
    go_wp2_with fail
    refine (HL.out w (Below.refl _ _)).mono ?_
    rintro e w1 ⟨a1, c1, rfl, hO, hb⟩
    have HI1 := Lib.hid hO.ints
    clear hO
    have HBw1 := Lib.hid (band (Below.refl _ _) hb)
    clear hb
    go_wp2_with fail
    refine (HM1.out a1 c1 w1 HI1.out).mono ?_
    rintro e w2 ⟨rfl, hb⟩
    have HBw2 := Lib.hid (band HBw1.out hb)
    clear hb
    obtain ⟨w3, hw3⟩ : ∃ w3, w3 = w2.alloc (.cells #[.int .i64 A1, .int .i64 (B1 : Int)] 24) := ⟨_, rfl⟩
    have HQ1 : Hid (w3.heap[w2.heap.size]? = some (.cells #[.int .i64 A1, .int .i64 (B1 : Int)] 24)) := by rw [hw3]; exact heap_alloc_new w2 _
    have HBw3 : Hid (Below w.heap.size w w3) := by rw [hw3]; exact HBw2.out.alloc (HBw2.out).size _
    have HWw3 := Lib.hid hw3
    clear hw3
    obtain ⟨qa2, qb2, _, _⟩ := fr_cells HQ1.out
    go_wp2_with fail
    rw [← HWw3.out]
    refine (HL.out w3 HBw3.out).mono ?_
    rintro e w4 ⟨a2, c2, rfl, hO, hb⟩
    have HI2 := Lib.hid hO.ints
    clear hO
    clear qa2 qb2
    have HBw4 := Lib.hid (band HBw3.out hb)
    have HQ3 := Lib.hid (frAt HQ1.out hb)
    clear hb
    obtain ⟨qa4, qb4, _, _⟩ := fr_cells HQ3.out
    go_wp2_with fail
    refine (HM2.out a2 c2 w4 HI2.out).mono ?_
    rintro e w5 ⟨rfl, hb⟩
    clear qa4 qb4
    have HBw5 := Lib.hid (band HBw4.out hb)
    have HQ5 := Lib.hid (frAt HQ3.out hb)
    clear hb
    obtain ⟨qa6, qb6, _, _⟩ := fr_cells HQ5.out
    clear qa6 qb6
    obtain ⟨w6, hw6⟩ : ∃ w6, w6 = w5.alloc (.cells #[.int .i64 A2, .int .i64 (B2 : Int)] 24) := ⟨_, rfl⟩
    have HQ7 : Hid (w6.heap[w2.heap.size]? = some (.cells #[.int .i64 A1, .int .i64 (B1 : Int)] 24)) := by rw [hw6]; exact frAt HQ5.out (below_one w5 _)
    have HQ8 : Hid (w6.heap[w5.heap.size]? = some (.cells #[.int .i64 A2, .int .i64 (B2 : Int)] 24)) := by rw [hw6]; exact heap_alloc_new w5 _
    have HBw6 : Hid (Below w.heap.size w w6) := by rw [hw6]; exact HBw5.out.alloc (HBw5.out).size _
    have HWw6 := Lib.hid hw6
    clear hw6
    obtain ⟨qa9, qb9, _, _⟩ := fr_cells HQ7.out
    obtain ⟨qa10, qb10, _, _⟩ := fr_cells HQ8.out
    obtain ⟨qa11, qb11, _, _⟩ := fr_cells (frAt HQ5.out (below_one w5 (.cells #[.int .i64 A2, .int .i64 (B2 : Int)] 24)))
    go_wp2_with fail
    rw [← HWw6.out]
    refine (awake_any _).mono ?_
    rintro e w7 ⟨rfl, hb⟩
    clear qa9 qb9 qa10 qb10 qa11 qb11
    have HBw7 := Lib.hid (band HBw6.out hb)
    have HQ12 := Lib.hid (frAt HQ7.out hb)
    have HQ13 := Lib.hid (frAt HQ8.out hb)
    clear hb
    obtain ⟨qa14, qb14, _, _⟩ := fr_cells HQ12.out
    obtain ⟨qa15, qb15, _, _⟩ := fr_cells HQ13.out
    go_wp2
    go_ret
    exact ⟨rfl, HBw7.out⟩

set_option maxHeartbeats 8000000 in
set_option maxRecDepth 100000 in
theorem one_good (a : Option Addr) (n cap : Nat) (z : Nat → Int) (x y : Nat) (w : World) (hx : okS n z x = true) (hy : okS n z y = true) (hcap : n ≤ cap) (h8 : n * 8 ≤ 140737488355328) (hz : Ints w a n z) :
    Calls Try.prog 10 #[.slice a n cap, .int .i64 x, .int .i64 y] w fun e w' => SomeB true w e w' := by
  obtain ⟨t, ht, hs, h1n, hn6, h9⟩ := okS_nat hx
  have ht' : x = t := by omega
  subst ht'
  obtain ⟨t, ht2, hs2, _, _, _⟩ := okS_nat hy
  have ht' : y = t := by omega
  subst ht'
  have hmn : min n 8 = n := by omega
  obtain ⟨b, o, rfl, _⟩ := hz 0 (by omega)
  have hl := fun W (hW : Below w.heap.size w W) => list_any (some ⟨b, o, none⟩) cap n z W hcap h8 (hz.keep (Nat.le_refl _) hW)
  rw [hmn] at hl
  have HL := Lib.hid hl
  have hx64 := lt64 hs hn6
  have hy64 := lt64 hs2 hn6
  have hxy : x ||| y < 2 ^ n := Nat.or_lt_two_pow hs hs2
  have hok : ∀ s : Nat, s < 2 ^ n → okS n z (s : Int) = true := fun s hs => okS_iff.2 ⟨⟨h1n, hn6, h9⟩, Int.natCast_nonneg _, by
    have e : (2 : Int) ^ n = ((2 ^ n : Nat) : Int) := by simp
    rw [e]; omega⟩
  obtain ⟨L, D, hF, _, _⟩ := meanF_any (z := z) h1n hn6 h9
  generalize mX z D = M at hF
  have hL1 := hF.L1
  have hLM := hF.LM
  have hm1 := hF.rg x hs
  have hm2 := hF.rg y hs2
  have hm3 := hF.rg _ hxy
  have hmo1 := hF.mo (x ||| y) x hxy (or_sub x y).1
  have hmo2 := hF.mo (x ||| y) y hxy (or_sub x y).2
  have htw := hF.tw x y hs hs2
  have HM1 : Hid (∀ a1 c1 W, Ints W a1 n z → Calls Try.prog 18 #[.slice a1 n c1, .int .i64 x] W fun e w' => FrOut (M x) L W e w') := fun a1 c1 W hI => hF.mean a1 c1 x W hx (by omega) hI
  have HM2 : Hid (∀ a1 c1 W, Ints W a1 n z → Calls Try.prog 18 #[.slice a1 n c1, .int .i64 y] W fun e w' => FrOut (M y) L W e w') := fun a1 c1 W hI => hF.mean a1 c1 y W hy (by omega) hI
  have HM3 : Hid (∀ a1 c1 W, Ints W a1 n z → Calls Try.prog 18 #[.slice a1 n c1, .int .i64 ((x ||| y : Nat) : Int)] W fun e w' => FrOut (M (x ||| y)) L W e w') := fun a1 c1 W hI => hF.mean a1 c1 (x ||| y) W (hok _ hxy) (by omega) hI
  have HMj : Hid (∀ j : Nat, j < n → ∀ a1 c1 W, Ints W a1 n z → Calls Try.prog 18 #[.slice a1 n c1, .int .i64 ((2 ^ j : Nat) : Int)] W fun e w' => FrOut (M (2 ^ j)) L W e w') := fun j hj a1 c1 W hI => hF.mean a1 c1 (2 ^ j) W (hok _ (two_lt hj)) (by omega) hI
  have hrt : ∀ s, s < 2 ^ n → ∀ W, Calls Try.prog 44 #[.agg #[.int .i64 (frA (M s) L), .int .i64 (frB (M s) L : Nat)], .int .i64 ((400 : Nat) : Int)] W fun e w' => e = .returned (.bool true) ∧ Below W.heap.size W w' := fun s hs W => by
    have h := hF.rg s hs
    exact right_fr _ _ 400 W h.1 hL1 (by omega) (by omega) (by omega) (by omega)
  have HR1 := Lib.hid (hrt x hs)
  have HR2 := Lib.hid (hrt y hs2)
  have HR3 := Lib.hid (hrt _ hxy)
  have HRj := Lib.hid (fun j (hj : j < n) => hrt _ (two_lt hj))
  have hlt : ∀ X Y : Int, X ≤ Y → decide (Y * (L : Int) < X * L) = false := fun X Y h => by
    rw [decide_eq_false_iff_not]
    have := Int.mul_le_mul_of_nonneg_right h (show (0 : Int) ≤ L by omega)
    omega
  have HLe1 : Hid (∀ W, Calls Try.prog 45 #[.agg #[.int .i64 (frA (M (x ||| y)) L), .int .i64 (frB (M (x ||| y)) L : Nat)], .agg #[.int .i64 (frA (M x) L), .int .i64 (frB (M x) L : Nat)]] W fun e w' => e = .returned (.bool false) ∧ Below W.heap.size W w') := fun W => by
    have h := rless_fr (M (x ||| y)) (M x) L L W hm3.1 hm1.1 hL1 hL1 (by omega) (by omega) (by omega) (by omega)
    rw [hlt _ _ hmo1] at h; exact h
  have HLe2 : Hid (∀ W, Calls Try.prog 45 #[.agg #[.int .i64 (frA (M (x ||| y)) L), .int .i64 (frB (M (x ||| y)) L : Nat)], .agg #[.int .i64 (frA (M y) L), .int .i64 (frB (M y) L : Nat)]] W fun e w' => e = .returned (.bool false) ∧ Below W.heap.size W w') := fun W => by
    have h := rless_fr (M (x ||| y)) (M y) L L W hm3.1 hm2.1 hL1 hL1 (by omega) (by omega) (by omega) (by omega)
    rw [hlt _ _ hmo2] at h; exact h
  have HAd : Hid (∀ W, Calls Try.prog 46 #[.agg #[.int .i64 (frA (M (x ||| y)) L), .int .i64 (frB (M (x ||| y)) L : Nat)], .agg #[.int .i64 (frA (M x) L), .int .i64 (frB (M x) L : Nat)], .bool true] W fun e w' => AddOut (M (x ||| y) - M x) L W e w') := fun W =>
    added_less _ _ L W hL1 hLM (by omega) (by omega)
  have HLe3 : Hid (∀ W, Calls Try.prog 45 #[.agg #[.int .i64 (frA (M y) L), .int .i64 (frB (M y) L : Nat)], .agg #[.int .i64 (frA (M (x ||| y) - M x) L), .int .i64 (frB (M (x ||| y) - M x) L : Nat)]] W fun e w' => e = .returned (.bool false) ∧ Below W.heap.size W w') := fun W => by
    have h := rless_fr (M y) (M (x ||| y) - M x) L L W hm2.1 (by omega) hL1 hL1 (by omega) (by omega) (by omega) (by omega)
    rw [hlt _ _ (by omega)] at h; exact h
  have HRs1 := Lib.hid (fun W (hW : Below w.heap.size w W) => rset_r true (some ⟨b, o, none⟩) n cap z (x : Int) W hx (by omega) (hz.keep (Nat.le_refl _) hW))
  have HRs2 := Lib.hid (fun W (hW : Below w.heap.size w W) => rset_r true (some ⟨b, o, none⟩) n cap z (y : Int) W hy (by omega) (hz.keep (Nat.le_refl _) hW))
  have hf := full_lt hn6
  have hf0 : 2 ^ n - 1 ≠ 0 := by
    have : 2 ^ 1 ≤ 2 ^ n := Nat.pow_le_pow_right (by decide) h1n
    omega
  have hal := of_pos hf hn6 hf0 h9
  have HSum := Lib.hid (fun W (hW : Below w.heap.size w W) => rsum_any (some ⟨b, o, none⟩) n cap z (2 ^ n - 1) W hf hn6 (hz.keep (Nat.le_refl _) hW) h9)
  have HOr : Hid (bits .or .i64 (x : Int) (y : Int) = ((x ||| y : Nat) : Int)) := bor_nat x y (Nat.lt_of_lt_of_le hx64 (by decide)) (Nat.lt_of_lt_of_le hy64 (by decide))
  have HOn : Hid (∀ j : Nat, j < n → 0 ≤ frA (M (2 ^ j)) L ∧ frA (M (2 ^ j)) L ≤ 54 ∧ frB (M (2 ^ j)) L ≤ 9 ∧ frA (M (2 ^ j)) L * z j = ofS z (2 ^ n - 1) * (frB (M (2 ^ j)) L : Nat)) := fun j hj => by
    have h1 := hF.on j hj
    have h2 := h9 j hj
    obtain ⟨K, hK⟩ : ∃ K : Nat, z j = K := ⟨(z j).toNat, by omega⟩
    rw [hK] at h1 h2 ⊢
    have hfr := fr_same (a := M (2 ^ j)) (b := ofS z (2 ^ n - 1)) (L := L) (K := K) hL1 (by omega) h1
    rw [hfr.1, hfr.2]
    have g1 := frA_mul (ofS z (2 ^ n - 1)) K
    have g2 := frB_mul (ofS z (2 ^ n - 1)) K
    have g3 := frA_abs (ofS z (2 ^ n - 1)) (L := K) (by omega)
    have g4 := (frA_sign (a := ofS z (2 ^ n - 1)) (L := K) (by omega)).1.2 (by omega)
    have g5 := frB_le (ofS z (2 ^ n - 1)) K
    refine ⟨g4, by omega, by omega, ?_⟩
    generalize frA (ofS z (2 ^ n - 1)) K = p at *
    generalize frB (ofS z (2 ^ n - 1)) K = q at *
    generalize Nat.gcd (ofS z (2 ^ n - 1)).natAbs K = g at *
    rw [← g1, ← g2, Int.natCast_mul]
    grind
  have HZ := Lib.hid hz
  have H9 := Lib.hid h9
  obtain ⟨al, hae⟩ : ∃ al, al = ofS z (2 ^ n - 1) := ⟨_, rfl⟩
  rw [← hae] at HOn HSum hal
  clear hl hmn hF hm1 hm2 hm3 hmo1 hmo2 htw hrt hlt hok hx hy ht ht2 h9 hz hs hs2 hxy hf hf0 hae
  go_enter Try.func10, Try.ntmps10
  go_wp2_with fail
  refine (HRs1.out w (Below.refl _ _)).mono ?_
  rintro e w' ⟨rfl, rfl⟩
  go_wp2_with fail
  refine (HRs2.out w (Below.refl _ _)).mono ?_
  rintro e w' ⟨rfl, rfl⟩
  go_wp2_with fail
  refine (HL.out w (Below.refl _ _)).mono ?_
  rintro e w1 ⟨a1, c1, rfl, hO, hb⟩
  have HI1 := Lib.hid hO.ints
  clear hO
  have HBw1 := Lib.hid (band (Below.refl _ _) hb)
  clear hb
  go_wp2_with fail
  refine (HM1.out a1 c1 w1 HI1.out).mono ?_
  rintro e w2 ⟨rfl, hb⟩
  obtain ⟨A1, hA1⟩ : ∃ A1, A1 = frA (M x) L := ⟨_, rfl⟩
  obtain ⟨B1, hB1⟩ : ∃ B1, B1 = frB (M x) L := ⟨_, rfl⟩
  have HNA1 : Hid (frA (M x) L = A1 ∧ frB (M x) L = B1) := ⟨hA1.symm, hB1.symm⟩
  rw [← hA1, ← hB1]
  clear hA1 hB1
  have HBw2 := Lib.hid (band HBw1.out hb)
  clear hb
  obtain ⟨w3, hw3⟩ : ∃ w3, w3 = w2.alloc (.cells #[.int .i64 A1, .int .i64 (B1 : Int)] 24) := ⟨_, rfl⟩
  have HQ1 : Hid (w3.heap[w2.heap.size]? = some (.cells #[.int .i64 A1, .int .i64 (B1 : Int)] 24)) := by rw [hw3]; exact heap_alloc_new w2 _
  have HBw3 : Hid (Below w.heap.size w w3) := by rw [hw3]; exact HBw2.out.alloc (HBw2.out).size _
  have HWw3 := Lib.hid hw3
  clear hw3
  obtain ⟨qa2, qb2, _, _⟩ := fr_cells HQ1.out
  go_wp2_with fail
  rw [← HWw3.out]
  refine (HL.out w3 HBw3.out).mono ?_
  rintro e w4 ⟨a2, c2, rfl, hO, hb⟩
  have HI2 := Lib.hid hO.ints
  clear hO
  clear qa2 qb2
  have HBw4 := Lib.hid (band HBw3.out hb)
  have HQ3 := Lib.hid (frAt HQ1.out hb)
  clear hb
  obtain ⟨qa4, qb4, _, _⟩ := fr_cells HQ3.out
  go_wp2_with fail
  refine (HM2.out a2 c2 w4 HI2.out).mono ?_
  rintro e w5 ⟨rfl, hb⟩
  obtain ⟨A2, hA2⟩ : ∃ A2, A2 = frA (M y) L := ⟨_, rfl⟩
  obtain ⟨B2, hB2⟩ : ∃ B2, B2 = frB (M y) L := ⟨_, rfl⟩
  have HNA2 : Hid (frA (M y) L = A2 ∧ frB (M y) L = B2) := ⟨hA2.symm, hB2.symm⟩
  rw [← hA2, ← hB2]
  clear hA2 hB2
  clear qa4 qb4
  have HBw5 := Lib.hid (band HBw4.out hb)
  have HQ5 := Lib.hid (frAt HQ3.out hb)
  clear hb
  obtain ⟨qa6, qb6, _, _⟩ := fr_cells HQ5.out
  clear qa6 qb6
  obtain ⟨w6, hw6⟩ : ∃ w6, w6 = w5.alloc (.cells #[.int .i64 A2, .int .i64 (B2 : Int)] 24) := ⟨_, rfl⟩
  have HQ7 : Hid (w6.heap[w2.heap.size]? = some (.cells #[.int .i64 A1, .int .i64 (B1 : Int)] 24)) := by rw [hw6]; exact frAt HQ5.out (below_one w5 _)
  have HQ8 : Hid (w6.heap[w5.heap.size]? = some (.cells #[.int .i64 A2, .int .i64 (B2 : Int)] 24)) := by rw [hw6]; exact heap_alloc_new w5 _
  have HBw6 : Hid (Below w.heap.size w w6) := by rw [hw6]; exact HBw5.out.alloc (HBw5.out).size _
  have HWw6 := Lib.hid hw6
  clear hw6
  obtain ⟨qa9, qb9, _, _⟩ := fr_cells HQ7.out
  obtain ⟨qa10, qb10, _, _⟩ := fr_cells HQ8.out
  obtain ⟨qa11, qb11, _, _⟩ := fr_cells (frAt HQ5.out (below_one w5 (.cells #[.int .i64 A2, .int .i64 (B2 : Int)] 24)))
  go_wp2_with fail
  rw [← HWw6.out]
  refine (HL.out w6 HBw6.out).mono ?_
  rintro e w7 ⟨a3, c3, rfl, hO, hb⟩
  have HI3 := Lib.hid hO.ints
  clear hO
  clear qa9 qb9 qa10 qb10 qa11 qb11
  have HBw7 := Lib.hid (band HBw6.out hb)
  have HQ12 := Lib.hid (frAt HQ7.out hb)
  have HQ13 := Lib.hid (frAt HQ8.out hb)
  clear hb
  obtain ⟨qa14, qb14, _, _⟩ := fr_cells HQ12.out
  obtain ⟨qa15, qb15, _, _⟩ := fr_cells HQ13.out
  go_wp2_with fail
  rw [HOr.out]
  refine (HM3.out a3 c3 w7 HI3.out).mono ?_
  rintro e w8 ⟨rfl, hb⟩
  obtain ⟨A3, hA3⟩ : ∃ A3, A3 = frA (M (x ||| y)) L := ⟨_, rfl⟩
  obtain ⟨B3, hB3⟩ : ∃ B3, B3 = frB (M (x ||| y)) L := ⟨_, rfl⟩
  have HNA3 : Hid (frA (M (x ||| y)) L = A3 ∧ frB (M (x ||| y)) L = B3) := ⟨hA3.symm, hB3.symm⟩
  rw [← hA3, ← hB3]
  clear hA3 hB3
  clear qa14 qb14 qa15 qb15
  have HBw8 := Lib.hid (band HBw7.out hb)
  have HQ16 := Lib.hid (frAt HQ12.out hb)
  have HQ17 := Lib.hid (frAt HQ13.out hb)
  clear hb
  obtain ⟨qa18, qb18, _, _⟩ := fr_cells HQ16.out
  obtain ⟨qa19, qb19, _, _⟩ := fr_cells HQ17.out
  clear qa18 qb18 qa19 qb19
  obtain ⟨w9, hw9⟩ : ∃ w9, w9 = w8.alloc (.cells #[.int .i64 A3, .int .i64 (B3 : Int)] 24) := ⟨_, rfl⟩
  have HQ20 : Hid (w9.heap[w2.heap.size]? = some (.cells #[.int .i64 A1, .int .i64 (B1 : Int)] 24)) := by rw [hw9]; exact frAt HQ16.out (below_one w8 _)
  have HQ21 : Hid (w9.heap[w5.heap.size]? = some (.cells #[.int .i64 A2, .int .i64 (B2 : Int)] 24)) := by rw [hw9]; exact frAt HQ17.out (below_one w8 _)
  have HQ22 : Hid (w9.heap[w8.heap.size]? = some (.cells #[.int .i64 A3, .int .i64 (B3 : Int)] 24)) := by rw [hw9]; exact heap_alloc_new w8 _
  have HBw9 : Hid (Below w.heap.size w w9) := by rw [hw9]; exact HBw8.out.alloc (HBw8.out).size _
  have HWw9 := Lib.hid hw9
  clear hw9
  obtain ⟨qa23, qb23, _, _⟩ := fr_cells HQ20.out
  obtain ⟨qa24, qb24, _, _⟩ := fr_cells HQ21.out
  obtain ⟨qa25, qb25, _, _⟩ := fr_cells HQ22.out
  obtain ⟨qa26, qb26, _, _⟩ := fr_cells (frAt HQ16.out (below_one w8 (.cells #[.int .i64 A3, .int .i64 (B3 : Int)] 24)))
  obtain ⟨qa27, qb27, _, _⟩ := fr_cells (frAt HQ17.out (below_one w8 (.cells #[.int .i64 A3, .int .i64 (B3 : Int)] 24)))
  simp only [HNA1.out.1, HNA1.out.2] at HR1
  simp only [HNA2.out.1, HNA2.out.2] at HR2
  simp only [HNA3.out.1, HNA3.out.2] at HR3
  simp only [HNA1.out.1, HNA1.out.2, HNA3.out.1, HNA3.out.2] at HLe1
  simp only [HNA2.out.1, HNA2.out.2, HNA3.out.1, HNA3.out.2] at HLe2
  simp only [HNA1.out.1, HNA1.out.2, HNA3.out.1, HNA3.out.2] at HAd
  simp only [HNA2.out.1, HNA2.out.2] at HLe3
  go_wp2_with fail
  rw [← HWw9.out]
  refine (HR1.out w9).mono ?_
  rintro e w10 ⟨rfl, hb⟩
  clear qa23 qb23 qa24 qb24 qa25 qb25 qa26 qb26 qa27 qb27
  have HBw10 := Lib.hid (band HBw9.out hb)
  have HQ28 := Lib.hid (frAt HQ20.out hb)
  have HQ29 := Lib.hid (frAt HQ21.out hb)
  have HQ30 := Lib.hid (frAt HQ22.out hb)
  clear hb
  obtain ⟨qa31, qb31, _, _⟩ := fr_cells HQ28.out
  obtain ⟨qa32, qb32, _, _⟩ := fr_cells HQ29.out
  obtain ⟨qa33, qb33, _, _⟩ := fr_cells HQ30.out
  go_wp2_with fail
  refine (HR2.out w10).mono ?_
  rintro e w11 ⟨rfl, hb⟩
  clear qa31 qb31 qa32 qb32 qa33 qb33
  have HBw11 := Lib.hid (band HBw10.out hb)
  have HQ34 := Lib.hid (frAt HQ28.out hb)
  have HQ35 := Lib.hid (frAt HQ29.out hb)
  have HQ36 := Lib.hid (frAt HQ30.out hb)
  clear hb
  obtain ⟨qa37, qb37, _, _⟩ := fr_cells HQ34.out
  obtain ⟨qa38, qb38, _, _⟩ := fr_cells HQ35.out
  obtain ⟨qa39, qb39, _, _⟩ := fr_cells HQ36.out
  go_wp2_with fail
  refine (HR3.out w11).mono ?_
  rintro e w12 ⟨rfl, hb⟩
  clear qa37 qb37 qa38 qb38 qa39 qb39
  have HBw12 := Lib.hid (band HBw11.out hb)
  have HQ40 := Lib.hid (frAt HQ34.out hb)
  have HQ41 := Lib.hid (frAt HQ35.out hb)
  have HQ42 := Lib.hid (frAt HQ36.out hb)
  clear hb
  obtain ⟨qa43, qb43, _, _⟩ := fr_cells HQ40.out
  obtain ⟨qa44, qb44, _, _⟩ := fr_cells HQ41.out
  obtain ⟨qa45, qb45, _, _⟩ := fr_cells HQ42.out
  go_wp2_with fail
  refine (HLe1.out w12).mono ?_
  rintro e w13 ⟨rfl, hb⟩
  clear qa43 qb43 qa44 qb44 qa45 qb45
  have HBw13 := Lib.hid (band HBw12.out hb)
  have HQ46 := Lib.hid (frAt HQ40.out hb)
  have HQ47 := Lib.hid (frAt HQ41.out hb)
  have HQ48 := Lib.hid (frAt HQ42.out hb)
  clear hb
  obtain ⟨qa49, qb49, _, _⟩ := fr_cells HQ46.out
  obtain ⟨qa50, qb50, _, _⟩ := fr_cells HQ47.out
  obtain ⟨qa51, qb51, _, _⟩ := fr_cells HQ48.out
  go_wp2_with fail
  refine (HLe2.out w13).mono ?_
  rintro e w14 ⟨rfl, hb⟩
  clear qa49 qb49 qa50 qb50 qa51 qb51
  have HBw14 := Lib.hid (band HBw13.out hb)
  have HQ52 := Lib.hid (frAt HQ46.out hb)
  have HQ53 := Lib.hid (frAt HQ47.out hb)
  have HQ54 := Lib.hid (frAt HQ48.out hb)
  clear hb
  obtain ⟨qa55, qb55, _, _⟩ := fr_cells HQ52.out
  obtain ⟨qa56, qb56, _, _⟩ := fr_cells HQ53.out
  obtain ⟨qa57, qb57, _, _⟩ := fr_cells HQ54.out
  go_wp2_with fail
  refine (HAd.out w14).mono ?_
  rintro e w15 ⟨rfl, hb⟩
  obtain ⟨A4, hA4⟩ : ∃ A4, A4 = frA (M (x ||| y) - M x) L := ⟨_, rfl⟩
  obtain ⟨B4, hB4⟩ : ∃ B4, B4 = frB (M (x ||| y) - M x) L := ⟨_, rfl⟩
  have HNA4 : Hid (frA (M (x ||| y) - M x) L = A4 ∧ frB (M (x ||| y) - M x) L = B4) := ⟨hA4.symm, hB4.symm⟩
  rw [← hA4, ← hB4]
  clear hA4 hB4
  clear qa55 qb55 qa56 qb56 qa57 qb57
  have HBw15 := Lib.hid (band HBw14.out hb)
  have HQ58 := Lib.hid (frAt HQ52.out hb)
  have HQ59 := Lib.hid (frAt HQ53.out hb)
  have HQ60 := Lib.hid (frAt HQ54.out hb)
  clear hb
  obtain ⟨qa61, qb61, _, _⟩ := fr_cells HQ58.out
  obtain ⟨qa62, qb62, _, _⟩ := fr_cells HQ59.out
  obtain ⟨qa63, qb63, _, _⟩ := fr_cells HQ60.out
  simp only [HNA4.out.1, HNA4.out.2] at HLe3
  clear qa61 qb61 qa62 qb62 qa63 qb63
  obtain ⟨w16, hw16⟩ : ∃ w16, w16 = w15.alloc (.cells #[.int .i64 A4, .int .i64 (B4 : Int)] 24) := ⟨_, rfl⟩
  have HQ64 : Hid (w16.heap[w2.heap.size]? = some (.cells #[.int .i64 A1, .int .i64 (B1 : Int)] 24)) := by rw [hw16]; exact frAt HQ58.out (below_one w15 _)
  have HQ65 : Hid (w16.heap[w5.heap.size]? = some (.cells #[.int .i64 A2, .int .i64 (B2 : Int)] 24)) := by rw [hw16]; exact frAt HQ59.out (below_one w15 _)
  have HQ66 : Hid (w16.heap[w8.heap.size]? = some (.cells #[.int .i64 A3, .int .i64 (B3 : Int)] 24)) := by rw [hw16]; exact frAt HQ60.out (below_one w15 _)
  have HQ67 : Hid (w16.heap[w15.heap.size]? = some (.cells #[.int .i64 A4, .int .i64 (B4 : Int)] 24)) := by rw [hw16]; exact heap_alloc_new w15 _
  have HBw16 : Hid (Below w.heap.size w w16) := by rw [hw16]; exact HBw15.out.alloc (HBw15.out).size _
  have HWw16 := Lib.hid hw16
  clear hw16
  obtain ⟨qa68, qb68, _, _⟩ := fr_cells HQ64.out
  obtain ⟨qa69, qb69, _, _⟩ := fr_cells HQ65.out
  obtain ⟨qa70, qb70, _, _⟩ := fr_cells HQ66.out
  obtain ⟨qa71, qb71, _, _⟩ := fr_cells HQ67.out
  obtain ⟨qa72, qb72, _, _⟩ := fr_cells (frAt HQ58.out (below_one w15 (.cells #[.int .i64 A4, .int .i64 (B4 : Int)] 24)))
  obtain ⟨qa73, qb73, _, _⟩ := fr_cells (frAt HQ59.out (below_one w15 (.cells #[.int .i64 A4, .int .i64 (B4 : Int)] 24)))
  obtain ⟨qa74, qb74, _, _⟩ := fr_cells (frAt HQ60.out (below_one w15 (.cells #[.int .i64 A4, .int .i64 (B4 : Int)] 24)))
  by_cases hp : 0 < A4
  · go_wp2_with fail
    rw [← HWw16.out]
    refine (HLe3.out w16).mono ?_
    rintro e w17 ⟨rfl, hb⟩
    clear qa68 qb68 qa69 qb69 qa70 qb70 qa71 qb71 qa72 qb72 qa73 qb73 qa74 qb74
    have HBw17 := Lib.hid (band HBw16.out hb)
    have HQ75 := Lib.hid (frAt HQ64.out hb)
    have HQ76 := Lib.hid (frAt HQ65.out hb)
    have HQ77 := Lib.hid (frAt HQ66.out hb)
    have HQ78 := Lib.hid (frAt HQ67.out hb)
    clear hb
    obtain ⟨qa79, qb79, _, _⟩ := fr_cells HQ75.out
    obtain ⟨qa80, qb80, _, _⟩ := fr_cells HQ76.out
    obtain ⟨qa81, qb81, _, _⟩ := fr_cells HQ77.out
    obtain ⟨qa82, qb82, _, _⟩ := fr_cells HQ78.out
    go_wp2_with fail
    rw [wrap_full6 hn6]
    refine (HSum.out w17 HBw17.out).mono ?_
    rintro e w' ⟨rfl, rfl⟩
    clear qa79 qb79 qa80 qb80 qa81 qb81 qa82 qb82
    go_wp2
    go_loopw [20, 21, 22, 23, 141] (fun _ _ _ _ i wr => ∃ j : Nat, j ≤ n ∧ i = .int .i64 j ∧ Below w.heap.size w wr) (fun _ _ _ _ i _ => n - (intOf i).toNat)
    case atStart => exact ⟨0, Nat.zero_le _, rfl, HBw17.out⟩
    case round =>
      obtain ⟨j, hj, rfl, hbl⟩ := hrel
      have HB := Lib.hid hbl
      clear hbl
      by_cases hlt : j < n
      · have hj0 : (0 : Int) ≤ (j : Int) := by omega
        have hltI : (j : Int) < (n : Int) := by omega
        have HP : Hid (IntKind.i64.wrap ((2 : Int) ^ j) = ((2 ^ j : Nat) : Int)) := wrap_two' (by omega)
        obtain ⟨b', o', he, hcx⟩ := (HZ.out.keep (Nat.le_refl _) HB.out) j hlt
        cases he
        have HDj := Lib.hid (HMj.out j hlt)
        have HRj := Lib.hid (HRj.out j hlt)
        have ho := HOn.out j hlt
        have hz9 := H9.out j hlt
        obtain ⟨C, hC⟩ : ∃ C, C = frA (M (2 ^ j)) L := ⟨_, rfl⟩
        obtain ⟨D, hD⟩ : ∃ D, D = frB (M (2 ^ j)) L := ⟨_, rfl⟩
        have HN : Hid (frA (M (2 ^ j)) L = C ∧ frB (M (2 ^ j)) L = D) := ⟨hC.symm, hD.symm⟩
        rw [← hC, ← hD] at HRj ho
        clear hC hD
        generalize z j = Z at *
        have hp1 : C * Z ≤ 54 * Z := Int.mul_le_mul_of_nonneg_right ho.2.1 (by omega)
        have hp0 : 0 ≤ C * Z := Int.mul_nonneg ho.1 (by omega)
        have hw1 : wrap64 (C * Z) = C * Z := IntWalk.wrap64_in _ ⟨by omega, by omega⟩
        have hw2 : wrap64 (al * (D : Int)) = C * Z := by rw [← ho.2.2.2]; exact hw1
        have HWR := Lib.hid (And.intro hw1 hw2)
        clear hp1 hp0 hw1 hw2 ho hz9
        have HL1 := Lib.hid (HL.out wr.drew HB.out.drew)
        have HL2 := Lib.hid (HL.out (wr.alloc (.cells #[.int .i64 0, .int .i64 0] 24)).drew (HB.out.alloc HB.out.size _).drew)
        go_wp2
        go_cut [22, 23] (fun s9 s10 wc => ∃ b9, s9 = .pointer (some ⟨b9, 0, none⟩) ∧ s10 = .int .i64 0 ∧ NewFr wr wc b9 C D)
        case first =>
          go_region_with (first
            | (go_at_call 19; (first | (refine HL1.out.mono ?_; rintro e w5 ⟨a5, c5, rfl, hO, hb5⟩; have HB5 : Hid (Below wr.heap.size wr w5) := below_drew1 hb5) | (refine HL2.out.mono ?_; rintro e w5 ⟨a5, c5, rfl, hO, hb5⟩; have HB5 : Hid (Below wr.heap.size wr w5) := below_al1 hb5; have HX5 := Lib.hid (blk_al1 hb5))); have HI5 := Lib.hid hO.ints; clear hO hb5)
            | (go_at_call 18; rw [HP.out]; (first | (refine (HDj.out a5 c5 w5 HI5.out).mono ?_; rintro e w6 ⟨rfl, hb6⟩; have HB6 : Hid (Below wr.heap.size wr w6) := HB5.out.trans (hb6.mono HB5.out.size); (first | have HX6 := Lib.hid (frAt HX5.out hb6) | skip)) | (refine (HDj.out a5 c5 (w5.alloc (.cells #[.int .i64 0, .int .i64 0] 24)) (HI5.out.keep (Nat.le_refl _) (below_one _ _))).mono ?_; rintro e w6 ⟨rfl, hb6⟩; have HB6 : Hid (Below wr.heap.size wr w6) := (HB5.out.alloc HB5.out.size _).trans (hb6.mono (by have := HB5.out.size; simp; omega)); have HX6' := Lib.hid (frAt (heap_alloc_new w5 (.cells #[.int .i64 0, .int .i64 0] 24)) hb6))); rw [HN.out.1, HN.out.2]; clear hb6; (first | (have hx := fr_cells HX6.out; obtain ⟨x1, x2, x3, x4⟩ := hx) | (have hx := fr_cells HX6'.out; obtain ⟨x1, x2, x3, x4⟩ := hx) | skip)))
          all_goals
            go_wp2
            go_meet
          all_goals (first
            | exact ⟨_, rfl, rfl, newFr_last HB6.out⟩
            | exact ⟨_, rfl, rfl, newFr_set (cs := (_, _)) HX6.out (Nat.le_refl _) HB6.out⟩
            | exact ⟨_, rfl, rfl, newFr_set (cs := (_, _)) HX6'.out HB5.out.size HB6.out⟩)
        case rest =>
          obtain ⟨b9, rfl, rfl, hNew⟩ := hcut
          obtain ⟨h9, lo9, hb9⟩ := hNew
          have HQ9 := Lib.hid h9
          have HB9 := Lib.hid hb9
          obtain ⟨x1, x2, _, _⟩ := fr_cells h9
          clear h9 hb9 HL1 HL2
          go_wp2_with fail
          refine (HRj.out wc).mono ?_
          rintro e w5 ⟨rfl, hb5⟩
          obtain ⟨z1, z2, _, _⟩ := fr_cells (frAt HQ9.out hb5)
          have HB5 : Hid (Below w.heap.size w w5) := (band HB.out (band HB9.out hb5))
          obtain ⟨hw1, hw2⟩ := HWR.out
          clear hb5 x1 x2
          go_wp2
          go_roundw
          case rel => exact ⟨j + 1, by omega, by go_num, HB5.out⟩
          case measure => simp [intOf]; omega
      · have hge : (n : Int) ≤ j := by omega
        go_wp2_with fail
        refine (awake_any _).mono ?_
        rintro e w6 ⟨rfl, hb6⟩
        have HB6 := Lib.hid (band HB.out hb6)
        clear hb6
        go_wp2
        go_ret
        exact ⟨rfl, HB6.out⟩
  · have hp' := decide_eq_false hp
    have hp2 : A4 ≤ 0 := by omega
    go_wp2_with fail
    rw [← HWw16.out]
    rw [wrap_full6 hn6]
    refine (HSum.out w16 HBw16.out).mono ?_
    rintro e w' ⟨rfl, rfl⟩
    clear qa68 qb68 qa69 qb69 qa70 qb70 qa71 qb71 qa72 qb72 qa73 qb73 qa74 qb74
    go_wp2
    go_loopw [20, 21, 22, 23, 141] (fun _ _ _ _ i wr => ∃ j : Nat, j ≤ n ∧ i = .int .i64 j ∧ Below w.heap.size w wr) (fun _ _ _ _ i _ => n - (intOf i).toNat)
    case atStart => exact ⟨0, Nat.zero_le _, rfl, HBw16.out⟩
    case round =>
      obtain ⟨j, hj, rfl, hbl⟩ := hrel
      have HB := Lib.hid hbl
      clear hbl
      by_cases hlt : j < n
      · have hj0 : (0 : Int) ≤ (j : Int) := by omega
        have hltI : (j : Int) < (n : Int) := by omega
        have HP : Hid (IntKind.i64.wrap ((2 : Int) ^ j) = ((2 ^ j : Nat) : Int)) := wrap_two' (by omega)
        obtain ⟨b', o', he, hcx⟩ := (HZ.out.keep (Nat.le_refl _) HB.out) j hlt
        cases he
        have HDj := Lib.hid (HMj.out j hlt)
        have HRj := Lib.hid (HRj.out j hlt)
        have ho := HOn.out j hlt
        have hz9 := H9.out j hlt
        obtain ⟨C, hC⟩ : ∃ C, C = frA (M (2 ^ j)) L := ⟨_, rfl⟩
        obtain ⟨D, hD⟩ : ∃ D, D = frB (M (2 ^ j)) L := ⟨_, rfl⟩
        have HN : Hid (frA (M (2 ^ j)) L = C ∧ frB (M (2 ^ j)) L = D) := ⟨hC.symm, hD.symm⟩
        rw [← hC, ← hD] at HRj ho
        clear hC hD
        generalize z j = Z at *
        have hp1 : C * Z ≤ 54 * Z := Int.mul_le_mul_of_nonneg_right ho.2.1 (by omega)
        have hp0 : 0 ≤ C * Z := Int.mul_nonneg ho.1 (by omega)
        have hw1 : wrap64 (C * Z) = C * Z := IntWalk.wrap64_in _ ⟨by omega, by omega⟩
        have hw2 : wrap64 (al * (D : Int)) = C * Z := by rw [← ho.2.2.2]; exact hw1
        have HWR := Lib.hid (And.intro hw1 hw2)
        clear hp1 hp0 hw1 hw2 ho hz9
        have HL1 := Lib.hid (HL.out wr.drew HB.out.drew)
        have HL2 := Lib.hid (HL.out (wr.alloc (.cells #[.int .i64 0, .int .i64 0] 24)).drew (HB.out.alloc HB.out.size _).drew)
        go_wp2
        go_cut [22, 23] (fun s9 s10 wc => ∃ b9, s9 = .pointer (some ⟨b9, 0, none⟩) ∧ s10 = .int .i64 0 ∧ NewFr wr wc b9 C D)
        case first =>
          go_region_with (first
            | (go_at_call 19; (first | (refine HL1.out.mono ?_; rintro e w5 ⟨a5, c5, rfl, hO, hb5⟩; have HB5 : Hid (Below wr.heap.size wr w5) := below_drew1 hb5) | (refine HL2.out.mono ?_; rintro e w5 ⟨a5, c5, rfl, hO, hb5⟩; have HB5 : Hid (Below wr.heap.size wr w5) := below_al1 hb5; have HX5 := Lib.hid (blk_al1 hb5))); have HI5 := Lib.hid hO.ints; clear hO hb5)
            | (go_at_call 18; rw [HP.out]; (first | (refine (HDj.out a5 c5 w5 HI5.out).mono ?_; rintro e w6 ⟨rfl, hb6⟩; have HB6 : Hid (Below wr.heap.size wr w6) := HB5.out.trans (hb6.mono HB5.out.size); (first | have HX6 := Lib.hid (frAt HX5.out hb6) | skip)) | (refine (HDj.out a5 c5 (w5.alloc (.cells #[.int .i64 0, .int .i64 0] 24)) (HI5.out.keep (Nat.le_refl _) (below_one _ _))).mono ?_; rintro e w6 ⟨rfl, hb6⟩; have HB6 : Hid (Below wr.heap.size wr w6) := (HB5.out.alloc HB5.out.size _).trans (hb6.mono (by have := HB5.out.size; simp; omega)); have HX6' := Lib.hid (frAt (heap_alloc_new w5 (.cells #[.int .i64 0, .int .i64 0] 24)) hb6))); rw [HN.out.1, HN.out.2]; clear hb6; (first | (have hx := fr_cells HX6.out; obtain ⟨x1, x2, x3, x4⟩ := hx) | (have hx := fr_cells HX6'.out; obtain ⟨x1, x2, x3, x4⟩ := hx) | skip)))
          all_goals
            go_wp2
            go_meet
          all_goals (first
            | exact ⟨_, rfl, rfl, newFr_last HB6.out⟩
            | exact ⟨_, rfl, rfl, newFr_set (cs := (_, _)) HX6.out (Nat.le_refl _) HB6.out⟩
            | exact ⟨_, rfl, rfl, newFr_set (cs := (_, _)) HX6'.out HB5.out.size HB6.out⟩)
        case rest =>
          obtain ⟨b9, rfl, rfl, hNew⟩ := hcut
          obtain ⟨h9, lo9, hb9⟩ := hNew
          have HQ9 := Lib.hid h9
          have HB9 := Lib.hid hb9
          obtain ⟨x1, x2, _, _⟩ := fr_cells h9
          clear h9 hb9 HL1 HL2
          go_wp2_with fail
          refine (HRj.out wc).mono ?_
          rintro e w5 ⟨rfl, hb5⟩
          obtain ⟨z1, z2, _, _⟩ := fr_cells (frAt HQ9.out hb5)
          have HB5 : Hid (Below w.heap.size w w5) := (band HB.out (band HB9.out hb5))
          obtain ⟨hw1, hw2⟩ := HWR.out
          clear hb5 x1 x2
          go_wp2
          go_roundw
          case rel => exact ⟨j + 1, by omega, by go_num, HB5.out⟩
          case measure => simp [intOf]; omega
      · have hge : (n : Int) ≤ j := by omega
        go_wp2_with fail
        refine (awake_any _).mono ?_
        rintro e w6 ⟨rfl, hb6⟩
        have HB6 := Lib.hid (band HB.out hb6)
        clear hb6
        go_wp2
        go_ret
        exact ⟨rfl, HB6.out⟩

theorem one_row (w : World) (a : Option Addr) (n cap : Nat) (z : Nat → Int) (hcap : n ≤ cap) (h8 : n * 8 ≤ 140737488355328) (hz : Ints w a n z) (x : Int) (_ : -9223372036854775808 ≤ x ∧ x ≤ 9223372036854775807) (y : Int) (_ : -9223372036854775808 ≤ y ∧ y ≤ 9223372036854775807) :
    Calls Try.prog 10 #[.slice a n cap, .int .i64 x, .int .i64 y] w fun e w' => SomeB true w e w' := by
  cases h : (okS n z x && okS n z y)
  · exact one_bad a n cap z x y w h hcap h8 hz
  · rw [Bool.and_eq_true] at h
    obtain ⟨t, ht, _⟩ := okS_nat h.1
    obtain ⟨u, hu, _⟩ := okS_nat h.2
    subst ht hu
    exact one_good a n cap z t u w h.1 h.2 hcap h8 hz
end Go.Proofs.Ytlmjddlpenmpkaa
