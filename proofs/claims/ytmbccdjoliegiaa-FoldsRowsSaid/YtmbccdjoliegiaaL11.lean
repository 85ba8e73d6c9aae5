import Derived.Test.YtmbccdjoliegiaaMath11
import Derived.Test.YtmbccdjoliegiaaL9
namespace Go.Proofs.Ytmbccdjoliegiaa
open Go.RowKit

theorem filter_step' {L : List Nat} {k : Nat} {p : Nat} (h : L[k]? = some p) (f : Nat → Bool) :
    (f p = true → (L.take (k + 1)).filter f = (L.take k).filter f ++ [p]) ∧ (f p = false → (L.take (k + 1)).filter f = (L.take k).filter f) := by
  rw [List.take_add_one, h]
  constructor <;> intro hf <;> simp [List.filter_append, hf]
theorem listOf_nodup {k : Nat} {z : Nat → Int} (h : goodP k z k) : (listOf k z).Nodup := by
  rw [List.Nodup, List.pairwise_iff_getElem]
  intro i j hi hj hij
  rw [listOf_len] at hi hj
  simp only [listOf, List.getElem_map, List.getElem_range]
  have a := h j hj
  have b := h i hi
  have := a.2.2.2 i hij
  omega
theorem listOf_iff {k : Nat} {z : Nat → Int} (h : goodP k z k) (x : Nat) : x ∈ listOf k z ↔ x < k := by
  unfold listOf
  rw [List.mem_map]
  constructor
  · rintro ⟨j, hj, rfl⟩
    have := h j (List.mem_range.1 hj)
    omega
  · intro hx
    obtain ⟨j, hj, e⟩ := good_all h x hx
    exact ⟨j, List.mem_range.2 hj, by rw [e]; simp⟩

theorem rowC_yes {n c j y : Nat} {L : List Nat} (h : L[j]? = some y) (hc : y / n = c) : rowC n c (L.take (j + 1)) = rowC n c (L.take j) ++ [y % n] := by
  unfold rowC
  rw [(filter_step' h (fun x => x / n == c)).1 (by simpa using hc)]; simp
theorem rowC_no {n c j y : Nat} {L : List Nat} (h : L[j]? = some y) (hc : y / n ≠ c) : rowC n c (L.take (j + 1)) = rowC n c (L.take j) := by
  unfold rowC
  rw [(filter_step' h (fun x => x / n == c)).2 (by simpa using hc)]
theorem lessC_yes {n j y : Nat} {L : List Nat} (h : L[j]? = some y) (hc : y % n < n - 1) : lessC n (L.take (j + 1)) = lessC n (L.take j) ++ [y / n * (n - 1) + y % n] := by
  unfold lessC
  rw [(filter_step' h (fun x => decide (x % n < n - 1))).1 (by simpa using hc)]; simp
theorem lessC_no {n j y : Nat} {L : List Nat} (h : L[j]? = some y) (hc : ¬ y % n < n - 1) : lessC n (L.take (j + 1)) = lessC n (L.take j) := by
  unfold lessC
  rw [(filter_step' h (fun x => decide (x % n < n - 1))).2 (by simpa using hc)]
theorem rowC_len (n c : Nat) (L : List Nat) : (rowC n c L).length ≤ L.length := by unfold rowC; rw [List.length_map]; exact List.length_filter_le _ _
theorem lessC_len (n : Nat) (L : List Nat) : (lessC n L).length ≤ L.length := by unfold lessC; rw [List.length_map]; exact List.length_filter_le _ _

set_option maxHeartbeats 16000000 in
set_option maxRecDepth 100000 in
theorem rows_tail (W : World) (n k : Nat) (a : Option Addr) (cap : Nat) (z : Nat → Int) (hk : k ≤ cap) (h8 : k * 8 ≤ 140737488355328) (hI : Ints W a k z) (h1 : 1 ≤ n) (h4 : n ≤ 4) (hp : pileB k z (2 * (n : Int)) = true) (hkn : k = 2 * n) (hpr : pileR k z 8 = true) (hpo : posB k z (mapN n) = true) :
    Calls Try.prog 14 #[.int .i64 n, .slice a k cap] W fun e W' => e = .returned (.bool true) ∧ Below W.heap.size W W' := by
  have HI := Lib.hid hI
  have HL := Lib.hid (list_any a cap k z W hk h8 hI)
  have HPB := Lib.hid hp
  have HPR := Lib.hid hpr
  have G2 : ((k : Int) != 2 * (n : Int)) = false := by simp; omega
  have hk8 : k ≤ 8 := by omega
  have HKN := Lib.hid hkn
  have hpr' := hpr
  have hkn' := hkn
  clear hI hp hpr hkn
  have HY : Hid (∀ j, j < k → ∃ y : Nat, y < 2 * n ∧ z j = (y : Int) ∧ (listOf k z)[j]? = some y) := fun j hj => by
    have hg := (pileR_iff.1 hpr').1 j hj
    exact ⟨(z j).toNat, by omega, by omega, by simp [listOf, hj]⟩
  have hgP := (pileR_iff.1 hpr').1
  have hdL : (listOf k z).Nodup := listOf_nodup hgP
  have hmL : ∀ x, x ∈ listOf k z ↔ x < 2 * n := fun x => by rw [← hkn']; exact listOf_iff hgP x
  have hpL : posB (listOf k z).length (zl (listOf k z)) (mapN n) = true := by rw [listOf_len, posB_congr (zl_listOf hgP)]; exact hpo
  have HF0 := Lib.hid (rowC_facts h1 h4 hdL hmL hpL 0 (by omega))
  have HF1 := Lib.hid (rowC_facts h1 h4 hdL hmL hpL 1 (by omega))
  have HF2 : Hid (2 ≤ n → (lessC n (listOf k z)).length = 2 * (n - 1) ∧ pileB (2 * (n - 1)) (zl (lessC n (listOf k z))) (2 * ((n - 1 : Nat) : Int)) = true ∧ posB (2 * (n - 1)) (zl (lessC n (listOf k z))) (mapN (n - 1)) = true) := fun h2 => lessC_facts h2 h4 hdL hmL hpL
  clear hgP hdL hmL hpL
  obtain ⟨i0, hi, hz0, hz1, hz2⟩ := info_parts Try.info3
  clear hpr' hkn'
  go_enter Try.func14, Try.ntmps14
  go_wp2_with fail
  refine HL.out.mono ?_
  rintro e w1 ⟨a1, c1, rfl, hO1, hb1⟩
  have hq := map_good n a1 c1 k z w1 h1 h4 HPB.out (by have := hO1.ints; rw [show min k 11 = k by omega] at this; exact this)
  rw [hpo] at hq
  have HQ := Lib.hid hq
  have HB1 := Lib.hid hb1
  rw [show min k 11 = k by omega]
  clear hb1 hO1 HL hq hpo
  go_wp2_with fail
  refine HQ.out.mono ?_
  rintro e w2 ⟨rfl, hb2⟩
  have HB2 : Hid (Below W.heap.size W w2) := HB1.out.trans (hb2.mono HB1.out.size)
  clear HQ HB1 hb2
  go_wp2_with fail
  refine (rpile_r true a cap k z 8 _ HPR.out (by omega) (HI.out.keep (Nat.le_refl _) HB2.out)).mono ?_
  rintro e w5 ⟨rfl, rfl⟩
  have q01 : ¬ (n : Int) < 1 := by omega
  have q02 : ¬ 4 < (n : Int) := by omega
  go_wp2
  obtain ⟨w3, hw3⟩ : ∃ w3, w3 = w2.alloc (.cells #[.slice none 0 0, .slice none 0 0] 59) := ⟨_, rfl⟩
  have hs3 : w3.heap.size = w2.heap.size + 1 := by rw [hw3]; simp
  have HB3 : Hid (Below w2.heap.size w2 w3) := by rw [hw3]; exact (Below.refl _ _).alloc (Nat.le_refl _) _
  have HS3 : Hid (Rows3 w3 (w2.heap.size + 1) w2.heap.size [] [] [] (.slice none 0 0) (.slice none 0 0) (.slice none 0 0)) := by
    have := Rows3.start (w := w3) (q := w2.heap.size) (by rw [hw3]; exact heap_alloc_new w2 _) (by omega)
    rw [hs3] at this; exact this
  go_loopw [8, 55] (fun v i wr => ∃ j : Nat, j ≤ k ∧ i = .int .i64 j ∧ (∃ v0 v1, Rows3 wr (w2.heap.size + 1) w2.heap.size (rowC n 0 ((listOf k z).take j)) (rowC n 1 ((listOf k z).take j)) (lessC n ((listOf k z).take j)) v0 v1 v) ∧ Below w2.heap.size w2 wr) (fun _ i _ => k - (intOf i).toNat)
  case atStart => rw [← hw3]; exact ⟨0, Nat.zero_le _, rfl, ⟨_, _, HS3.out⟩, HB3.out⟩
  case round =>
    obtain ⟨j, hj, rfl, ⟨v0, v1, hR⟩, hb⟩ := hrel
    by_cases hlt : j < k
    · obtain ⟨b, o, rfl, hcj⟩ := (HI.out.keep (Nat.le_refl _) (HB2.out.trans (hb.mono HB2.out.size))) j hlt
      obtain ⟨y, hy1, hy2, hLj⟩ : ∃ y : Nat, y < 2 * n ∧ z j = (y : Int) ∧ (listOf k z)[j]? = some y := HY.out j hlt
      rw [hy2] at hcj
      have hblk := hR.blk
      have c0 := block_cell hblk 0
      have c1 := block_cell hblk 1
      have f0 := block_free hblk 0
      have f1 := block_free hblk 1
      simp at c0 c1
      have HBq := Lib.hid hb
      have hn0 : ¬ n = 0 := by omega
      have hlj : ((listOf k z).take j).length ≤ 8 := by rw [List.length_take]; omega
      have hl0 : (rowC n 0 ((listOf k z).take j)).length ≤ 100 := Nat.le_trans (rowC_len _ _ _) (by omega)
      have hl1 : (rowC n 1 ((listOf k z).take j)).length ≤ 100 := Nat.le_trans (rowC_len _ _ _) (by omega)
      have hl2 : (lessC n ((listOf k z).take j)).length ≤ 100 := Nat.le_trans (lessC_len _ _) (by omega)
      have hc01 : y / n = 0 ∨ y / n = 1 := by
        have h2 : y / n < 2 := Nat.div_lt_of_lt_mul (by omega)
        have h3 : ∀ q : Nat, q < 2 → q = 0 ∨ q = 1 := fun q hq => by omega
        exact h3 _ h2
      clear hb hlj hy2
      rcases hc01 with hc | hc
      · have hyn : y / n = 0 := hc
        obtain ⟨i, hi0⟩ : ∃ i, i = y % n := ⟨_, rfl⟩
        have hin : i < n := by rw [hi0]; exact Nat.mod_lt _ (by omega)
        have hyi : y = 0 * n + i := by have := Nat.div_add_mod y n; rw [hyn, ← hi0, Nat.mul_comm] at this; omega
        have e1 : (y : Int).tdiv n = 0 := by rw [Int.tdiv_eq_ediv_of_nonneg (by omega), ← Int.natCast_ediv, hyn]; rfl
        have e2 : (y : Int).tmod n = i := by rw [Int.tmod_eq_emod_of_nonneg (by omega), ← Int.natCast_emod, ← hi0]
        have hw0 : IntKind.i64.wrap 0 = 0 := IntWalk.i64_in _ (by omega)
        have hwi : IntKind.i64.wrap (i : Int) = i := IntWalk.i64_in _ (by omega)
        have HE0 : Hid (rowC n 0 ((listOf k z).take (j + 1)) = rowC n 0 ((listOf k z).take j) ++ [i]) := by rw [Hid, rowC_yes hLj hyn, hi0]
        have HE1 : Hid (rowC n 1 ((listOf k z).take (j + 1)) = rowC n 1 ((listOf k z).take j)) := rowC_no hLj (by omega)
        by_cases hlast : i < n - 1
        · obtain ⟨m, hm⟩ : ∃ m : Nat, m = y / n * (n - 1) + y % n := ⟨_, rfl⟩
          have HE2 : Hid (lessC n ((listOf k z).take (j + 1)) = lessC n ((listOf k z).take j) ++ [m]) := by rw [Hid, lessC_yes hLj (by rw [← hi0]; exact hlast), hm]
          rw [hyn, ← hi0] at hm
          have hw1 : IntKind.i64.wrap ((n : Int) - 1) = (n : Int) - 1 := IntWalk.i64_in _ (by omega)
          have hm2 : m = i := by omega
          subst hm2
          clear hm
          have hlt2 : (m : Int) < (n : Int) - 1 := by omega
          generalize rowC n 0 ((listOf k z).take j) = L0 at *
          generalize rowC n 1 ((listOf k z).take j) = L1 at *
          generalize lessC n ((listOf k z).take j) = L2 at *
          have HRW : Hid (Rows3 (wr.drew.alloc (.cells #[.int .i64 (m : Int)] 3)) (w2.heap.size + 1) w2.heap.size L0 L1 L2 v0 v1 u8) := hR.keep ((Below.refl _ _).drew.alloc (Nat.le_refl _) _)
          have HRb : Hid (Rows3 (wr.alloc (.cells #[.int .i64 (m : Int)] 3)).drew (w2.heap.size + 1) w2.heap.size L0 L1 L2 v0 v1 u8) := hR.keep (((Below.refl _ _).alloc (Nat.le_refl _) _).drew)
          have hsz := hR.size
          have HBa : Hid (Below w2.heap.size w2 (wr.drew.alloc (.cells #[.int .i64 (m : Int)] 3))) := HBq.out.drew.alloc (show w2.heap.size ≤ wr.heap.size by omega) _
          have HBb : Hid (Below w2.heap.size w2 (wr.alloc (.cells #[.int .i64 (m : Int)] 3)).drew) := (HBq.out.alloc (show w2.heap.size ≤ wr.heap.size by omega) _).drew
          have c0a : (wr.alloc (.cells #[.int .i64 (m : Int)] 3)).cell? ⟨w2.heap.size, 0, none⟩ = some v0 := block_cell HRb.out.blk 0
          clear hblk hR hyn hi0 hyi hLj hc
          go_wp2
          go_region_law (first
            | (refine step_append_own_at rfl (.tmp 66) (.tmp 70) 22 rfl (w2.heap.size + 1) 3 i0 (.int .i64 0) 1 8 Try.underlying22 hi hz0 hz1 hz2 rfl (by decide) v0 L0.length (vals L0) rfl HRW.out.r0 ⟨wr.heap.size, 0, none⟩ 1 1 [.int .i64 (m : Int)] rfl rfl (one_new _ _ _) (one_ok _ rfl) (by unfold maxLen; omega) (by omega) HRW.out.size ?_; intro v' w4 hown hgrow hloc; obtain ⟨a4, c4, rfl⟩ := row_slice hown; have HR4 : Hid (Rows3 (w4.setCell ⟨w2.heap.size, 0, none⟩ (.slice a4 (L0.length + 1) c4)) (w2.heap.size + 1) w2.heap.size (L0 ++ [m]) L1 L2 (.slice a4 (L0.length + 1) c4) v1 u8) := HRW.out.step0 hown hgrow hloc; have hblk4 := HRW.out.box (fun b hb => (World.ownsRow.lt HRW.out.r0 b hb).1) hgrow; have f04 := block_free hblk4 0; have c04 := block_cell hblk4 0; simp at c04; have HB4 : Hid (Below w2.heap.size w2 (w4.setCell ⟨w2.heap.size, 0, none⟩ (.slice a4 (L0.length + 1) c4))) := ((HBa.out.grown hgrow (Nat.le_trans (Nat.le_succ _) HRW.out.size) (fun k hk => Nat.le_trans (Nat.le_succ _) (World.ownsRow.lt HRW.out.r0 k hk).1)).setCell (Nat.le_refl _) _); clear hown hgrow hloc hblk4)
            | (refine step_append_own_at rfl (.tmp 66) (.tmp 70) 22 rfl (w2.heap.size + 1) 3 i0 (.int .i64 0) 1 8 Try.underlying22 hi hz0 hz1 hz2 rfl (by decide) v0 L0.length (vals L0) rfl HRb.out.r0 ⟨wr.heap.size, 0, none⟩ 1 1 [.int .i64 (m : Int)] rfl rfl (one_new _ _ _) (one_ok _ rfl) (by unfold maxLen; omega) (by omega) HRb.out.size ?_; intro v' w4 hown hgrow hloc; obtain ⟨a4, c4, rfl⟩ := row_slice hown; have HR4 : Hid (Rows3 (w4.setCell ⟨w2.heap.size, 0, none⟩ (.slice a4 (L0.length + 1) c4)) (w2.heap.size + 1) w2.heap.size (L0 ++ [m]) L1 L2 (.slice a4 (L0.length + 1) c4) v1 u8) := HRb.out.step0 hown hgrow hloc; have hblk4 := HRb.out.box (fun b hb => (World.ownsRow.lt HRb.out.r0 b hb).1) hgrow; have f04 := block_free hblk4 0; have c04 := block_cell hblk4 0; simp at c04; have HB4 : Hid (Below w2.heap.size w2 (w4.setCell ⟨w2.heap.size, 0, none⟩ (.slice a4 (L0.length + 1) c4))) := ((HBb.out.grown hgrow (Nat.le_trans (Nat.le_succ _) HRb.out.size) (fun k hk => Nat.le_trans (Nat.le_succ _) (World.ownsRow.lt HRb.out.r0 k hk).1)).setCell (Nat.le_refl _) _); clear hown hgrow hloc hblk4))
          all_goals
            obtain ⟨wq, hwq⟩ : ∃ wq, wq = w4.setCell ⟨w2.heap.size, 0, none⟩ (.slice a4 (L0.length + 1) c4) := ⟨_, rfl⟩
            rw [← hwq] at HR4 HB4 ⊢
            clear hwq f04 c04 HRW HRb HBa HBb c0a
            have HRW : Hid (Rows3 (wq.drew.alloc (.cells #[.int .i64 (m : Int)] 3)) (w2.heap.size + 1) w2.heap.size (L0 ++ [m]) L1 L2 (.slice a4 (L0.length + 1) c4) v1 u8) := HR4.out.keep ((Below.refl _ _).drew.alloc (Nat.le_refl _) _)
            have HRb : Hid (Rows3 (wq.alloc (.cells #[.int .i64 (m : Int)] 3)).drew (w2.heap.size + 1) w2.heap.size (L0 ++ [m]) L1 L2 (.slice a4 (L0.length + 1) c4) v1 u8) := HR4.out.keep (((Below.refl _ _).alloc (Nat.le_refl _) _).drew)
            have hsz4 := HR4.out.size
            have HBa : Hid (Below w2.heap.size w2 (wq.drew.alloc (.cells #[.int .i64 (m : Int)] 3))) := HB4.out.drew.alloc (show w2.heap.size ≤ wq.heap.size by omega) _
            have HBb : Hid (Below w2.heap.size w2 (wq.alloc (.cells #[.int .i64 (m : Int)] 3)).drew) := (HB4.out.alloc (show w2.heap.size ≤ wq.heap.size by omega) _).drew
            go_wp2
            go_region_law (first
              | (refine step_append_own_at rfl (.tmp 79) (.tmp 90) 22 rfl (w2.heap.size + 1) 3 i0 (.int .i64 0) 1 8 Try.underlying22 hi hz0 hz1 hz2 rfl (by decide) u8 L2.length (vals L2) rfl HRW.out.r2 ⟨wq.heap.size, 0, none⟩ 1 1 [.int .i64 (m : Int)] rfl rfl (one_new _ _ _) (one_ok _ rfl) (by unfold maxLen; omega) (by omega) HRW.out.size ?_; intro v' w6 hown hgrow hloc; have HR6 := Lib.hid (HRW.out.step2 hown hgrow hloc); have HB6 : Hid (Below w2.heap.size w2 w6) := (HBa.out.grown hgrow (Nat.le_trans (Nat.le_succ _) HRW.out.size) (fun k hk => Nat.le_trans (Nat.le_succ _) (World.ownsRow.lt HRW.out.r2 k hk).1)); clear hown hgrow hloc)
              | (refine step_append_own_at rfl (.tmp 79) (.tmp 90) 22 rfl (w2.heap.size + 1) 3 i0 (.int .i64 0) 1 8 Try.underlying22 hi hz0 hz1 hz2 rfl (by decide) u8 L2.length (vals L2) rfl HRb.out.r2 ⟨wq.heap.size, 0, none⟩ 1 1 [.int .i64 (m : Int)] rfl rfl (one_new _ _ _) (one_ok _ rfl) (by unfold maxLen; omega) (by omega) HRb.out.size ?_; intro v' w6 hown hgrow hloc; have HR6 := Lib.hid (HRb.out.step2 hown hgrow hloc); have HB6 : Hid (Below w2.heap.size w2 w6) := (HBb.out.grown hgrow (Nat.le_trans (Nat.le_succ _) HRb.out.size) (fun k hk => Nat.le_trans (Nat.le_succ _) (World.ownsRow.lt HRb.out.r2 k hk).1)); clear hown hgrow hloc))
          all_goals
            go_wp2
            go_roundw
            case rel => exact ⟨j + 1, by omega, by go_num, ⟨_, _, by rw [HE0.out, HE1.out, HE2.out]; exact HR6.out⟩, HB6.out⟩
            case measure => simp [intOf]; omega
        · have HE2 : Hid (lessC n ((listOf k z).take (j + 1)) = lessC n ((listOf k z).take j)) := lessC_no hLj (by rw [← hi0]; exact hlast)
          have hge2 : (n : Int) - 1 ≤ (i : Int) := by omega
          have hw1 : IntKind.i64.wrap ((n : Int) - 1) = (n : Int) - 1 := IntWalk.i64_in _ (by omega)
          generalize rowC n 0 ((listOf k z).take j) = L0 at *
          generalize rowC n 1 ((listOf k z).take j) = L1 at *
          generalize lessC n ((listOf k z).take j) = L2 at *
          have HRW : Hid (Rows3 (wr.drew.alloc (.cells #[.int .i64 (i : Int)] 3)) (w2.heap.size + 1) w2.heap.size L0 L1 L2 v0 v1 u8) := hR.keep ((Below.refl _ _).drew.alloc (Nat.le_refl _) _)
          have HRb : Hid (Rows3 (wr.alloc (.cells #[.int .i64 (i : Int)] 3)).drew (w2.heap.size + 1) w2.heap.size L0 L1 L2 v0 v1 u8) := hR.keep (((Below.refl _ _).alloc (Nat.le_refl _) _).drew)
          have hsz := hR.size
          have HBa : Hid (Below w2.heap.size w2 (wr.drew.alloc (.cells #[.int .i64 (i : Int)] 3))) := HBq.out.drew.alloc (show w2.heap.size ≤ wr.heap.size by omega) _
          have HBb : Hid (Below w2.heap.size w2 (wr.alloc (.cells #[.int .i64 (i : Int)] 3)).drew) := (HBq.out.alloc (show w2.heap.size ≤ wr.heap.size by omega) _).drew
          have c0a : (wr.alloc (.cells #[.int .i64 (i : Int)] 3)).cell? ⟨w2.heap.size, 0, none⟩ = some v0 := block_cell HRb.out.blk 0
          clear hblk hR hyn hi0 hyi hLj hc
          go_wp2
          go_region_law (first
            | (refine step_append_own_at rfl (.tmp 66) (.tmp 70) 22 rfl (w2.heap.size + 1) 3 i0 (.int .i64 0) 1 8 Try.underlying22 hi hz0 hz1 hz2 rfl (by decide) v0 L0.length (vals L0) rfl HRW.out.r0 ⟨wr.heap.size, 0, none⟩ 1 1 [.int .i64 (i : Int)] rfl rfl (one_new _ _ _) (one_ok _ rfl) (by unfold maxLen; omega) (by omega) HRW.out.size ?_; intro v' w4 hown hgrow hloc; obtain ⟨a4, c4, rfl⟩ := row_slice hown; have HR4 : Hid (Rows3 (w4.setCell ⟨w2.heap.size, 0, none⟩ (.slice a4 (L0.length + 1) c4)) (w2.heap.size + 1) w2.heap.size (L0 ++ [i]) L1 L2 (.slice a4 (L0.length + 1) c4) v1 u8) := HRW.out.step0 hown hgrow hloc; have hblk4 := HRW.out.box (fun b hb => (World.ownsRow.lt HRW.out.r0 b hb).1) hgrow; have f04 := block_free hblk4 0; have c04 := block_cell hblk4 0; simp at c04; have HB4 : Hid (Below w2.heap.size w2 (w4.setCell ⟨w2.heap.size, 0, none⟩ (.slice a4 (L0.length + 1) c4))) := ((HBa.out.grown hgrow (Nat.le_trans (Nat.le_succ _) HRW.out.size) (fun k hk => Nat.le_trans (Nat.le_succ _) (World.ownsRow.lt HRW.out.r0 k hk).1)).setCell (Nat.le_refl _) _); clear hown hgrow hloc hblk4)
            | (refine step_append_own_at rfl (.tmp 66) (.tmp 70) 22 rfl (w2.heap.size + 1) 3 i0 (.int .i64 0) 1 8 Try.underlying22 hi hz0 hz1 hz2 rfl (by decide) v0 L0.length (vals L0) rfl HRb.out.r0 ⟨wr.heap.size, 0, none⟩ 1 1 [.int .i64 (i : Int)] rfl rfl (one_new _ _ _) (one_ok _ rfl) (by unfold maxLen; omega) (by omega) HRb.out.size ?_; intro v' w4 hown hgrow hloc; obtain ⟨a4, c4, rfl⟩ := row_slice hown; have HR4 : Hid (Rows3 (w4.setCell ⟨w2.heap.size, 0, none⟩ (.slice a4 (L0.length + 1) c4)) (w2.heap.size + 1) w2.heap.size (L0 ++ [i]) L1 L2 (.slice a4 (L0.length + 1) c4) v1 u8) := HRb.out.step0 hown hgrow hloc; have hblk4 := HRb.out.box (fun b hb => (World.ownsRow.lt HRb.out.r0 b hb).1) hgrow; have f04 := block_free hblk4 0; have c04 := block_cell hblk4 0; simp at c04; have HB4 : Hid (Below w2.heap.size w2 (w4.setCell ⟨w2.heap.size, 0, none⟩ (.slice a4 (L0.length + 1) c4))) := ((HBb.out.grown hgrow (Nat.le_trans (Nat.le_succ _) HRb.out.size) (fun k hk => Nat.le_trans (Nat.le_succ _) (World.ownsRow.lt HRb.out.r0 k hk).1)).setCell (Nat.le_refl _) _); clear hown hgrow hloc hblk4))
          all_goals
            go_wp2
            go_roundw
            case rel => exact ⟨j + 1, by omega, by go_num, ⟨_, _, by rw [HE0.out, HE1.out, HE2.out]; exact HR4.out⟩, HB4.out⟩
            case measure => simp [intOf]; omega
      · have hyn : y / n = 1 := hc
        obtain ⟨i, hi0⟩ : ∃ i, i = y % n := ⟨_, rfl⟩
        have hin : i < n := by rw [hi0]; exact Nat.mod_lt _ (by omega)
        have hyi : y = 1 * n + i := by have := Nat.div_add_mod y n; rw [hyn, ← hi0, Nat.mul_comm] at this; omega
        have e1 : (y : Int).tdiv n = 1 := by rw [Int.tdiv_eq_ediv_of_nonneg (by omega), ← Int.natCast_ediv, hyn]; rfl
        have e2 : (y : Int).tmod n = i := by rw [Int.tmod_eq_emod_of_nonneg (by omega), ← Int.natCast_emod, ← hi0]
        have hw0 : IntKind.i64.wrap 1 = 1 := IntWalk.i64_in _ (by omega)
        have hwi : IntKind.i64.wrap (i : Int) = i := IntWalk.i64_in _ (by omega)
        have HE0 : Hid (rowC n 1 ((listOf k z).take (j + 1)) = rowC n 1 ((listOf k z).take j) ++ [i]) := by rw [Hid, rowC_yes hLj hyn, hi0]
        have HE1 : Hid (rowC n 0 ((listOf k z).take (j + 1)) = rowC n 0 ((listOf k z).take j)) := rowC_no hLj (by omega)
        by_cases hlast : i < n - 1
        · obtain ⟨m, hm⟩ : ∃ m : Nat, m = y / n * (n - 1) + y % n := ⟨_, rfl⟩
          have HE2 : Hid (lessC n ((listOf k z).take (j + 1)) = lessC n ((listOf k z).take j) ++ [m]) := by rw [Hid, lessC_yes hLj (by rw [← hi0]; exact hlast), hm]
          rw [hyn, ← hi0] at hm
          have hw1 : IntKind.i64.wrap ((n : Int) - 1) = (n : Int) - 1 := IntWalk.i64_in _ (by omega)
          have hm2 : (n : Int) - 1 + (i : Int) = m := by omega
          have hw2 : IntKind.i64.wrap ((n : Int) - 1 + (i : Int)) = m := by rw [hm2]; exact IntWalk.i64_in _ (by omega)
          have hwm : IntKind.i64.wrap (m : Int) = m := IntWalk.i64_in _ (by omega)
          have hlt2 : (i : Int) < (n : Int) - 1 := by omega
          clear hm
          generalize rowC n 0 ((listOf k z).take j) = L0 at *
          generalize rowC n 1 ((listOf k z).take j) = L1 at *
          generalize lessC n ((listOf k z).take j) = L2 at *
          have HRW : Hid (Rows3 (wr.drew.alloc (.cells #[.int .i64 (i : Int)] 3)) (w2.heap.size + 1) w2.heap.size L0 L1 L2 v0 v1 u8) := hR.keep ((Below.refl _ _).drew.alloc (Nat.le_refl _) _)
          have HRb : Hid (Rows3 (wr.alloc (.cells #[.int .i64 (i : Int)] 3)).drew (w2.heap.size + 1) w2.heap.size L0 L1 L2 v0 v1 u8) := hR.keep (((Below.refl _ _).alloc (Nat.le_refl _) _).drew)
          have hsz := hR.size
          have HBa : Hid (Below w2.heap.size w2 (wr.drew.alloc (.cells #[.int .i64 (i : Int)] 3))) := HBq.out.drew.alloc (show w2.heap.size ≤ wr.heap.size by omega) _
          have HBb : Hid (Below w2.heap.size w2 (wr.alloc (.cells #[.int .i64 (i : Int)] 3)).drew) := (HBq.out.alloc (show w2.heap.size ≤ wr.heap.size by omega) _).drew
          have c0a : (wr.alloc (.cells #[.int .i64 (i : Int)] 3)).cell? ⟨w2.heap.size, 1, none⟩ = some v1 := block_cell HRb.out.blk 1
          clear hblk hR hyn hi0 hyi hLj hc
          go_wp2
          go_region_law (first
            | (refine step_append_own_at rfl (.tmp 66) (.tmp 70) 22 rfl (w2.heap.size + 1) 3 i0 (.int .i64 0) 1 8 Try.underlying22 hi hz0 hz1 hz2 rfl (by decide) v1 L1.length (vals L1) rfl HRW.out.r1 ⟨wr.heap.size, 0, none⟩ 1 1 [.int .i64 (i : Int)] rfl rfl (one_new _ _ _) (one_ok _ rfl) (by unfold maxLen; omega) (by omega) HRW.out.size ?_; intro v' w4 hown hgrow hloc; obtain ⟨a4, c4, rfl⟩ := row_slice hown; have HR4 : Hid (Rows3 (w4.setCell ⟨w2.heap.size, 1, none⟩ (.slice a4 (L1.length + 1) c4)) (w2.heap.size + 1) w2.heap.size L0 (L1 ++ [i]) L2 v0 (.slice a4 (L1.length + 1) c4) u8) := HRW.out.step1 hown hgrow hloc; have hblk4 := HRW.out.box (fun b hb => (World.ownsRow.lt HRW.out.r1 b hb).1) hgrow; have f04 := block_free hblk4 1; have c04 := block_cell hblk4 1; simp at c04; have HB4 : Hid (Below w2.heap.size w2 (w4.setCell ⟨w2.heap.size, 1, none⟩ (.slice a4 (L1.length + 1) c4))) := ((HBa.out.grown hgrow (Nat.le_trans (Nat.le_succ _) HRW.out.size) (fun k hk => Nat.le_trans (Nat.le_succ _) (World.ownsRow.lt HRW.out.r1 k hk).1)).setCell (Nat.le_refl _) _); clear hown hgrow hloc hblk4)
            | (refine step_append_own_at rfl (.tmp 66) (.tmp 70) 22 rfl (w2.heap.size + 1) 3 i0 (.int .i64 0) 1 8 Try.underlying22 hi hz0 hz1 hz2 rfl (by decide) v1 L1.length (vals L1) rfl HRb.out.r1 ⟨wr.heap.size, 0, none⟩ 1 1 [.int .i64 (i : Int)] rfl rfl (one_new _ _ _) (one_ok _ rfl) (by unfold maxLen; omega) (by omega) HRb.out.size ?_; intro v' w4 hown hgrow hloc; obtain ⟨a4, c4, rfl⟩ := row_slice hown; have HR4 : Hid (Rows3 (w4.setCell ⟨w2.heap.size, 1, none⟩ (.slice a4 (L1.length + 1) c4)) (w2.heap.size + 1) w2.heap.size L0 (L1 ++ [i]) L2 v0 (.slice a4 (L1.length + 1) c4) u8) := HRb.out.step1 hown hgrow hloc; have hblk4 := HRb.out.box (fun b hb => (World.ownsRow.lt HRb.out.r1 b hb).1) hgrow; have f04 := block_free hblk4 1; have c04 := block_cell hblk4 1; simp at c04; have HB4 : Hid (Below w2.heap.size w2 (w4.setCell ⟨w2.heap.size, 1, none⟩ (.slice a4 (L1.length + 1) c4))) := ((HBb.out.grown hgrow (Nat.le_trans (Nat.le_succ _) HRb.out.size) (fun k hk => Nat.le_trans (Nat.le_succ _) (World.ownsRow.lt HRb.out.r1 k hk).1)).setCell (Nat.le_refl _) _); clear hown hgrow hloc hblk4))
          all_goals
            obtain ⟨wq, hwq⟩ : ∃ wq, wq = w4.setCell ⟨w2.heap.size, 1, none⟩ (.slice a4 (L1.length + 1) c4) := ⟨_, rfl⟩
            rw [← hwq] at HR4 HB4 ⊢
            clear hwq f04 c04 HRW HRb HBa HBb c0a
            have HRW : Hid (Rows3 (wq.drew.alloc (.cells #[.int .i64 (m : Int)] 3)) (w2.heap.size + 1) w2.heap.size L0 (L1 ++ [i]) L2 v0 (.slice a4 (L1.length + 1) c4) u8) := HR4.out.keep ((Below.refl _ _).drew.alloc (Nat.le_refl _) _)
            have HRb : Hid (Rows3 (wq.alloc (.cells #[.int .i64 (m : Int)] 3)).drew (w2.heap.size + 1) w2.heap.size L0 (L1 ++ [i]) L2 v0 (.slice a4 (L1.length + 1) c4) u8) := HR4.out.keep (((Below.refl _ _).alloc (Nat.le_refl _) _).drew)
            have hsz4 := HR4.out.size
            have HBa : Hid (Below w2.heap.size w2 (wq.drew.alloc (.cells #[.int .i64 (m : Int)] 3))) := HB4.out.drew.alloc (show w2.heap.size ≤ wq.heap.size by omega) _
            have HBb : Hid (Below w2.heap.size w2 (wq.alloc (.cells #[.int .i64 (m : Int)] 3)).drew) := (HB4.out.alloc (show w2.heap.size ≤ wq.heap.size by omega) _).drew
            go_wp2
            go_region_law (first
              | (refine step_append_own_at rfl (.tmp 79) (.tmp 90) 22 rfl (w2.heap.size + 1) 3 i0 (.int .i64 0) 1 8 Try.underlying22 hi hz0 hz1 hz2 rfl (by decide) u8 L2.length (vals L2) rfl HRW.out.r2 ⟨wq.heap.size, 0, none⟩ 1 1 [.int .i64 (m : Int)] rfl rfl (one_new _ _ _) (one_ok _ rfl) (by unfold maxLen; omega) (by omega) HRW.out.size ?_; intro v' w6 hown hgrow hloc; have HR6 := Lib.hid (HRW.out.step2 hown hgrow hloc); have HB6 : Hid (Below w2.heap.size w2 w6) := (HBa.out.grown hgrow (Nat.le_trans (Nat.le_succ _) HRW.out.size) (fun k hk => Nat.le_trans (Nat.le_succ _) (World.ownsRow.lt HRW.out.r2 k hk).1)); clear hown hgrow hloc)
              | (refine step_append_own_at rfl (.tmp 79) (.tmp 90) 22 rfl (w2.heap.size + 1) 3 i0 (.int .i64 0) 1 8 Try.underlying22 hi hz0 hz1 hz2 rfl (by decide) u8 L2.length (vals L2) rfl HRb.out.r2 ⟨wq.heap.size, 0, none⟩ 1 1 [.int .i64 (m : Int)] rfl rfl (one_new _ _ _) (one_ok _ rfl) (by unfold maxLen; omega) (by omega) HRb.out.size ?_; intro v' w6 hown hgrow hloc; have HR6 := Lib.hid (HRb.out.step2 hown hgrow hloc); have HB6 : Hid (Below w2.heap.size w2 w6) := (HBb.out.grown hgrow (Nat.le_trans (Nat.le_succ _) HRb.out.size) (fun k hk => Nat.le_trans (Nat.le_succ _) (World.ownsRow.lt HRb.out.r2 k hk).1)); clear hown hgrow hloc))
          all_goals
            go_wp2
            go_roundw
            case rel => exact ⟨j + 1, by omega, by go_num, ⟨_, _, by rw [HE0.out, HE1.out, HE2.out]; exact HR6.out⟩, HB6.out⟩
            case measure => simp [intOf]; omega
        · have HE2 : Hid (lessC n ((listOf k z).take (j + 1)) = lessC n ((listOf k z).take j)) := lessC_no hLj (by rw [← hi0]; exact hlast)
          have hge2 : (n : Int) - 1 ≤ (i : Int) := by omega
          have hw1 : IntKind.i64.wrap ((n : Int) - 1) = (n : Int) - 1 := IntWalk.i64_in _ (by omega)
          generalize rowC n 0 ((listOf k z).take j) = L0 at *
          generalize rowC n 1 ((listOf k z).take j) = L1 at *
          generalize lessC n ((listOf k z).take j) = L2 at *
          have HRW : Hid (Rows3 (wr.drew.alloc (.cells #[.int .i64 (i : Int)] 3)) (w2.heap.size + 1) w2.heap.size L0 L1 L2 v0 v1 u8) := hR.keep ((Below.refl _ _).drew.alloc (Nat.le_refl _) _)
          have HRb : Hid (Rows3 (wr.alloc (.cells #[.int .i64 (i : Int)] 3)).drew (w2.heap.size + 1) w2.heap.size L0 L1 L2 v0 v1 u8) := hR.keep (((Below.refl _ _).alloc (Nat.le_refl _) _).drew)
          have hsz := hR.size
          have HBa : Hid (Below w2.heap.size w2 (wr.drew.alloc (.cells #[.int .i64 (i : Int)] 3))) := HBq.out.drew.alloc (show w2.heap.size ≤ wr.heap.size by omega) _
          have HBb : Hid (Below w2.heap.size w2 (wr.alloc (.cells #[.int .i64 (i : Int)] 3)).drew) := (HBq.out.alloc (show w2.heap.size ≤ wr.heap.size by omega) _).drew
          have c0a : (wr.alloc (.cells #[.int .i64 (i : Int)] 3)).cell? ⟨w2.heap.size, 1, none⟩ = some v1 := block_cell HRb.out.blk 1
          clear hblk hR hyn hi0 hyi hLj hc
          go_wp2
          go_region_law (first
            | (refine step_append_own_at rfl (.tmp 66) (.tmp 70) 22 rfl (w2.heap.size + 1) 3 i0 (.int .i64 0) 1 8 Try.underlying22 hi hz0 hz1 hz2 rfl (by decide) v1 L1.length (vals L1) rfl HRW.out.r1 ⟨wr.heap.size, 0, none⟩ 1 1 [.int .i64 (i : Int)] rfl rfl (one_new _ _ _) (one_ok _ rfl) (by unfold maxLen; omega) (by omega) HRW.out.size ?_; intro v' w4 hown hgrow hloc; obtain ⟨a4, c4, rfl⟩ := row_slice hown; have HR4 : Hid (Rows3 (w4.setCell ⟨w2.heap.size, 1, none⟩ (.slice a4 (L1.length + 1) c4)) (w2.heap.size + 1) w2.heap.size L0 (L1 ++ [i]) L2 v0 (.slice a4 (L1.length + 1) c4) u8) := HRW.out.step1 hown hgrow hloc; have hblk4 := HRW.out.box (fun b hb => (World.ownsRow.lt HRW.out.r1 b hb).1) hgrow; have f04 := block_free hblk4 1; have c04 := block_cell hblk4 1; simp at c04; have HB4 : Hid (Below w2.heap.size w2 (w4.setCell ⟨w2.heap.size, 1, none⟩ (.slice a4 (L1.length + 1) c4))) := ((HBa.out.grown hgrow (Nat.le_trans (Nat.le_succ _) HRW.out.size) (fun k hk => Nat.le_trans (Nat.le_succ _) (World.ownsRow.lt HRW.out.r1 k hk).1)).setCell (Nat.le_refl _) _); clear hown hgrow hloc hblk4)
            | (refine step_append_own_at rfl (.tmp 66) (.tmp 70) 22 rfl (w2.heap.size + 1) 3 i0 (.int .i64 0) 1 8 Try.underlying22 hi hz0 hz1 hz2 rfl (by decide) v1 L1.length (vals L1) rfl HRb.out.r1 ⟨wr.heap.size, 0, none⟩ 1 1 [.int .i64 (i : Int)] rfl rfl (one_new _ _ _) (one_ok _ rfl) (by unfold maxLen; omega) (by omega) HRb.out.size ?_; intro v' w4 hown hgrow hloc; obtain ⟨a4, c4, rfl⟩ := row_slice hown; have HR4 : Hid (Rows3 (w4.setCell ⟨w2.heap.size, 1, none⟩ (.slice a4 (L1.length + 1) c4)) (w2.heap.size + 1) w2.heap.size L0 (L1 ++ [i]) L2 v0 (.slice a4 (L1.length + 1) c4) u8) := HRb.out.step1 hown hgrow hloc; have hblk4 := HRb.out.box (fun b hb => (World.ownsRow.lt HRb.out.r1 b hb).1) hgrow; have f04 := block_free hblk4 1; have c04 := block_cell hblk4 1; simp at c04; have HB4 : Hid (Below w2.heap.size w2 (w4.setCell ⟨w2.heap.size, 1, none⟩ (.slice a4 (L1.length + 1) c4))) := ((HBb.out.grown hgrow (Nat.le_trans (Nat.le_succ _) HRb.out.size) (fun k hk => Nat.le_trans (Nat.le_succ _) (World.ownsRow.lt HRb.out.r1 k hk).1)).setCell (Nat.le_refl _) _); clear hown hgrow hloc hblk4))
          all_goals
            go_wp2
            go_roundw
            case rel => exact ⟨j + 1, by omega, by go_num, ⟨_, _, by rw [HE0.out, HE1.out, HE2.out]; exact HR4.out⟩, HB4.out⟩
            case measure => simp [intOf]; omega
    · have e : j = k := by omega
      have HRe : Hid (Rows3 wr (w2.heap.size + 1) w2.heap.size (rowC n 0 (listOf k z)) (rowC n 1 (listOf k z)) (lessC n (listOf k z)) v0 v1 u8) := by
        have := hR
        rw [e, List.take_of_length_le (by rw [listOf_len]; omega)] at this; exact this
      have HBe : Hid (Below W.heap.size W wr) := HB2.out.trans (hb.mono HB2.out.size)
      have hge : (k : Int) ≤ j := by omega
      have hblk := hR.blk
      have c0 := block_cell hblk 0
      have c1 := block_cell hblk 1
      simp at c0 c1
      clear e hR hb hblk hge
      obtain ⟨f0l, f0p, f0q⟩ := HF0.out
      obtain ⟨f1l, f1p, f1q⟩ := HF1.out
      have r0 := HRe.out.r0
      have r1 := HRe.out.r1
      have r2 := HRe.out.r2
      rw [vals_zl] at r0 r1 r2
      rw [f0l] at r0
      rw [f1l] at r1
      obtain ⟨a0, d0, rfl, hO0⟩ := own_mk r0
      obtain ⟨a9, d9, rfl, hO9⟩ := own_mk r1
      have HO0 := Lib.hid hO0
      have HO9 := Lib.hid hO9
      have HQ0 := Lib.hid (possible_good a0 d0 n (zl (rowC n 0 (listOf k z))) wr f0p hO0.ints)
      rw [f0q] at HQ0
      have HP9 := Lib.hid f1p
      have HQ9 := Lib.hid f1q
      have hge : (k : Int) ≤ j := by omega
      have k0 : ∀ w, (Instr.index 59 (.agg #[.slice a0 n d0, .slice a9 n d9]) (.int .i64 0)).run Try.prog w = .ok (.slice a0 n d0) w := fun _ => by kernel_rfl
      have k1 : ∀ w, (Instr.index 59 (.agg #[.slice a0 n d0, .slice a9 n d9]) (.int .i64 1)).run Try.prog w = .ok (.slice a9 n d9) w := fun _ => by kernel_rfl
      clear r0 r1 hO0 hO9 f0l f0p f0q f1l f1p f1q
      go_wp2
      refine wp_loop_rounds 3 ?_
      rw [rounds_succ]
      go_wp2_with fail
      refine HQ0.out.mono ?_
      rintro e w7 ⟨rfl, hb7⟩
      have HB7 : Hid (Below W.heap.size W w7) := HBe.out.trans (hb7.mono HBe.out.size)
      have hq9 := possible_good a9 d9 n (zl (rowC n 1 (listOf k z))) w7 HP9.out (HO9.out.ints.keep (Nat.le_refl _) hb7)
      rw [HQ9.out] at hq9
      have HQa := Lib.hid hq9
      have HB7a := Lib.hid hb7
      clear hb7 hq9 HQ0
      go_wp2
      rw [rounds_succ]
      go_wp2_with fail
      refine HQa.out.mono ?_
      rintro e w8 ⟨rfl, hb8⟩
      have HB8 : Hid (Below W.heap.size W w8) := HB7.out.trans (hb8.mono HB7.out.size)
      have HB8a : Hid (Below wr.heap.size wr w8) := HB7a.out.trans (hb8.mono HB7a.out.size)
      clear hb8 HQa
      go_wp2
      rw [rounds_succ]
      by_cases hn1 : n = 1
      · have G : ((n : Int) == 1) = true := by simp [hn1]
        have hn1' : (n : Int) = 1 := by omega
        go_wp2_with fail
        refine (awake_any _).mono ?_
        rintro e w9 ⟨rfl, hb9⟩
        have HB9 : Hid (Below W.heap.size W w9) := HB8.out.trans (hb9.mono HB8.out.size)
        clear hb9
        go_wp2
        go_ret
        exact ⟨rfl, HB9.out⟩
      · have G : ((n : Int) == 1) = false := by simp; omega
        obtain ⟨f2l, f2p, f2q⟩ := HF2.out (by omega)
        rw [f2l] at r2
        obtain ⟨a2, d2, rfl, hO2⟩ := own_mk r2
        have hq := map_good (n - 1) a2 d2 (2 * (n - 1)) (zl (lessC n (listOf k z))) w8 (by omega) (by omega) f2p (hO2.ints.keep (Nat.le_refl _) HB8a.out)
        rw [f2q, show ((n - 1 : Nat) : Int) = (n : Int) - 1 by omega] at hq
        have HQ := Lib.hid hq
        clear r2 hO2 f2l f2p f2q hq
        go_wp2_with fail
        refine HQ.out.mono ?_
        rintro e w10 ⟨rfl, hb10⟩
        have HB10 : Hid (Below W.heap.size W w10) := HB8.out.trans (hb10.mono HB8.out.size)
        clear hb10
        go_wp2_with fail
        refine (awake_any _).mono ?_
        rintro e w9 ⟨rfl, hb9⟩
        have HB9 : Hid (Below W.heap.size W w9) := HB10.out.trans (hb9.mono HB10.out.size)
        clear hb9
        go_wp2
        go_ret
        exact ⟨rfl, HB9.out⟩
end Go.Proofs.Ytmbccdjoliegiaa
