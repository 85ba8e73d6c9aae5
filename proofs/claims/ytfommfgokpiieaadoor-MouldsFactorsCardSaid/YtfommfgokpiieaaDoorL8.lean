import Derived.Test.YtfommfgokpiieaaDoorT1
import Derived.Test.YtfommfgokpiieaaDoorG10
namespace Go.Proofs.YtfommfgokpiieaaDoor
open Go.RowKit

theorem equalIn_4 (a b c d : Int) : ∀ w, (Op.equalIn 10000 39 (.agg #[.int .i64 a, .int .i64 b, .int .i64 c, .int .i64 d]) (.agg #[.int .i64 a, .int .i64 b, .int .i64 c, .int .i64 d])).run Tryd.prog w = .ok true w := by
  intro w
  have u3 := Tryd.underlying3
  have a3 := Tryd.isAgg3
  have z3 := Tryd.sizeOf3
  rw [show (10000 : Nat) = 9999 + 1 from rfl, Op.equalIn]
  simp only [Sem.run_bind, run_underlying Tryd.underlying39, Result.andThen_ok]
  simp only [Std.Legacy.Range.forIn_eq_forIn_range', Std.Legacy.Range.size, Nat.sub_zero, Nat.add_sub_cancel, Nat.div_one, List.range'_succ, List.range'_zero, List.forIn_cons, List.forIn_nil]
  go_simp
theorem equalIn_2' (a b : Int) : ∀ w, (Op.equalIn 9999 33 (.agg #[.int .i64 a, .int .i64 b]) (.agg #[.int .i64 a, .int .i64 b])).run Tryd.prog w = .ok true w := by
  intro w
  have u3 := Tryd.underlying3
  have a3 := Tryd.isAgg3
  have z3 := Tryd.sizeOf3
  rw [show (9999 : Nat) = 9998 + 1 from rfl, Op.equalIn]
  simp only [Sem.run_bind, run_underlying Tryd.underlying33, Result.andThen_ok]
  simp only [Std.Legacy.Range.forIn_eq_forIn_range', Std.Legacy.Range.size, Nat.sub_zero, Nat.add_sub_cancel, Nat.div_one, List.range'_succ, List.range'_zero, List.forIn_cons, List.forIn_nil]
  go_simp
theorem equalIn_22 (a b c d : Int) : ∀ w, (Op.equalIn 10000 42 (.agg #[.int .i64 a, .int .i64 b, .int .i64 c, .int .i64 d]) (.agg #[.int .i64 a, .int .i64 b, .int .i64 c, .int .i64 d])).run Tryd.prog w = .ok true w := by
  intro w
  have a3 := Tryd.isAgg33
  have z3 := Tryd.sizeOf33
  have h1 := equalIn_2' a b
  have h2 := equalIn_2' c d
  rw [show (10000 : Nat) = 9999 + 1 from rfl, Op.equalIn]
  simp only [Sem.run_bind, run_underlying Tryd.underlying42, Result.andThen_ok]
  simp only [Std.Legacy.Range.forIn_eq_forIn_range', Std.Legacy.Range.size, Nat.sub_zero, Nat.add_sub_cancel, Nat.div_one, List.range'_succ, List.range'_zero, List.forIn_cons, List.forIn_nil]
  go_simp

set_option maxHeartbeats 8000000 in
set_option maxRecDepth 100000 in
theorem factors_law_bad (W : World) (s : ByteArray) (l : List UInt8) (hl : s.data.toList = l) (hs : s.size ≤ 9223372036854775807) (ho : outB l = false) (hS : StepsAt W) :
    Calls Tryd.prog 6 #[.string s] W fun e W' => SomeIs true W e W' := by
  have HT := Lib.hid (fun W' => text_any s W' hs)
  have HAw := Lib.hid (fun W' h => awake_any W' h)
  have HS := Lib.hid hS
  have hl' := text_list s l hl
  have hs' : (s.extract 0 (min s.size 30)).size ≤ 9223372036854775807 := by rw [text_size]; omega
  have ho' : outB (l.take 30) = false := by rw [take_out]; exact ho
  have H1 := Lib.hid (fun W' hS' => factor_bad _ _ W' hl' hs' ho' hS')
  have H2 := Lib.hid (fun W' hS' => factors_bad _ _ W' hl' hs' ho' hS')
  have H3 := Lib.hid (fun W' hS' => vectors_bad _ _ W' hl' hs' ho' hS')
  have HI := Lib.hid (fun W' => ris_any s l W' hl hs)
  rw [ho] at HI
  clear hS ho ho' hl hl' hs'
  unfold zA4 at H1
  have q4 := equalIn_4 0 0 0 0
  have q22 := equalIn_22 0 0 0 0
  generalize s.extract 0 (min s.size 30) = t at HT H1 H2 H3
  go_enter Tryd.func6, Tryd.ntmps6
  go_wp2_with fail
  refine (HT.out _).mono ?_
  rintro e w1 ⟨rfl, rfl⟩
  go_wp2_with fail
  refine (H1.out _ HS.out).mono ?_
  rintro e w2 ⟨rfl, hb⟩
  have HBa := Lib.hid hb
  clear hb
  go_wp2_with fail
  refine (HT.out _).mono ?_
  rintro e w3 ⟨rfl, rfl⟩
  go_wp2_with fail
  refine (H2.out _ (HS.out.keep (HBa.out.alloc HBa.out.size _))).mono ?_
  rintro e w4 ⟨rfl, hb⟩
  have hx := (hb.block w2.heap.size (by simp)).trans (heap_alloc_new w2 _)
  have HXa := Lib.hid hx
  have HBb := Lib.hid (band (HBa.out.alloc HBa.out.size _) hb)
  clear hb hx
  go_wp2_with fail
  refine (HT.out _).mono ?_
  rintro e w5 ⟨rfl, rfl⟩
  go_wp2_with fail
  refine (H3.out _ (HS.out.keep HBb.out)).mono ?_
  rintro e w6 ⟨rfl, hb⟩
  have hx := (hb.block w2.heap.size (Array.getElem?_eq_some_iff.1 HXa.out).1).trans HXa.out
  have HXb := Lib.hid hx
  have HBc := Lib.hid (band HBb.out hb)
  clear hb hx
  go_wp2_with fail
  refine (HI.out _).mono ?_
  rintro e w7 ⟨rfl, hb⟩
  have hxv := (hb.block w6.heap.size (by simp)).trans (heap_alloc_new w6 _)
  have hxa := (hb.block w2.heap.size (by have := (Array.getElem?_eq_some_iff.1 HXb.out).1; simp; omega)).trans (((one_le w6 _).block _ (Array.getElem?_eq_some_iff.1 HXb.out).1).trans HXb.out)
  have HBd := Lib.hid (band (HBc.out.alloc HBc.out.size _) hb)
  have a0 := block_cell hxa 0
  have a1 := block_cell hxa 1
  have a2 := block_cell hxa 2
  have a3 := block_cell hxa 3
  have v0 := block_cell hxv 0
  have v1 := block_cell hxv 1
  have v2 := block_cell hxv 2
  have v3 := block_cell hxv 3
  clear hb hxv hxa
  go_wp2_with fail
  refine (HAw.out _ (HS.out.keep HBd.out)).mono ?_
  rintro e w8 ⟨rfl, hb⟩
  have HBe := Lib.hid (band HBd.out hb)
  clear hb a0 a1 a2 a3 v0 v1 v2 v3
  go_wp2
  go_ret
  exact ⟨rfl, HBe.out⟩

theorem fac_uniq (s : ByteArray) : ∃ A0 A1 A2 A3 E : Int, ∀ e, FacOut s e → e = .returned (.tuple #[.agg #[.int .i64 A0, .int .i64 A1, .int .i64 A2, .int .i64 A3], .int .i64 E]) := by
  cases hf : facL s with
  | nil =>
    refine ⟨0, 0, 0, 0, 4, fun e he => ?_⟩
    rcases he with ⟨_, rfl⟩ | ⟨x, r, h, _⟩
    · rfl
    · rw [hf] at h; cases h
  | cons x r =>
    refine ⟨x.k, x.a, x.b, ((s.size / 2 : Nat) : Int) - x.a - x.b, 0, fun e he => ?_⟩
    rcases he with ⟨h, _⟩ | ⟨y, r', h, rfl⟩
    · rw [hf] at h; cases h
    · rw [hf] at h
      injection h with h' _
      subst h'
      rfl
theorem vec_uniq (s : ByteArray) : ∃ A0 A1 A2 A3 E : Int, ∀ e, VecOut s e → e = .returned (.tuple #[.agg #[.int .i64 A0, .int .i64 A1, .int .i64 A2, .int .i64 A3], .int .i64 E]) := by
  cases hf : facL s with
  | nil =>
    refine ⟨0, 0, 0, 0, 4, fun e he => ?_⟩
    rcases he with ⟨_, rfl⟩ | ⟨x, r, h, _⟩
    · rfl
    · rw [hf] at h; cases h
  | cons x r =>
    refine ⟨px (turnL s.data.toList x.k) (x.a + x.b), py (turnL s.data.toList x.k) (x.a + x.b), px (turnL s.data.toList x.k) (s.size / 2) - px (turnL s.data.toList x.k) x.a, py (turnL s.data.toList x.k) (s.size / 2) - py (turnL s.data.toList x.k) x.a, 0, fun e he => ?_⟩
    rcases he with ⟨h, _⟩ | ⟨y, r', h, rfl⟩
    · rw [hf] at h; cases h
    · rw [hf] at h
      injection h with h' _
      subst h'
      rfl

set_option maxHeartbeats 8000000 in
set_option maxRecDepth 100000 in
theorem factors_law_good (W : World) (s : ByteArray) (l : List UInt8) (hl : s.data.toList = l) (ho : outB l = true) (hS : StepsAt W) :
    Calls Tryd.prog 6 #[.string s] W fun e W' => SomeIs true W e W' := by
  have hw := (outB_iff.1 ho).1
  have hs : s.size ≤ 24 := by have := (wordB_iff.1 hw).1; rw [← hl] at this; exact this
  have hh : s.size = 2 * (s.size / 2) := by
    have := out_even ho
    rw [← hl] at this
    exact this
  have HT := Lib.hid (fun W' => text_any s W' (by omega))
  rw [text_id s (by omega)] at HT
  have HAw := Lib.hid (fun W' h => awake_any W' h)
  have HS := Lib.hid hS
  obtain ⟨A0, A1, A2, A3, E, hA⟩ := fac_uniq s
  obtain ⟨V0, V1, V2, V3, G, hV⟩ := vec_uniq s
  have H1 := Lib.hid (fun W' hS' => (factor_good s l W' hl ho hS').mono (fun e w' h => (⟨hA e h.1, h.2⟩ : _ ∧ _)))
  have H2 := Lib.hid (fun W' hS' => factors_good s l W' hl ho hS')
  have H3 := Lib.hid (fun W' hS' => (vectors_good s l (s.size / 2) W' hl ho hh hS').mono (fun e w' h => (⟨hV e h.1, h.2⟩ : _ ∧ _)))
  have HI := Lib.hid (fun W' => ris_any s l W' hl (by omega))
  rw [ho] at HI
  have H4 := Lib.hid (fun W' => (rFactor_any s l (s.size / 2) W' hl hw hh).mono (fun e w' h => (⟨hA e h.1, h.2⟩ : _ ∧ _)))
  have H5 := Lib.hid (fun W' => (rVectors_any s l (s.size / 2) W' hl hw hh).mono (fun e w' h => (⟨hV e h.1, h.2⟩ : _ ∧ _)))
  have H6 := Lib.hid (fun W' => rFactors_any s l (s.size / 2) W' hl hw hh)
  generalize (facL s).length = n at H2 H6
  have q4 := equalIn_4 A0 A1 A2 A3
  have q22 := equalIn_22 V0 V1 V2 V3
  clear hS ho hl hh hw hA hV
  go_enter Tryd.func6, Tryd.ntmps6
  go_wp2_with fail
  refine (HT.out _).mono ?_
  rintro e w1 ⟨rfl, rfl⟩
  go_wp2_with fail
  refine (H1.out _ HS.out).mono ?_
  rintro e w2 ⟨rfl, hb⟩
  have HBa := Lib.hid hb
  clear hb
  go_wp2_with fail
  refine (HT.out _).mono ?_
  rintro e w3 ⟨rfl, rfl⟩
  go_wp2_with fail
  refine (H2.out _ (HS.out.keep (HBa.out.alloc HBa.out.size _))).mono ?_
  rintro e w4 ⟨rfl, hb⟩
  have hx := (hb.block w2.heap.size (by simp)).trans (heap_alloc_new w2 _)
  have HXa := Lib.hid hx
  have HBb := Lib.hid (band (HBa.out.alloc HBa.out.size _) hb)
  clear hb hx
  go_wp2_with fail
  refine (HT.out _).mono ?_
  rintro e w5 ⟨rfl, rfl⟩
  go_wp2_with fail
  refine (H3.out _ (HS.out.keep HBb.out)).mono ?_
  rintro e w6 ⟨rfl, hb⟩
  have hx := (hb.block w2.heap.size (Array.getElem?_eq_some_iff.1 HXa.out).1).trans HXa.out
  have HXb := Lib.hid hx
  have HBc := Lib.hid (band HBb.out hb)
  clear hb hx
  go_wp2_with fail
  refine (HI.out _).mono ?_
  rintro e w7 ⟨rfl, hb⟩
  have hxv := (hb.block w6.heap.size (by simp)).trans (heap_alloc_new w6 _)
  have hxa := (hb.block w2.heap.size (by have := (Array.getElem?_eq_some_iff.1 HXb.out).1; simp; omega)).trans (((one_le w6 _).block _ (Array.getElem?_eq_some_iff.1 HXb.out).1).trans HXb.out)
  have HBd := Lib.hid (band (HBc.out.alloc HBc.out.size _) hb)
  have HXv := Lib.hid hxv
  have HXa7 := Lib.hid hxa
  clear hb hxv hxa
  go_wp2_with fail
  refine (H4.out _).mono ?_
  rintro e w8 ⟨rfl, hb⟩
  have HXv8 := Lib.hid ((hb.block _ (Array.getElem?_eq_some_iff.1 HXv.out).1).trans HXv.out)
  have HXa8 := Lib.hid ((hb.block _ (Array.getElem?_eq_some_iff.1 HXa7.out).1).trans HXa7.out)
  have HBe := Lib.hid (band HBd.out hb)
  clear hb
  go_wp2_with fail
  refine (H5.out _).mono ?_
  rintro e w9 ⟨rfl, hb⟩
  have hlt8 : w6.heap.size < w8.heap.size ∧ w2.heap.size < w8.heap.size := ⟨(Array.getElem?_eq_some_iff.1 HXv8.out).1, (Array.getElem?_eq_some_iff.1 HXa8.out).1⟩
  have hxb := (hb.block w8.heap.size (by simp)).trans (heap_alloc_new w8 _)
  have hxa := (hb.block w2.heap.size (by simp; omega)).trans (((one_le w8 _).block _ hlt8.2).trans HXa8.out)
  have hxv := (hb.block w6.heap.size (by simp; omega)).trans (((one_le w8 _).block _ hlt8.1).trans HXv8.out)
  have HBf := Lib.hid (band (HBe.out.alloc HBe.out.size _) hb)
  have hxa9 := ((one_le w9 (.cells #[.int .i64 V0, .int .i64 V1, .int .i64 V2, .int .i64 V3] 42)).block _ (Array.getElem?_eq_some_iff.1 hxa).1).trans hxa
  have hxb9 := ((one_le w9 (.cells #[.int .i64 V0, .int .i64 V1, .int .i64 V2, .int .i64 V3] 42)).block _ (Array.getElem?_eq_some_iff.1 hxb).1).trans hxb
  have HXv9 := Lib.hid (((one_le w9 (.cells #[.int .i64 V0, .int .i64 V1, .int .i64 V2, .int .i64 V3] 42)).block _ (Array.getElem?_eq_some_iff.1 hxv).1).trans hxv)
  have HXw9 := Lib.hid (heap_alloc_new w9 (.cells #[.int .i64 V0, .int .i64 V1, .int .i64 V2, .int .i64 V3] 42))
  have a0 := block_cell hxa9 0
  have a1 := block_cell hxa9 1
  have a2 := block_cell hxa9 2
  have a3 := block_cell hxa9 3
  have b0 := block_cell hxb9 0
  have b1 := block_cell hxb9 1
  have b2 := block_cell hxb9 2
  have b3 := block_cell hxb9 3
  clear hb hlt8 hxa hxb hxv hxa9 hxb9
  go_wp2_with fail
  refine (H6.out _).mono ?_
  rintro e w10 ⟨rfl, hb⟩
  have HBg := Lib.hid (band (HBf.out.alloc HBf.out.size _) hb)
  have hxv := (hb.block _ (Array.getElem?_eq_some_iff.1 HXv9.out).1).trans HXv9.out
  have hxw := (hb.block _ (Array.getElem?_eq_some_iff.1 HXw9.out).1).trans HXw9.out
  have v0 := block_cell hxv 0
  have v1 := block_cell hxv 1
  have v2 := block_cell hxv 2
  have v3 := block_cell hxv 3
  have u0 := block_cell hxw 0
  have u1 := block_cell hxw 1
  have u2 := block_cell hxw 2
  have u3 := block_cell hxw 3
  clear hb hxv hxw a0 a1 a2 a3 b0 b1 b2 b3
  go_wp2_with fail
  refine (HAw.out _ (HS.out.keep HBg.out)).mono ?_
  rintro e w11 ⟨rfl, hb⟩
  have HBh := Lib.hid (band HBg.out hb)
  clear hb v0 v1 v2 v3 u0 u1 u2 u3
  go_wp2
  go_ret
  exact ⟨rfl, HBh.out⟩

theorem factors_core (W : World) (s : ByteArray) (hs : s.size ≤ 9223372036854775807) (hS : StepsAt W) :
    Calls Tryd.prog 6 #[.string s] W fun e W' => SomeIs true W e W' := by
  cases ho : outB s.data.toList
  · exact factors_law_bad W s _ rfl hs ho hS
  · exact factors_law_good W s _ rfl ho hS
end Go.Proofs.YtfommfgokpiieaaDoor
