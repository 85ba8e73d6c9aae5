import Derived.Test.YtfommfgokpiieacDoorT1
import Derived.Test.YtfommfgokpiieacDoorG5
namespace Go.Proofs.YtfommfgokpiieacDoor
open Go.RowKit

set_option maxHeartbeats 8000000 in
set_option maxRecDepth 100000 in
theorem either_bad (W : World) (s : ByteArray) (l : List UInt8) (hl : s.data.toList = l) (hs : s.size ≤ 9223372036854775807) (ho : outB l = false) (hS : StepsAt W) :
    Calls Tryd.prog 5 #[.string s] W fun e W' => SomeIs true W e W' := by
  have HT := Lib.hid (fun W' => text_any s W' hs)
  have HAw := Lib.hid (fun W' h => awake_any W' h)
  have HS := Lib.hid hS
  have hl' := text_list s l hl
  have hs' : (s.extract 0 (min s.size 30)).size ≤ 9223372036854775807 := by rw [text_size]; omega
  have ho' : outB (l.take 30) = false := by rw [take_out]; exact ho
  have H1 := Lib.hid (fun W' hS' => tile_bad _ _ W' hl' hs' ho' hS')
  have H2 := Lib.hid (fun W' hS' => factor_bad _ _ W' hl' hs' ho' hS')
  have H3 := Lib.hid (fun W' hS' => factors_bad _ _ W' hl' hs' ho' hS')
  clear hS ho ho' hl hl' hs'
  unfold zA4 at H2
  generalize s.extract 0 (min s.size 30) = t at HT H1 H2 H3
  go_enter Tryd.func5, Tryd.ntmps5
  go_wp2_with fail
  refine (HT.out _).mono ?_
  rintro e w1 ⟨rfl, rfl⟩
  go_wp2_with fail
  refine (H1.out _ HS.out).mono ?_
  rintro e w2 ⟨rfl, hb⟩
  have HBa := Lib.hid hb
  clear hb
  go_wp2_with fail
  refine (HT.out _).mono ?_
  rintro e w3 ⟨rfl, rfl⟩
  go_wp2_with fail
  refine (H2.out _ (HS.out.keep HBa.out)).mono ?_
  rintro e w4 ⟨rfl, hb⟩
  have HBb := Lib.hid (band HBa.out hb)
  clear hb
  go_wp2_with fail
  refine (HT.out _).mono ?_
  rintro e w5 ⟨rfl, rfl⟩
  go_wp2_with fail
  refine (H3.out _ (HS.out.keep (HBb.out.alloc HBb.out.size _))).mono ?_
  rintro e w6 ⟨rfl, hb⟩
  have HBc := Lib.hid (band (HBb.out.alloc HBb.out.size _) hb)
  clear hb
  go_wp2_with fail
  refine (HAw.out _ (HS.out.keep HBc.out)).mono ?_
  rintro e w7 ⟨rfl, hb⟩
  have HBd := Lib.hid (band HBc.out hb)
  clear hb
  go_wp2
  go_ret
  exact ⟨rfl, HBd.out⟩

set_option maxHeartbeats 8000000 in
set_option maxRecDepth 100000 in
theorem either_none (W : World) (s : ByteArray) (l : List UInt8) (hl : s.data.toList = l) (ho : outB l = true) (hS : StepsAt W) (hf : facL s = []) :
    Calls Tryd.prog 5 #[.string s] W fun e W' => SomeIs true W e W' := by
  have hs : s.size ≤ 24 := by have := (wordB_iff.1 (outB_iff.1 ho).1).1; rw [← hl] at this; exact this
  have HT := Lib.hid (fun W' => text_any s W' (by omega))
  rw [text_id s (by omega)] at HT
  have HAw := Lib.hid (fun W' h => awake_any W' h)
  have HS := Lib.hid hS
  have H1 := Lib.hid (fun W' hS' => tile_good s l W' hl ho hS')
  have H2 : Hid (∀ W', StepsAt W' → Calls Tryd.prog 17 #[.string s] W' fun e w' => e = .returned (.tuple #[.agg #[.int .i64 0, .int .i64 0, .int .i64 0, .int .i64 0], .int .i64 4]) ∧ Below W'.heap.size W' w') :=
    fun W' hS' => (factor_good s l W' hl ho hS').mono fun e w' ⟨h1, h2⟩ => by
      rcases h1 with ⟨_, h⟩ | ⟨x, r, h, _⟩
      · exact ⟨h, h2⟩
      · rw [hf] at h; cases h
  have H3 := Lib.hid (fun W' hS' => factors_good s l W' hl ho hS')
  rw [hf] at H1 H3
  have HI := Lib.hid (fun W' => ris_any s l W' hl (by omega))
  rw [ho] at HI
  clear hS ho hl hf
  go_enter Tryd.func5, Tryd.ntmps5
  go_wp2_with fail
  refine (HT.out _).mono ?_
  rintro e w1 ⟨rfl, rfl⟩
  go_wp2_with fail
  refine (H1.out _ HS.out).mono ?_
  rintro e w2 ⟨rfl, hb⟩
  have HBa := Lib.hid hb
  clear hb
  go_wp2_with fail
  refine (HT.out _).mono ?_
  rintro e w3 ⟨rfl, rfl⟩
  go_wp2_with fail
  refine (H2.out _ (HS.out.keep HBa.out)).mono ?_
  rintro e w4 ⟨rfl, hb⟩
  have HBb := Lib.hid (band HBa.out hb)
  clear hb
  go_wp2_with fail
  refine (HT.out _).mono ?_
  rintro e w5 ⟨rfl, rfl⟩
  go_wp2_with fail
  refine (H3.out _ (HS.out.keep (HBb.out.alloc HBb.out.size _))).mono ?_
  rintro e w6 ⟨rfl, hb⟩
  have HBc := Lib.hid (band (HBb.out.alloc HBb.out.size _) hb)
  clear hb
  go_wp2_with fail
  refine (HI.out _).mono ?_
  rintro e w7 ⟨rfl, hb⟩
  have HBd := Lib.hid (band HBc.out hb)
  clear hb
  go_wp2_with fail
  refine (HAw.out _ (HS.out.keep HBd.out)).mono ?_
  rintro e w8 ⟨rfl, hb⟩
  have HBe := Lib.hid (band HBd.out hb)
  clear hb
  go_wp2
  go_ret
  exact ⟨rfl, HBe.out⟩

set_option maxHeartbeats 8000000 in
set_option maxRecDepth 100000 in
theorem either_some (W : World) (s : ByteArray) (l : List UInt8) (hl : s.data.toList = l) (ho : outB l = true) (hS : StepsAt W) (x : Fa) (r : List Fa) (hf : facL s = x :: r) :
    Calls Tryd.prog 5 #[.string s] W fun e W' => SomeIs true W e W' := by
  have hs : s.size ≤ 24 := by have := (wordB_iff.1 (outB_iff.1 ho).1).1; rw [← hl] at this; exact this
  have HT := Lib.hid (fun W' => text_any s W' (by omega))
  rw [text_id s (by omega)] at HT
  have HAw := Lib.hid (fun W' h => awake_any W' h)
  have HS := Lib.hid hS
  have heven : s.size = 2 * (s.size / 2) := by
    have := out_even ho
    rw [← hl] at this
    exact this
  obtain ⟨x1, x2, x3, x4, x5⟩ := facL_mem (s := s) (x := x) (by rw [hf]; exact List.mem_cons_self ..)
  have H1 := Lib.hid (fun W' hS' => tile_good s l W' hl ho hS')
  have H2 : Hid (∀ W', StepsAt W' → Calls Tryd.prog 17 #[.string s] W' fun e w' => e = .returned (.tuple #[.agg #[.int .i64 x.k, .int .i64 x.a, .int .i64 x.b, .int .i64 (((s.size / 2 : Nat) : Int) - x.a - x.b)], .int .i64 0]) ∧ Below W'.heap.size W' w') :=
    fun W' hS' => (factor_good s l W' hl ho hS').mono fun e w' ⟨h1, h2⟩ => by
      rcases h1 with ⟨h, _⟩ | ⟨y, r', h, he⟩
      · rw [hf] at h; cases h
      · rw [hf] at h
        injection h with h' _
        subst h'
        exact ⟨he, h2⟩
  have H3 := Lib.hid (fun W' hS' => factors_good s l W' hl ho hS')
  have H4 := Lib.hid (fun W' => isf_r s l x.k x.a x.b (s.size / 2) W' hl (outB_iff.1 ho).1 heven x1 x2 x3 x4 x5)
  obtain ⟨n, hn⟩ : ∃ n, (facL s).length = n := ⟨_, rfl⟩
  have hn1 : 1 ≤ n := by rw [← hn, hf]; simp
  rw [hn] at H3
  rw [hf] at H1
  have HI := Lib.hid (fun W' => ris_any s l W' hl (by omega))
  rw [ho] at HI
  have hn2 : (1 : Int) ≤ n := by omega
  have hn3 : ¬ (n : Int) < 1 := by omega
  obtain ⟨c, hc⟩ : ∃ c : Int, ((s.size / 2 : Nat) : Int) - x.a - x.b = c := ⟨_, rfl⟩
  obtain ⟨k, hk⟩ : ∃ k, x.k = k := ⟨_, rfl⟩
  obtain ⟨a, ha⟩ : ∃ a, x.a = a := ⟨_, rfl⟩
  obtain ⟨b, hb⟩ : ∃ b, x.b = b := ⟨_, rfl⟩
  rw [hc] at H2 H4
  rw [hk, ha, hb] at H2 H4
  clear hS ho hl hf heven x1 x2 x3 x4 x5 hn hc hk ha hb hn1
  go_enter Tryd.func5, Tryd.ntmps5
  go_wp2_with fail
  refine (HT.out _).mono ?_
  rintro e w1 ⟨rfl, rfl⟩
  go_wp2_with fail
  refine (H1.out _ HS.out).mono ?_
  rintro e w2 ⟨rfl, hb⟩
  have HBa := Lib.hid hb
  clear hb
  go_wp2_with fail
  refine (HT.out _).mono ?_
  rintro e w3 ⟨rfl, rfl⟩
  go_wp2_with fail
  refine (H2.out _ (HS.out.keep HBa.out)).mono ?_
  rintro e w4 ⟨rfl, hb⟩
  have HBb := Lib.hid (band HBa.out hb)
  clear hb
  go_wp2_with fail
  refine (HT.out _).mono ?_
  rintro e w5 ⟨rfl, rfl⟩
  go_wp2_with fail
  refine (H3.out _ (HS.out.keep (HBb.out.alloc HBb.out.size _))).mono ?_
  rintro e w6 ⟨rfl, hb⟩
  have hx := (hb.block w4.heap.size (by simp)).trans (heap_alloc_new w4 _)
  have HX := Lib.hid hx
  have HBc := Lib.hid (band (HBb.out.alloc HBb.out.size _) hb)
  clear hb hx
  go_wp2_with fail
  refine (HI.out _).mono ?_
  rintro e w7 ⟨rfl, hb⟩
  have HBd := Lib.hid (band HBc.out hb)
  have hx := (hb.block w4.heap.size (Array.getElem?_eq_some_iff.1 HX.out).1).trans HX.out
  have q0 := block_cell hx 0
  have q1 := block_cell hx 1
  have q2 := block_cell hx 2
  have q3 := block_cell hx 3
  clear hb hx
  go_wp2_with fail
  refine (H4.out _).mono ?_
  rintro e w8 ⟨rfl, hb⟩
  have HBe := Lib.hid (band HBd.out hb)
  clear hb q0 q1 q2 q3
  go_wp2_with fail
  refine (HAw.out _ (HS.out.keep HBe.out)).mono ?_
  rintro e w9 ⟨rfl, hb⟩
  have HBf := Lib.hid (band HBe.out hb)
  clear hb
  go_wp2
  go_ret
  exact ⟨rfl, HBf.out⟩

theorem either_core (W : World) (s : ByteArray) (hs : s.size ≤ 9223372036854775807) (hS : StepsAt W) :
    Calls Tryd.prog 5 #[.string s] W fun e W' => SomeIs true W e W' := by
  cases ho : outB s.data.toList
  · exact either_bad W s _ rfl hs ho hS
  · cases hf : facL s with
    | nil => exact either_none W s _ rfl ho hS hf
    | cons x r => exact either_some W s _ rfl ho hS x r hf
end Go.Proofs.YtfommfgokpiieacDoor
