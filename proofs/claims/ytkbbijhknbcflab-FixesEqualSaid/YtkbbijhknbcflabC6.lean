import Derived.Test.YtkbbijhknbcflabC5
import Derived.Maps.AppendAt
/-
  distinct, Classes.
-/
namespace Go.Proofs.Ytkbbijhknbcflab
open Go.RowKit

set_option maxHeartbeats 1000000 in
set_option maxRecDepth 100000 in
theorem distinct_any (aN : Option Addr) (cN : Nat) (aM : Option Addr) (cM : Nat) (n : Nat) (nx mk : Nat → Nat) (r : Nat) (w : World) (h1 : 1 ≤ n) (hWk : Wk w aN n aM nx mk) (hr1 : 1 ≤ r) (hr400 : r ≤ 400) (hst : Stays n nx mk r) (hno : ∀ j, j < r → ¬ Stays n nx mk j) :
    Calls Try.prog 24 #[.agg #[.slice aN n cN, .slice aM n cM]] w fun e w' => ∃ a cap, e = .returned (.slice a (dst (rnd n nx mk r) n).length cap) ∧ Own w' w.heap.size a (dst (rnd n nx mk r) n).length cap (nv (dst (rnd n nx mk r) n)) ∧ Below w.heap.size w w' := by
  have hb1 := below_two w (.cells #[.slice aN n cN, .slice aM n cM] 33) (.cells #[] 3)
  have hx1 : ((w.alloc (.cells #[.slice aN n cN, .slice aM n cM] 33)).alloc (.cells #[] 3)).heap[w.heap.size]? = some (.cells #[.slice aN n cN, .slice aM n cM] 33) := heap_two1 w _ _
  have q0 := block_cell hx1 0
  have q1 := block_cell hx1 1
  have HC := Lib.hid (classes_any aN cN aM cM n nx mk r ((w.alloc (.cells #[.slice aN n cN, .slice aM n cM] 33)).alloc (.cells #[] 3)) h1 (hWk.keep (Nat.le_refl _) hb1) hr1 hr400 hst hno)
  have HB := Lib.hid hb1
  have hn6 := hWk.n6
  have HO0 : Hid (((w.alloc (.cells #[.slice aN n cN, .slice aM n cM] 33)).alloc (.cells #[] 3)).ownsRow w.heap.size 3 1 (.slice (some ⟨w.heap.size + 1, 0, none⟩) 0 0) 0 []) := by
    have h := World.ownsRow_made (base := w.heap.size) (e := 3) (size := 1) (w.alloc (.cells #[.slice aN n cN, .slice aM n cM] 33)) #[] 0 (by simp) (Nat.zero_le _) rfl
    unfold Hid
    simpa using h
  obtain ⟨i0, hi, hz0, hz1, hz2⟩ := info_parts Try.info3
  clear hWk hst hno hb1 hx1
  generalize rnd n nx mk r = c at *
  go_enter Try.func24, Try.ntmps24
  go_wp2_with fail
  refine (HC.out).mono ?_
  rintro e w1 ⟨a, cap, rfl, hI, hcap, hlo, hb⟩
  obtain ⟨g, o, rfl, _⟩ := hI 0 (by omega)
  have hg : w.heap.size + 2 ≤ g := by
    have := hlo _ rfl
    simpa using this
  have HI0 : Hid (∀ j, j < n → w1.cell? ⟨g, o + j, none⟩ = some (.int .i64 (c j : Nat))) := by
    intro j hj
    obtain ⟨g2, o2, e, h⟩ := hI j hj
    injection e with e; injection e with e1 e2
    subst e1 e2
    exact h
  have HO1 := Lib.hid (ownsRow_below HO0.out hb)
  have HB1 := Lib.hid (band HB.out hb)
  clear hI hlo hb HO0 HB HC q0 q1
  go_wp2
  go_loopw [3, 10] (fun s3 s10 wr => ∃ k : Nat, k ≤ n ∧ s10 = .int .i64 k ∧ wr.ownsRow w.heap.size 3 1 s3 (dst c k).length ((List.range (dst c k).length).map fun j => .int .i64 (nv (dst c k) j)) ∧ s3.ownBlock ≠ some g ∧ (∀ j, j < n → wr.cell? ⟨g, o + j, none⟩ = some (.int .i64 (c j : Nat))) ∧ Below w.heap.size w wr) (fun _ s10 _ => n - (intOf s10).toNat)
  case atStart => exact ⟨0, Nat.zero_le _, rfl, HO1.out, by simp [Value.ownBlock]; omega, HI0.out, HB1.out⟩
  clear HO1 HB1 HI0
  case round =>
    obtain ⟨k, hk, rfl, hO, hne, hI, hB⟩ := hrel
    have HO := Lib.hid hO
    have HI := Lib.hid hI
    have HB := Lib.hid hB
    have HNe := Lib.hid hne
    have hsz := hB.size
    have hln := dst_len c k
    clear hO hI hB hne
    obtain ⟨a3, c3, hs3, hOw⟩ := own_mk HO.out
    by_cases hlt : k < n
    · have hck := HI.out k hlt
      have HCt := Lib.hid (fun r hr => containsI_r r a3 c3 (dst c k).length (nv (dst c k)) (c k : Nat) wr hr (by omega) hOw.ints)
      by_cases hm : c k ∈ dst c k
      · have HD : Hid (dst c (k + 1) = dst c k) := by simp [Hid, dst, hm]
        have HCt := Lib.hid (HCt.out true ((hasI_mem _ _).2 hm))
        subst hs3
        clear hm hOw
        go_wp2_with fail
        refine (HCt.out).mono ?_
        rintro e wq ⟨rfl, rfl⟩
        go_wp2
        go_roundw
        case rel => exact ⟨k + 1, by omega, by go_num, by rw [HD.out]; exact HO.out, HNe.out, HI.out, HB.out⟩
        case measure => simp [intOf]; omega
      · have HD : Hid (dst c (k + 1) = dst c k ++ [c k]) := by simp [Hid, dst, hm]
        have HCt := Lib.hid (HCt.out false (by
          cases h : hasI (dst c k).length (nv (dst c k)) (c k : Nat)
          · rfl
          · exact absurd ((hasI_mem _ _).1 h) hm))
        subst hs3
        clear hm hOw
        go_wp2_with fail
        refine (HCt.out).mono ?_
        rintro e wq ⟨rfl, rfl⟩
        go_wp2_with (at_builtin; refine wpList_append_own_at _ rfl _ _ 22 rfl w.heap.size 3 i0 (.int .i64 0) 1 8 Try.underlying22 hi hz0 hz1 hz2 rfl (by decide) _ _ _ rfl (HO.out.alloc _) ⟨wr.heap.size, 0, none⟩ 1 1 [.int .i64 (c k : Nat)] rfl rfl (one_new _ _ _) (one_ok _ rfl) (by unfold maxLen; omega) (by omega) (by simp; omega) ?_)
        intro v' w4 hown hgrow _ hat
        have HB4 : Hid (Below w.heap.size w w4) := (HB.out.alloc hsz _).grown hgrow (by simp; omega) (fun j hj => (World.ownsRow.lt HO.out j hj).1)
        have hgl : g < wr.heap.size := World.block_lt_of_cell? _ _ (HI.out k hlt)
        have HI4 : Hid (∀ j, j < n → w4.cell? ⟨g, o + j, none⟩ = some (.int .i64 (c j : Nat))) := by
          intro j hj
          refine hgrow.cell ?_ (fun h => HNe.out h.symm)
          rw [(below_one wr _).cell (p := ⟨g, o + j, none⟩) hgl]; exact HI.out j hj
        have HN4 : Hid (v'.ownBlock ≠ some g) := by
          intro h
          rcases hat with h2 | h2
          · exact HNe.out (h2.symm.trans h)
          · rw [h] at h2; injection h2 with h2; first | omega | (simp only [World.alloc, Array.size_push] at h2; omega)
        have HO4 := Lib.hid (nv_snoc hown)
        clear hown hgrow hat
        go_wp2
        go_roundw
        case rel => exact ⟨k + 1, by omega, by go_num, by rw [HD.out]; exact HO4.out, HN4.out, HI4.out, HB4.out⟩
        case measure => simp [intOf]; omega
    · obtain rfl : k = n := by omega
      subst hs3
      have HOw := Lib.hid hOw
      clear hOw
      go_wp2
      go_ret
      exact ⟨a3, c3, rfl, HOw.out, HB.out⟩
end Go.Proofs.Ytkbbijhknbcflab
