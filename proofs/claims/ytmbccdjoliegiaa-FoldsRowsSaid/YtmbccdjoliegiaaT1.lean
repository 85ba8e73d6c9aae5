import Derived.Test.YtmbccdjoliegiaaR5
import Derived.BigRegion
import Derived.RegionTactic
namespace Go.Proofs.Ytmbccdjoliegiaa
open Go.RowKit

/-- A row that may have room behind it. -/
def RowAt (w : World) (B n : Nat) (s : Nat → Int) : Prop := ∃ cs, w.heap[B]? = some (.cells cs 3) ∧ n ≤ cs.size ∧ ∀ j, j < n → cs[j]? = some (.int .i64 (s j))
theorem RowAt.cell {w : World} {B n j : Nat} {s : Nat → Int} (h : RowAt w B n s) (hj : j < n) : w.cell? ⟨B, j, none⟩ = some (.int .i64 (s j)) ∧ w.frozen? ⟨B, j, none⟩ = false := by
  obtain ⟨cs, h1, h2, h3⟩ := h
  exact ⟨by rw [block_cell h1]; exact h3 j hj, block_free h1 _⟩
theorem RowAt.set {w : World} {B n j : Nat} {s : Nat → Int} {v : Int} (h : RowAt w B n s) (hj : j < n) : RowAt (w.setCell ⟨B, j, none⟩ (.int .i64 v)) B n (fun i => if i = j then v else s i) := by
  obtain ⟨cs, h1, h2, h3⟩ := h
  refine ⟨cs.setIfInBounds j (.int .i64 v), heap_setCell_same _ _ j _ _ _ h1, by simpa using h2, fun i hi => ?_⟩
  by_cases e : i = j
  · subst e; rw [Array.getElem?_setIfInBounds, if_pos rfl, if_pos (by omega)]; simp
  · simp only [e, if_false]
    rw [Array.getElem?_setIfInBounds, if_neg (fun h => e h.symm)]
    exact h3 i hi
theorem RowAt.congr {w : World} {B n : Nat} {s t : Nat → Int} (h : RowAt w B n s) (e : ∀ j, j < n → s j = t j) : RowAt w B n t := by
  obtain ⟨cs, h1, h2, h3⟩ := h
  exact ⟨cs, h1, h2, fun j hj => by rw [h3 j hj, e j hj]⟩
theorem RowAt.drew {w : World} {B n : Nat} {s : Nat → Int} (h : RowAt w B n s) : RowAt w.drew B n s := h
theorem RowAt.ints {w : World} {B n : Nat} {s : Nat → Int} (h : RowAt w B n s) : Ints w (some ⟨B, 0, none⟩) n s := fun j hj => ⟨B, 0, rfl, by rw [Nat.zero_add]; exact (h.cell hj).1⟩
theorem Own.row {w : World} {base n cap : Nat} {a : Option Addr} {z : Nat → Int} (h : Own w base a n cap z) (hn : 1 ≤ n) : ∃ g, a = some ⟨g, 0, none⟩ ∧ base ≤ g ∧ RowAt w g n z := by
  rcases h.2 with ⟨h1, h0⟩ | ⟨g, cap', cur, he, hb, hg, h1, h2, h3, h4⟩
  · omega
  · cases he
    refine ⟨g, rfl, hb, cur, hg, by omega, fun j hj => ?_⟩
    have hc := World.ownsRow.cells h (g := g) rfl j (.int .i64 (z j)) (by simp [hj])
    rw [add_at, Nat.zero_add, block_cell hg] at hc
    exact hc

/-- k exchanges from both ends. -/
def revN (n : Nat) (z : Nat → Int) (k x : Nat) : Int := if x < k ∨ n - 1 - k < x then z (n - 1 - x) else z x

set_option maxHeartbeats 2000000 in
set_option maxRecDepth 100000 in
theorem reverse_any (g cap n : Nat) (z : Nat → Int) (w : World) (hn : n ≤ 100) (h1 : 1 ≤ n) (hr : RowAt w g n z) :
    Calls Try.prog 65 #[.slice (some ⟨g, 0, none⟩) n cap] w fun e w' => e = .returned (.tuple #[]) ∧ RowAt w' g n (fun x => z (n - 1 - x)) ∧ Below g w w' := by
  have HR := Lib.hid hr
  clear hr
  go_enter Try.func65, Try.ntmps65
  go_wp2
  go_loopw [2, 3] (fun i j wr => ∃ k : Nat, 2 * k ≤ n ∧ i = .int .i64 k ∧ j = .int .i64 ((n : Int) - 1 - k) ∧ RowAt wr g n (revN n z k) ∧ Below g w wr) (fun i _ _ => n - (intOf i).toNat)
  case atStart => exact ⟨0, by omega, rfl, by simp, HR.out.congr (fun j hj => by unfold revN; rw [if_neg (by omega)]), Below.refl _ _⟩
  case round =>
    obtain ⟨k, hk, rfl, rfl, hR, hb⟩ := hrel
    by_cases hlt : k < n - 1 - k
    · obtain ⟨m, hm⟩ : ∃ m : Nat, m = n - 1 - k := ⟨_, rfl⟩
      have em : (n : Int) - 1 - k = m := by omega
      obtain ⟨c1, f1⟩ := hR.cell (show k < n by omega)
      obtain ⟨c2, f2⟩ := hR.cell (show m < n by omega)
      have hkm : k < m := by omega
      have hmn : m < n := by omega
      have hkm' : (k : Int) < m := by omega
      have hmn' : (m : Int) < n := by omega
      have hkn' : (k : Int) < n := by omega
      have hne : k ≠ m := by omega
      have e1 : revN n z k k = z k := by unfold revN; rw [if_neg (by omega)]
      have e2 : revN n z k m = z m := by unfold revN; rw [if_neg (by omega)]
      rw [e1] at c1
      rw [e2] at c2
      have HRR : Hid (∀ wr', RowAt wr' g n (revN n z k) → RowAt ((wr'.setCell ⟨g, k, none⟩ (.int .i64 (z m))).setCell ⟨g, m, none⟩ (.int .i64 (z k))) g n (revN n z (k + 1))) := fun wr' h => by
        refine ((h.set (j := k) (v := z m) (by omega)).set (j := m) (v := z k) hmn).congr fun x hx => ?_
        unfold revN
        by_cases ea : x = m
        · rw [if_pos ea, if_pos (by omega)]; congr 1; omega
        · rw [if_neg ea]
          by_cases eb : x = k
          · rw [if_pos eb, if_pos (by omega)]; congr 1; omega
          · rw [if_neg eb]
            by_cases ec : x < k ∨ n - 1 - k < x
            · rw [if_pos ec, if_pos (by omega)]
            · rw [if_neg ec, if_neg (by omega)]
      have HRW := Lib.hid hR
      have HB := Lib.hid hb
      have Em := Lib.hid em
      have Hm := Lib.hid hm
      rw [em]
      clear e1 e2 hR hb em hm
      go_wp2
      go_region
      all_goals go_wp2
      all_goals refine ⟨⟨k + 1, by have := Hm.out; omega, by go_num, congrArg (Value.int .i64) (by have := Em.out; omega), HRR.out _ HRW.out, ((HB.out.setCell (Nat.le_refl _) _).setCell (Nat.le_refl _) _).drew⟩, by simp [intOf]; omega⟩
    · have hle : n - 1 - k ≤ k := by omega
      have hi : ¬ ((k : Int) < (n : Int) - 1 - k) := by omega
      have HF : Hid (RowAt wr g n (fun x => z (n - 1 - x))) := hR.congr fun x hx => by
        unfold revN
        by_cases ec : x < k ∨ n - 1 - k < x
        · rw [if_pos ec]
        · rw [if_neg ec]; congr 1; omega
      clear hR
      go_wp2
      go_end0
      exact ⟨rfl, HF.out, hb⟩

theorem turn_bad (a : Option Addr) (cap n : Nat) (z : Nat → Int) (w : World) (hP : isP n z = false) (hs : n ≤ 140737488351232) (hc : Ints w a n z) :
    Calls Try.prog 37 #[.slice a n cap] w fun e w' => e = .returned (.tuple #[.slice none 0 0, .int .i64 2]) ∧ Below w.heap.size w w' := by
  have HP := Lib.hid hP
  clear hP
  go_enter Try.func37, Try.ntmps37
  go_wp2_with (go_at_call 48; refine (isPileOf_r false _ _ _ _ _ HP.out hs hc).mono ?_; rintro e w' ⟨rfl, rfl⟩)
  go_ret2
  exact ⟨rfl, Below.refl _ _⟩

/-- A pile upside down. -/
def upN (n : Nat) (z : Nat → Int) (x : Nat) : Int := z (n - 1 - x)
/-- The pile of the strip from its other end. -/
def backN (n : Nat) (z : Nat → Int) (x : Nat) : Int := (n : Int) - 1 - z x

set_option maxHeartbeats 2000000 in
theorem turn_good (a : Option Addr) (cap n : Nat) (z : Nat → Int) (w : World) (hP : isP n z = true) (hc : Ints w a n z) :
    Calls Try.prog 37 #[.slice a n cap] w fun e w' => ∃ g c, e = .returned (.tuple #[.slice (some ⟨g, 0, none⟩) n c, .int .i64 0]) ∧ n ≤ c ∧ c ≤ maxLen ∧ w.heap.size ≤ g ∧ RowAt w' g n (upN n z) ∧ Below w.heap.size w w' := by
  have hp := isP_iff.1 hP
  have h1 := hp.1
  have h7 := hp.2.1
  have HP := Lib.hid hP
  have Hcl := Lib.hid (clone_any a cap n z w (by omega) hc)
  clear hp hP
  go_enter Try.func37, Try.ntmps37
  go_wp2_with (go_at_call 48; refine (isPileOf_r true _ _ _ _ _ HP.out (by omega) hc).mono ?_; rintro e w' ⟨rfl, rfl⟩; clear hc)
  refine Hcl.out.mono ?_
  rintro e w2 ⟨a1, c1, rfl, hO, hb⟩
  obtain ⟨g, rfl, hg, hR⟩ := hO.row h1
  have Hrv := Lib.hid (reverse_any g c1 n z w2 (by omega) h1 hR)
  have HB := Lib.hid hb
  have HC := Lib.hid hO.cap
  have HG := Lib.hid hg
  clear hO hb hR Hcl
  go_wp2_with fail
  refine Hrv.out.mono ?_
  rintro e w3 ⟨rfl, hR3, hb3⟩
  have HF : Hid (RowAt w3 g n (upN n z) ∧ Below w.heap.size w w3) := ⟨hR3, HB.out.trans (hb3.mono HG.out)⟩
  clear hR3 hb3
  go_wp2
  go_ret2
  exact ⟨g, c1, rfl, HC.out.1, HC.out.2, HG.out, HF.out.1, HF.out.2⟩

theorem back_bad (a : Option Addr) (cap n : Nat) (z : Nat → Int) (w : World) (hP : isP n z = false) (hs : n ≤ 140737488351232) (hc : Ints w a n z) :
    Calls Try.prog 38 #[.slice a n cap] w fun e w' => e = .returned (.tuple #[.slice none 0 0, .int .i64 2]) ∧ Below w.heap.size w w' := by
  have HP := Lib.hid hP
  clear hP
  go_enter Try.func38, Try.ntmps38
  go_wp2_with (go_at_call 48; refine (isPileOf_r false _ _ _ _ _ HP.out hs hc).mono ?_; rintro e w' ⟨rfl, rfl⟩)
  go_ret2
  exact ⟨rfl, Below.refl _ _⟩

theorem Own.snoc {w w1 : World} {base n cap : Nat} {a : Option Addr} {z : Nat → Int} {v' : Value} {x : Int} (_ : Own w base a n cap z)
    (ht : w1.ownsRow base 3 1 v' (n + 1) (((List.range n).map fun j => .int .i64 (z j)) ++ [.int .i64 x])) (hx : x = z n) :
    ∃ a' cap', v' = .slice a' (n + 1) cap' ∧ Own w1 base a' (n + 1) cap' z := by
  refine own_mk ?_
  rw [List.range_succ, List.map_append]
  simp only [List.map_cons, List.map_nil]
  rw [← hx]; exact ht

set_option maxHeartbeats 2000000 in
set_option maxRecDepth 100000 in
theorem back_good (a : Option Addr) (cap n : Nat) (z : Nat → Int) (w : World) (hP : isP n z = true) (hc : Ints w a n z) :
    Calls Try.prog 38 #[.slice a n cap] w fun e w' => ∃ a' c, e = .returned (.tuple #[.slice a' n c, .int .i64 0]) ∧ Own w' w.heap.size a' n c (backN n z) ∧ Below w.heap.size w w' := by
  have hp := isP_iff.1 hP
  have h1 := hp.1
  have h7 := hp.2.1
  have HP := Lib.hid hP
  have HC := Lib.hid hc
  have HG := Lib.hid (all_good (n := n) (z := z) (by omega) hp.2.2)
  clear hp hP
  go_enter Try.func38, Try.ntmps38
  go_wp2_with (go_at_call 48; refine (isPileOf_r true _ _ _ _ _ HP.out (by omega) hc).mono ?_; rintro e w' ⟨rfl, rfl⟩; clear hc)
  go_loopw [4, 12] (fun v i wr => ∃ k : Nat, k ≤ n ∧ i = .int .i64 k ∧ (∃ a' cap', v = .slice a' k cap' ∧ Own wr w.heap.size a' k cap' (backN n z)) ∧ Below w.heap.size w wr) (fun _ i _ => n - (intOf i).toNat)
  case atStart => exact ⟨0, Nat.zero_le _, rfl, ⟨none, 0, rfl, World.ownsRow_nil _ _ _ _⟩, Below.refl _ _⟩
  case round =>
    obtain ⟨k, hk, rfl, ⟨a', cap', rfl, hO⟩, hb⟩ := hrel
    have HO := Lib.hid hO
    have HB := Lib.hid hb
    have hBs := hb.size
    clear hO hb
    by_cases hlt : k < n
    · obtain ⟨b, o, rfl, hck⟩ := (HC.out.keep (Nat.le_refl _) HB.out) k hlt
      have hg := HG.out k hlt
      have g1 := hg.1
      have g2 := hg.2.1
      have E : Hid ((n : Int) - 1 - z k = backN n z k) := rfl
      clear hg
      obtain ⟨i0, hi, hz0, hz1, hz2⟩ := info_parts Try.info3
      go_wp2_with (at_builtin; refine wpList_append_own _ rfl _ _ 22 rfl w.heap.size 3 i0 (.int .i64 0) 1 8 Try.underlying22 hi hz0 hz1 hz2 rfl (by decide) _ _ _ rfl (HO.out.alloc _) ⟨wr.heap.size, 0, none⟩ 1 1 [.int .i64 ((n : Int) - 1 - z k)] rfl rfl (one_new _ _ _) (one_ok _ rfl) (by unfold maxLen; omega) (by omega) (by simp; omega) ?_)
      intro v' w2 hown hgrow _
      have hB' : Below w.heap.size w w2 := (HB.out.alloc (by omega) _).grown hgrow (by simp; omega) (fun k hk => (World.ownsRow.lt HO.out k hk).1)
      obtain ⟨a2, cap2, rfl, hO2⟩ := Own.snoc HO.out hown E.out
      have HO2 := Lib.hid hO2
      have HB2 := Lib.hid hB'
      clear hown hgrow hO2 hB'
      go_wp2
      go_roundw
      case rel => exact ⟨k + 1, by omega, by go_num, ⟨_, _, rfl, HO2.out⟩, HB2.out⟩
      case measure => simp [intOf]; omega
    · have e : k = n := by omega
      subst e
      go_wp2
      go_ret2
      exact ⟨_, _, rfl, HO.out, HB.out⟩

set_option maxHeartbeats 2000000 in
set_option maxRecDepth 100000 in
theorem rback_any (a : Option Addr) (cap n : Nat) (z : Nat → Int) (w : World) (hn : n ≤ 100) (hg : goodP n z n) (hc : Ints w a n z) :
    Calls Try.prog 40 #[.slice a n cap] w fun e w' => ∃ a' c, e = .returned (.slice a' n c) ∧ Own w' w.heap.size a' n c (backN n z) ∧ Below w.heap.size w w' := by
  have HC := Lib.hid hc
  have HG := Lib.hid hg
  clear hg hc
  go_enter Try.func40, Try.ntmps40
  go_wp2
  go_loopw [3, 8] (fun v i wr => ∃ k : Nat, k ≤ n ∧ i = .int .i64 k ∧ (∃ a' cap', v = .slice a' k cap' ∧ Own wr w.heap.size a' k cap' (backN n z)) ∧ Below w.heap.size w wr) (fun _ i _ => n - (intOf i).toNat)
  case atStart => exact ⟨0, Nat.zero_le _, rfl, ⟨none, 0, rfl, World.ownsRow_nil _ _ _ _⟩, Below.refl _ _⟩
  case round =>
    obtain ⟨k, hk, rfl, ⟨a', cap', rfl, hO⟩, hb⟩ := hrel
    have HO := Lib.hid hO
    have HB := Lib.hid hb
    have hBs := hb.size
    clear hO hb
    by_cases hlt : k < n
    · obtain ⟨b, o, rfl, hck⟩ := (HC.out.keep (Nat.le_refl _) HB.out) k hlt
      have hg := HG.out k hlt
      have g1 := hg.1
      have g2 := hg.2.1
      have E : Hid ((n : Int) - 1 - z k = backN n z k) := rfl
      clear hg
      obtain ⟨i0, hi, hz0, hz1, hz2⟩ := info_parts Try.info3
      go_wp2_with (at_builtin; refine wpList_append_own _ rfl _ _ 22 rfl w.heap.size 3 i0 (.int .i64 0) 1 8 Try.underlying22 hi hz0 hz1 hz2 rfl (by decide) _ _ _ rfl (HO.out.alloc _) ⟨wr.heap.size, 0, none⟩ 1 1 [.int .i64 ((n : Int) - 1 - z k)] rfl rfl (one_new _ _ _) (one_ok _ rfl) (by unfold maxLen; omega) (by omega) (by simp; omega) ?_)
      intro v' w2 hown hgrow _
      have hB' : Below w.heap.size w w2 := (HB.out.alloc (by omega) _).grown hgrow (by simp; omega) (fun k hk => (World.ownsRow.lt HO.out k hk).1)
      obtain ⟨a2, cap2, rfl, hO2⟩ := Own.snoc HO.out hown E.out
      have HO2 := Lib.hid hO2
      have HB2 := Lib.hid hB'
      clear hown hgrow hO2 hB'
      go_wp2
      go_roundw
      case rel => exact ⟨k + 1, by omega, by go_num, ⟨_, _, rfl, HO2.out⟩, HB2.out⟩
      case measure => simp [intOf]; omega
    · have e : k = n := by omega
      subst e
      go_wp2
      go_ret
      exact ⟨_, _, rfl, HO.out, HB.out⟩

set_option maxHeartbeats 2000000 in
set_option maxRecDepth 100000 in
theorem rturn_any (a : Option Addr) (cap n : Nat) (z : Nat → Int) (w : World) (hn : n ≤ 100) (hc : Ints w a n z) :
    Calls Try.prog 39 #[.slice a n cap] w fun e w' => ∃ a' c, e = .returned (.slice a' n c) ∧ Own w' w.heap.size a' n c (upN n z) ∧ Below w.heap.size w w' := by
  have HC := Lib.hid hc
  clear hc
  go_enter Try.func39, Try.ntmps39
  go_wp2
  go_loopw [3, 4] (fun v i wr => ∃ k : Nat, k ≤ n ∧ i = .int .i64 ((n : Int) - 1 - k) ∧ (∃ a' cap', v = .slice a' k cap' ∧ Own wr w.heap.size a' k cap' (upN n z)) ∧ Below w.heap.size w wr) (fun _ i _ => (intOf i + 1).toNat)
  case atStart => exact ⟨0, Nat.zero_le _, by simp, ⟨none, 0, rfl, World.ownsRow_nil _ _ _ _⟩, Below.refl _ _⟩
  case round =>
    obtain ⟨k, hk, rfl, ⟨a', cap', rfl, hO⟩, hb⟩ := hrel
    have HO := Lib.hid hO
    have HB := Lib.hid hb
    have hBs := hb.size
    clear hO hb
    by_cases hlt : k < n
    · obtain ⟨m, hm⟩ : ∃ m : Nat, m = n - 1 - k := ⟨_, rfl⟩
      have em : (n : Int) - 1 - k = m := by omega
      have hmn : m < n := by omega
      obtain ⟨b, o, rfl, hck⟩ := (HC.out.keep (Nat.le_refl _) HB.out) m hmn
      have E : Hid (z m = upN n z k) := by rw [Hid, upN, ← hm]
      have Em := Lib.hid em
      have Hm := Lib.hid hm
      rw [em]
      clear em hm
      obtain ⟨i0, hi, hz0, hz1, hz2⟩ := info_parts Try.info3
      go_wp2_with (at_builtin; refine wpList_append_own _ rfl _ _ 22 rfl w.heap.size 3 i0 (.int .i64 0) 1 8 Try.underlying22 hi hz0 hz1 hz2 rfl (by decide) _ _ _ rfl (HO.out.alloc _) ⟨wr.heap.size, 0, none⟩ 1 1 [.int .i64 (z m)] rfl rfl (one_new _ _ _) (one_ok _ rfl) (by unfold maxLen; omega) (by omega) (by simp; omega) ?_)
      intro v' w2 hown hgrow _
      have hB' : Below w.heap.size w w2 := (HB.out.alloc (by omega) _).grown hgrow (by simp; omega) (fun k hk => (World.ownsRow.lt HO.out k hk).1)
      obtain ⟨a2, cap2, rfl, hO2⟩ := Own.snoc HO.out hown E.out
      have HO2 := Lib.hid hO2
      have HB2 := Lib.hid hB'
      clear hown hgrow hO2 hB'
      go_wp2
      go_roundw
      case rel => exact ⟨k + 1, by omega, congrArg (Value.int .i64) (by have := Em.out; omega), ⟨_, _, rfl, HO2.out⟩, HB2.out⟩
      case measure => simp [intOf]
    · have e : k = n := by omega
      have hi : ¬ ((0 : Int) ≤ (n : Int) - 1 - k) := by omega
      have HO' : Hid (Own wr w.heap.size a' n cap' (upN n z)) := by rw [Hid]; rw [e] at HO; exact HO.out
      have hi2 : (n : Int) - 1 - k < 0 := by omega
      subst e
      go_wp2
      go_ret
      exact ⟨_, _, rfl, HO'.out, HB.out⟩

end Go.Proofs.Ytmbccdjoliegiaa
