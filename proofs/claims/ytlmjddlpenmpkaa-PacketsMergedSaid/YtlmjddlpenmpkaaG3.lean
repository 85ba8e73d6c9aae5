import Derived.Test.YtlmjddlpenmpkaaG2
namespace Go.Proofs.Ytlmjddlpenmpkaa
open Go.RowKit Go.Shelf

theorem rweights_q (r : Bool) (a : Option Addr) (n cap : Nat) (z : Nat → Int) (w : World) (h : isW n z = r) (hn : n ≤ 140737488351232) (hz : Ints w a n z) (q : Nat) :
    Calls Try.prog 31 #[.slice a n cap] (w.drewN q) fun e w' => e = .returned (.bool r) ∧ w' = w.drewN q :=
  (rweights_r r a n cap z (w.drewN q) h hn (hz.keep (Nat.le_refl _) (below_drewN (Below.refl w.heap.size w) q))).mono fun _ _ ⟨h1, h2⟩ => ⟨h1, h2.symm⟩

set_option maxHeartbeats 1000000 in
set_option maxRecDepth 100000 in
theorem rmerged_any (a : Option Addr) (n cap : Nat) (z : Nat → Int) (x y : Int) (w : World) (hn : n ≤ 140737488351232) (hz : Ints w a n z) :
    Calls Try.prog 41 #[.slice a n cap, .int .i64 x, .int .i64 y] w fun e w' => e = .returned (.bool (mgB n z x y)) ∧ Below w.heap.size w w' := by
  cases hw : isW n z
  · have HV := Lib.hid (rweights_q false a n cap z w hw hn hz)
    have HF := Lib.hid (mgB_no (n := n) (z := z) (a := x) (b := y) (fun h => by rw [hw] at h; cases h.1))
    clear hz hw
    go_enter Try.func41, Try.ntmps41
    go_wp2
    go_quiet ((go_at_call 31; with_reducible exact Calls.quiet_of_same (HV.out _)))
    go_wp2
    go_ret
    exact ⟨by rw [HF.out]; rfl, below_drewN (Below.refl w.heap.size w) _⟩
  have HV := Lib.hid (rweights_q true a n cap z w hw hn hz)
  by_cases hx1 : ¬ (0 ≤ x)
  · have HF := Lib.hid (mgB_no (n := n) (z := z) (a := x) (b := y) (fun h => hx1 h.2.1.1))
    have G : decide (0 ≤ x) = false := by simpa using hx1
    clear hz hw hx1
    go_enter Try.func41, Try.ntmps41
    go_wp2
    go_quiet ((go_at_call 31; with_reducible exact Calls.quiet_of_same (HV.out _)))
    go_wp2
    go_ret
    exact ⟨by rw [HF.out]; rfl, below_drewN (Below.refl w.heap.size w) _⟩
  replace hx1 := Decidable.not_not.1 hx1
  have Gx1 : decide (0 ≤ x) = true := by simpa using hx1
  by_cases hx2 : ¬ (x < (n : Int))
  · have HF := Lib.hid (mgB_no (n := n) (z := z) (a := x) (b := y) (fun h => hx2 h.2.1.2))
    have G : decide (x < (n : Int)) = false := by simpa using hx2
    clear hz hw hx2
    go_enter Try.func41, Try.ntmps41
    go_wp2
    go_quiet ((go_at_call 31; with_reducible exact Calls.quiet_of_same (HV.out _)))
    go_wp2
    go_ret
    exact ⟨by rw [HF.out]; rfl, below_drewN (Below.refl w.heap.size w) _⟩
  replace hx2 := Decidable.not_not.1 hx2
  have Gx2 : decide (x < (n : Int)) = true := by simpa using hx2
  by_cases hy1 : ¬ (0 ≤ y)
  · have HF := Lib.hid (mgB_no (n := n) (z := z) (a := x) (b := y) (fun h => hy1 h.2.2.1.1))
    have G : decide (0 ≤ y) = false := by simpa using hy1
    clear hz hw hy1
    go_enter Try.func41, Try.ntmps41
    go_wp2
    go_quiet ((go_at_call 31; with_reducible exact Calls.quiet_of_same (HV.out _)))
    go_wp2
    go_ret
    exact ⟨by rw [HF.out]; rfl, below_drewN (Below.refl w.heap.size w) _⟩
  replace hy1 := Decidable.not_not.1 hy1
  have Gy1 : decide (0 ≤ y) = true := by simpa using hy1
  by_cases hy2 : ¬ (y < (n : Int))
  · have HF := Lib.hid (mgB_no (n := n) (z := z) (a := x) (b := y) (fun h => hy2 h.2.2.1.2))
    have G : decide (y < (n : Int)) = false := by simpa using hy2
    clear hz hw hy2
    go_enter Try.func41, Try.ntmps41
    go_wp2
    go_quiet ((go_at_call 31; with_reducible exact Calls.quiet_of_same (HV.out _)))
    go_wp2
    go_ret
    exact ⟨by rw [HF.out]; rfl, below_drewN (Below.refl w.heap.size w) _⟩
  replace hy2 := Decidable.not_not.1 hy2
  have Gy2 : decide (y < (n : Int)) = true := by simpa using hy2
  by_cases hxy : x = y
  · have HF := Lib.hid (mgB_no (n := n) (z := z) (a := x) (b := y) (fun h => h.2.2.2.1 hxy))
    have K : (x == y) = true := by simpa using hxy
    have K2 : (x != y) = false := by simpa using hxy
    clear hz hw hxy
    go_enter Try.func41, Try.ntmps41
    go_wp2
    go_quiet ((go_at_call 31; with_reducible exact Calls.quiet_of_same (HV.out _)))
    go_wp2
    go_ret
    exact ⟨by rw [HF.out]; rfl, below_drewN (Below.refl w.heap.size w) _⟩
  obtain ⟨i, rfl⟩ : ∃ i : Nat, x = i := ⟨x.toNat, by omega⟩
  obtain ⟨j, rfl⟩ : ∃ j : Nat, y = j := ⟨y.toNat, by omega⟩
  have h9 := (isW_iff.1 hw).2.2
  have hi := h9 i (by omega)
  have hj := h9 j (by omega)
  have u : wrap64 (z i + z j) = z i + z j := IntWalk.wrap64_in _ ⟨by omega, by omega⟩
  obtain ⟨b, o, rfl, c1, c2⟩ := two_cells hz (i := i) (j := j) (by omega) (by omega)
  have K : ((i : Int) != (j : Int)) = true := by simp; omega
  have hin : i < n := by omega
  have hjn : j < n := by omega
  by_cases hs : z i + z j ≤ 9
  · have HF := Lib.hid (mgB_iff (n := n) (z := z) (a := i) (b := j) |>.2 ⟨hw, ⟨hx1, hx2⟩, ⟨hy1, hy2⟩, hxy, by simpa using hs⟩)
    have G : decide (z i + z j ≤ 9) = true := by simpa using hs
    clear hz hw hxy hs h9 hx1 hx2 hy1 hy2
    go_enter Try.func41, Try.ntmps41
    go_wp2
    go_quiet ((go_at_call 31; with_reducible exact Calls.quiet_of_same (HV.out _)))
    go_wp2
    go_ret
    exact ⟨by rw [HF.out]; rfl, below_drewN (Below.refl w.heap.size w) _⟩
  · have HF := Lib.hid (mgB_no (n := n) (z := z) (a := i) (b := j) (fun h => hs (by simpa using h.2.2.2.2)))
    have G : decide (z i + z j ≤ 9) = false := by simpa using hs
    clear hz hw hxy hs h9 hx1 hx2 hy1 hy2
    go_enter Try.func41, Try.ntmps41
    go_wp2
    go_quiet ((go_at_call 31; with_reducible exact Calls.quiet_of_same (HV.out _)))
    go_wp2
    go_ret
    exact ⟨by rw [HF.out]; rfl, below_drewN (Below.refl w.heap.size w) _⟩

/-- How many are left ahead of place k when place j is left out. -/
def cntL (j k : Nat) : Nat := if k ≤ j then k else k - 1
/-- One more place. -/
theorem mg_snoc (z : Nat → Int) (i j k : Nat) (h : ¬ k = j) : cntL j (k + 1) = cntL j k + 1 ∧ mgZ z i j (cntL j k) = (if k = i then z i + z j else z k) := by
  unfold cntL mgZ outZ setZ
  by_cases h1 : k ≤ j
  · have h2 : k < j := by omega
    refine ⟨?_, ?_⟩
    · rw [if_pos (by omega), if_pos h1]
    · simp [h1, h2]
  · refine ⟨?_, ?_⟩
    · rw [if_neg (by omega), if_neg h1]; omega
    · have h3 : ¬ k - 1 < j := by omega
      have h4 : k - 1 + 1 = k := by omega
      simp [h1, h3, h4]
theorem cntL_same (j : Nat) : cntL j (j + 1) = cntL j j := by unfold cntL; simp
theorem own_snoc {w : World} {base : Nat} {v : Value} {m : Nat} {f : Nat → Int} {x : Int} (h : w.ownsRow base 3 1 v (m + 1) (((List.range m).map fun t => Value.int .i64 (f t)) ++ [.int .i64 x])) (hx : f m = x) :
    w.ownsRow base 3 1 v (m + 1) ((List.range (m + 1)).map fun t => Value.int .i64 (f t)) := by
  rw [List.range_succ, List.map_append]
  simp only [List.map_cons, List.map_nil, hx]
  exact h

set_option maxHeartbeats 2000000 in
set_option maxRecDepth 100000 in
theorem rmerge_any (a : Option Addr) (n cap : Nat) (z : Nat → Int) (i j : Nat) (w : World) (h : mgB n z i j = true) (hz : Ints w a n z) :
    Calls Try.prog 43 #[.slice a n cap, .int .i64 i, .int .i64 j] w fun e w' => ∃ a' cap', e = .returned (.slice a' (n - 1) cap') ∧ Ints w' a' (n - 1) (mgZ z i j) ∧ Below w.heap.size w w' := by
  obtain ⟨hw, hx, hy, hxy, hs⟩ := mgB_iff.1 h
  have hiw := isW_iff.1 hw
  have h9 := hiw.2.2
  have hi9 := h9 i (by omega)
  have hj9 := h9 j (by omega)
  simp only [Int.toNat_natCast] at hs
  have u : wrap64 (z i + z j) = z i + z j := IntWalk.wrap64_in _ ⟨by omega, by omega⟩
  have hin : i < n := by omega
  have hjn : j < n := by omega
  have hn6 : n ≤ 6 := hiw.2.1
  have hij : ¬ i = j := by omega
  have HZ := Lib.hid (fun k (hk : k < n) => two_cells hz (i := k) (j := j) hk hjn)
  obtain ⟨b, o, rfl, _, _⟩ := two_cells hz hjn hjn
  have HC : Hid (∀ W, Below w.heap.size w W → ∀ k, k < n → W.cell? ⟨b, o + k, none⟩ = some (.int .i64 (z k))) := by
    intro W hW k hk
    obtain ⟨b2, o2, e, c1, _⟩ := two_cells hz hk hjn
    injection e with e
    injection e with e1 e2
    subst e1 e2
    rw [hW.cell (p := ⟨b, o + k, none⟩) (World.block_lt_of_cell? _ _ c1)]; exact c1
  obtain ⟨i0, hi, hz0, hz1, hz2⟩ := info_parts Try.info3
  clear hz hw h h9 hxy HZ hiw hx hy
  go_enter Try.func43, Try.ntmps43
  go_wp2
  go_loopw [7, 8, 9, 12] (fun s7 _ _ s12 wr => ∃ k : Nat, k ≤ n ∧ s12 = .int .i64 k ∧ wr.ownsRow w.heap.size 3 1 s7 (cntL j k) ((List.range (cntL j k)).map fun t => .int .i64 (mgZ z i j t)) ∧ Below w.heap.size w wr) (fun _ _ _ s12 _ => n - (intOf s12).toNat)
  case atStart => exact ⟨0, Nat.zero_le _, rfl, World.ownsRow_nil _ _ _ _, Below.refl _ _⟩
  case round =>
    obtain ⟨k, hk, rfl, hown, hbl⟩ := hrel
    have HO := Lib.hid hown
    have HB := Lib.hid hbl
    have hsz := hbl.size
    have hcn : cntL j k ≤ k := by unfold cntL; split <;> omega
    clear hown hbl
    by_cases hlt : k < n
    · have ck := HC.out wr HB.out k hlt
      have cj := HC.out wr HB.out j hjn
      by_cases hkj : k = j
      · subst hkj
        have K1 : ((k : Int) == (i : Int)) = false := by simp; omega
        have K2 : ((k : Int) != (k : Int)) = false := by simp
        have HO1 : Hid (wr.ownsRow w.heap.size 3 1 u7 (cntL k (k + 1)) ((List.range (cntL k (k + 1))).map fun t => .int .i64 (mgZ z i k t))) := by rw [Hid, cntL_same]; exact HO.out
        go_wp2
        go_roundw
        case rel => exact ⟨k + 1, by omega, by go_num, HO1.out, HB.out⟩
        case measure => simp [intOf]; omega
      have HM := Lib.hid (mg_snoc z i j k hkj)
      have K2 : ((k : Int) != (j : Int)) = true := by simp; omega
      by_cases hki : k = i
      · subst hki
        go_wp2_with (at_builtin; refine wpList_append_own _ rfl _ _ 22 rfl w.heap.size 3 i0 (.int .i64 0) 1 8 Try.underlying22 hi hz0 hz1 hz2 rfl (by decide) _ _ _ rfl (HO.out.alloc _) ⟨wr.heap.size, 0, none⟩ 1 1 [.int .i64 (z k + z j)] rfl rfl (one_new _ _ _) (one_ok _ rfl) (by unfold maxLen; omega) (by omega) (by simp; omega) ?_)
        intro v' w1 hown hgrow _
        have hb1 : Below w.heap.size wr w1 := ((Below.refl _ wr).alloc hsz _).grown hgrow (by simp; omega) (fun j hj => (World.ownsRow.lt HO.out j hj).1)
        have HB1 := Lib.hid (HB.out.trans hb1)
        have HO1 : Hid (w1.ownsRow w.heap.size 3 1 v' (cntL j (k + 1)) ((List.range (cntL j (k + 1))).map fun t => .int .i64 (mgZ z k j t))) := by
          unfold Hid
          rw [HM.out.1]
          exact own_snoc hown (by rw [HM.out.2]; simp)
        clear hown hgrow hb1
        go_wp2
        go_roundw
        case rel => exact ⟨k + 1, by omega, by go_num, HO1.out, HB1.out⟩
        case measure => simp [intOf]; omega
      · have K1 : ((k : Int) == (i : Int)) = false := by simp; omega
        go_wp2_with (at_builtin; refine wpList_append_own _ rfl _ _ 22 rfl w.heap.size 3 i0 (.int .i64 0) 1 8 Try.underlying22 hi hz0 hz1 hz2 rfl (by decide) _ _ _ rfl (HO.out.alloc _) ⟨wr.heap.size, 0, none⟩ 1 1 [.int .i64 (z k)] rfl rfl (one_new _ _ _) (one_ok _ rfl) (by unfold maxLen; omega) (by omega) (by simp; omega) ?_)
        intro v' w1 hown hgrow _
        have hb1 : Below w.heap.size wr w1 := ((Below.refl _ wr).alloc hsz _).grown hgrow (by simp; omega) (fun j hj => (World.ownsRow.lt HO.out j hj).1)
        have HB1 := Lib.hid (HB.out.trans hb1)
        have HO1 : Hid (w1.ownsRow w.heap.size 3 1 v' (cntL j (k + 1)) ((List.range (cntL j (k + 1))).map fun t => .int .i64 (mgZ z i j t))) := by
          unfold Hid
          rw [HM.out.1]
          exact own_snoc hown (by rw [HM.out.2]; simp [hki])
        clear hown hgrow hb1
        go_wp2
        go_roundw
        case rel => exact ⟨k + 1, by omega, by go_num, HO1.out, HB1.out⟩
        case measure => simp [intOf]; omega
    · have e : k = n := by omega
      have hge : (n : Int) ≤ k := by omega
      have ec : cntL j k = n - 1 := by unfold cntL; rw [if_neg (by omega)]; omega
      have HO2 : Hid (wr.ownsRow w.heap.size 3 1 u7 (n - 1) ((List.range (n - 1)).map fun t => .int .i64 (mgZ z i j t))) := by rw [← ec]; exact HO
      clear e ec HO
      obtain ⟨a1, c1, rfl, hOw⟩ := own_mk (z := mgZ z i j) HO2.out
      have HI := Lib.hid hOw.ints
      clear hOw HO2
      go_wp2
      go_ret
      exact ⟨a1, c1, rfl, HI.out, HB.out⟩
end Go.Proofs.Ytlmjddlpenmpkaa
