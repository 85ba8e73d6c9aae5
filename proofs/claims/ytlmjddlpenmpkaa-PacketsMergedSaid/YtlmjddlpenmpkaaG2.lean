import Derived.Test.YtlmjddlpenmpkaaG1
import Derived.Test.YtlmjddlpenmpkaaR2
namespace Go.Proofs.Ytlmjddlpenmpkaa
open Go.RowKit Go.Shelf

/-- Is k a kind of n? -/
def kinB (n : Nat) (k : Int) : Bool := decide (0 ≤ k ∧ k < n)
theorem kinB_iff {n : Nat} {k : Int} : kinB n k = true ↔ 0 ≤ k ∧ k < n := by simp [kinB]
theorem kinB_no {n : Nat} {k : Int} (h : ¬ (0 ≤ k ∧ k < n)) : kinB n k = false := by simp only [kinB]; exact decide_eq_false h
theorem kind_any (a : Option Addr) (n cap : Nat) (k : Int) (w : World) :
    Calls Try.prog 68 #[.slice a n cap, .int .i64 k] w fun e w' => e = .returned (.bool (kinB n k)) ∧ w = w' := by
  by_cases h1 : 0 ≤ k
  · by_cases h2 : k < n
    · have HF : Hid (kinB n k = true) := kinB_iff.2 ⟨h1, h2⟩
      have G : decide (k < (n : Int)) = true := by simp [h2]
      go_enter Try.func68, Try.ntmps68
      go_wp2
      go_ret
      exact ⟨by rw [HF.out]; rfl, rfl⟩
    · have HF : Hid (kinB n k = false) := kinB_no (fun h => h2 h.2)
      have G : decide (k < (n : Int)) = false := by simp; omega
      go_enter Try.func68, Try.ntmps68
      go_wp2
      go_ret
      exact ⟨by rw [HF.out]; rfl, rfl⟩
  · have HF : Hid (kinB n k = false) := kinB_no (fun h => h1 h.1)
    have G : k < 0 := by omega
    go_enter Try.func68, Try.ntmps68
    go_wp2
    go_ret
    exact ⟨by rw [HF.out]; rfl, rfl⟩
theorem kind_r (r : Bool) (a : Option Addr) (n cap : Nat) (k : Int) (w : World) (h : kinB n k = r) :
    Calls Try.prog 68 #[.slice a n cap, .int .i64 k] w fun e w' => e = .returned (.bool r) ∧ w = w' := by rw [← h]; exact kind_any a n cap k w

/-- May two kinds be merged? -/
def mgB (n : Nat) (z : Nat → Int) (a b : Int) : Bool := isW n z && decide (0 ≤ a ∧ a < n) && decide (0 ≤ b ∧ b < n) && decide (a ≠ b) && decide (z a.toNat + z b.toNat ≤ 9)
theorem mgB_iff {n : Nat} {z : Nat → Int} {a b : Int} : mgB n z a b = true ↔ isW n z = true ∧ (0 ≤ a ∧ a < n) ∧ (0 ≤ b ∧ b < n) ∧ a ≠ b ∧ z a.toNat + z b.toNat ≤ 9 := by
  unfold mgB; simp only [Bool.and_eq_true, decide_eq_true_eq]; constructor <;> (intro h; simp_all)
theorem mgB_no {n : Nat} {z : Nat → Int} {a b : Int} (h : ¬ (isW n z = true ∧ (0 ≤ a ∧ a < n) ∧ (0 ≤ b ∧ b < n) ∧ a ≠ b ∧ z a.toNat + z b.toNat ≤ 9)) : mgB n z a b = false := by
  cases e : mgB n z a b
  · rfl
  · exact absurd (mgB_iff.1 e) h

/-- Two places of a slice. -/
theorem two_cells {w : World} {a : Option Addr} {n : Nat} {z : Nat → Int} (h : Ints w a n z) {i j : Nat} (hi : i < n) (hj : j < n) :
    ∃ b o, a = some ⟨b, o, none⟩ ∧ w.cell? ⟨b, o + i, none⟩ = some (.int .i64 (z i)) ∧ w.cell? ⟨b, o + j, none⟩ = some (.int .i64 (z j)) := by
  obtain ⟨b, o, rfl, h1⟩ := h i hi
  obtain ⟨b2, o2, e, h2⟩ := h j hj
  injection e with e
  injection e with e1 e2
  subst e1 e2
  exact ⟨b, o, rfl, h1, h2⟩

/-- A row of one's own: its block. -/
theorem own_at {w : World} {base n cap : Nat} {a : Option Addr} {z : Nat → Int} (h : Own w base a n cap z) (hn : 0 < n) :
    ∃ g, a = some ⟨g, 0, none⟩ ∧ base ≤ g ∧ ∀ j, j < n → w.cell? ⟨g, j, none⟩ = some (.int .i64 (z j)) ∧ w.frozen? ⟨g, j, none⟩ = false := by
  have hf := h
  rcases h.2 with ⟨h1, rfl⟩ | ⟨g, cap', cur, he, hb, hg, h1, h2, h3, h4⟩
  · omega
  · cases he
    refine ⟨g, rfl, hb, fun j hj => ⟨?_, World.ownsRow.frozenAt hf j⟩⟩
    rw [World.ownsRow.cellAt hf j (by omega)]
    simp [hj]

/-- The row with one place set. -/
def setZ (z : Nat → Int) (i : Nat) (x : Int) (t : Nat) : Int := if t = i then x else z t
theorem own_set {w : World} {base g n cap : Nat} {z : Nat → Int} (h : Own w base (some ⟨g, 0, none⟩) n cap z) (i : Nat) (x : Int) :
    Own (w.setCell ⟨g, i, none⟩ (.int .i64 x)) base (some ⟨g, 0, none⟩) n cap (setZ z i x) := by
  have h1 := (World.ownsRow.stored h i (.int .i64 x)).1
  have e : ((List.range n).map fun j => Value.int .i64 (z j)).set i (.int .i64 x) = (List.range n).map fun j => .int .i64 (setZ z i x j) := by
    apply List.ext_getElem
    · simp
    · intro j h1 h2
      rw [List.getElem_set]
      by_cases e : i = j
      · subst e; simp [setZ]
      · have : ¬ j = i := fun h => e h.symm
        simp [setZ, e, this]
  rw [e] at h1
  exact h1

theorem validB_none {n : Nat} {z S : Nat → Int} : validB n z 0 S = isW n z := by
  cases h : isW n z
  · refine validB_no fun g => ?_
    have := isW_iff.2 g.1
    rw [h] at this; cases this
  · exact validB_iff.2 ⟨isW_iff.1 h, fun j hj => absurd hj (Nat.not_lt_zero _)⟩
theorem valid_nil (r : Bool) (a : Option Addr) (n cap : Nat) (z : Nat → Int) (w : World) (h : isW n z = r) (hn : n ≤ 140737488351232) (hz : Ints w a n z) :
    Calls Try.prog 48 #[.slice a n cap, .slice none 0 0] w fun e w' => e = .returned (.bool r) ∧ w = w' := by
  have h2 := valid_r r a n cap z none 0 0 (fun _ => 0) w
  rw [validB_none] at h2
  exact h2 h hn (by omega) hz Ints.none

theorem valid_q (r : Bool) (a : Option Addr) (n cap : Nat) (z : Nat → Int) (w : World) (h : isW n z = r) (hn : n ≤ 140737488351232) (hz : Ints w a n z) (q : Nat) :
    Calls Try.prog 48 #[.slice a n cap, .slice none 0 0] (w.drewN q) fun e w' => e = .returned (.bool r) ∧ w' = w.drewN q :=
  (valid_nil r a n cap z (w.drewN q) h hn (hz.keep (Nat.le_refl _) (below_drewN (Below.refl w.heap.size w) q))).mono fun _ _ ⟨h1, h2⟩ => ⟨h1, h2.symm⟩
theorem kind_q (r : Bool) (a : Option Addr) (n cap : Nat) (k : Int) (w : World) (h : kinB n k = r) (q : Nat) :
    Calls Try.prog 68 #[.slice a n cap, .int .i64 k] (w.drewN q) fun e w' => e = .returned (.bool r) ∧ w' = w.drewN q :=
  (kind_r r a n cap k (w.drewN q) h).mono fun _ _ ⟨h1, h2⟩ => ⟨h1, h2.symm⟩

set_option maxHeartbeats 1000000 in
set_option maxRecDepth 100000 in
theorem fMerge_bad (a : Option Addr) (n cap : Nat) (z : Nat → Int) (x y : Int) (w : World) (h : mgB n z x y = false) (hn : n ≤ 140737488351232) (hz : Ints w a n z) :
    Calls Try.prog 40 #[.slice a n cap, .int .i64 x, .int .i64 y] w fun e w' => e = .returned (.tuple #[.slice none 0 0, .int .i64 2]) ∧ Below w.heap.size w w' := by
  cases hw : isW n z
  · have HV := Lib.hid (valid_q false a n cap z w hw hn hz)
    clear hz hw h
    go_enter Try.func40, Try.ntmps40
    go_wp2
    go_quiet (first | (go_at_call 48; with_reducible exact Calls.quiet_of_same (HV.out _)) | (go_at_call 68; first | with_reducible exact Calls.quiet_of_same (HX.out _) | with_reducible exact Calls.quiet_of_same (HY.out _)))
    all_goals
      go_wp2
      go_ret2
      exact ⟨rfl, below_drewN (Below.refl w.heap.size w) _⟩
  have HV := Lib.hid (valid_q true a n cap z w hw hn hz)
  by_cases hx : ¬ (0 ≤ x ∧ x < n)
  · have HX := Lib.hid (kind_q false a n cap x w (kinB_no hx))
    clear hz hw h hx
    go_enter Try.func40, Try.ntmps40
    go_wp2
    go_quiet (first | (go_at_call 48; with_reducible exact Calls.quiet_of_same (HV.out _)) | (go_at_call 68; first | with_reducible exact Calls.quiet_of_same (HX.out _) | with_reducible exact Calls.quiet_of_same (HY.out _)))
    all_goals
      go_wp2
      go_ret2
      exact ⟨rfl, below_drewN (Below.refl w.heap.size w) _⟩
  replace hx := Decidable.not_not.1 hx
  have HX := Lib.hid (kind_q true a n cap x w (kinB_iff.2 hx))
  by_cases hy : ¬ (0 ≤ y ∧ y < n)
  · have HY := Lib.hid (kind_q false a n cap y w (kinB_no hy))
    clear hz hw h hx hy
    go_enter Try.func40, Try.ntmps40
    go_wp2
    go_quiet (first | (go_at_call 48; with_reducible exact Calls.quiet_of_same (HV.out _)) | (go_at_call 68; first | with_reducible exact Calls.quiet_of_same (HX.out _) | with_reducible exact Calls.quiet_of_same (HY.out _)))
    all_goals
      go_wp2
      go_ret2
      exact ⟨rfl, below_drewN (Below.refl w.heap.size w) _⟩
  replace hy := Decidable.not_not.1 hy
  have HY := Lib.hid (kind_q true a n cap y w (kinB_iff.2 hy))
  by_cases hxy : x = y
  · subst hxy
    clear hz hw h hx hy
    go_enter Try.func40, Try.ntmps40
    go_wp2
    go_quiet (first | (go_at_call 48; with_reducible exact Calls.quiet_of_same (HV.out _)) | (go_at_call 68; first | with_reducible exact Calls.quiet_of_same (HX.out _) | with_reducible exact Calls.quiet_of_same (HY.out _)))
    all_goals
      go_wp2
      go_ret2
      exact ⟨rfl, below_drewN (Below.refl w.heap.size w) _⟩
  obtain ⟨i, rfl⟩ : ∃ i : Nat, x = i := ⟨x.toNat, by omega⟩
  obtain ⟨j, rfl⟩ : ∃ j : Nat, y = j := ⟨y.toNat, by omega⟩
  have h9 := (isW_iff.1 hw).2.2
  have hi := h9 i (by omega)
  have hj := h9 j (by omega)
  have hs : 9 < z i + z j := by
    rcases Int.lt_or_le 9 (z i + z j) with g | g
    · exact g
    · have := mgB_iff.2 ⟨hw, hx, hy, hxy, by simpa using g⟩
      rw [h] at this; cases this
  have u : wrap64 (z i + z j) = z i + z j := IntWalk.wrap64_in _ ⟨by omega, by omega⟩
  obtain ⟨b, o, rfl, c1, c2⟩ := two_cells hz (i := i) (j := j) (by omega) (by omega)
  have K1 : ((i : Int) == (j : Int)) = false := by simp; omega
  have G : decide (9 < z i + z j) = true := by simpa using hs
  clear hz hw h h9
  go_enter Try.func40, Try.ntmps40
  go_wp2
  go_quiet (first | (go_at_call 48; with_reducible exact Calls.quiet_of_same (HV.out _)) | (go_at_call 68; first | with_reducible exact Calls.quiet_of_same (HX.out _) | with_reducible exact Calls.quiet_of_same (HY.out _)))
  all_goals
    go_wp2
    go_ret2
    exact ⟨rfl, below_drewN (Below.refl w.heap.size w) _⟩

/-- The weights with two kinds made one. -/
def mgZ (z : Nat → Int) (i j : Nat) : Nat → Int := outZ (setZ z i (z i + z j)) j

set_option maxHeartbeats 1000000 in
set_option maxRecDepth 100000 in
theorem fMerge_good (a : Option Addr) (n cap : Nat) (z : Nat → Int) (i j : Nat) (w : World) (h : mgB n z i j = true) (hn : n * 8 ≤ 140737488355328) (hz : Ints w a n z) :
    Calls Try.prog 40 #[.slice a n cap, .int .i64 i, .int .i64 j] w fun e w' => ∃ a' cap', e = .returned (.tuple #[.slice a' (n - 1) cap', .int .i64 0]) ∧ Ints w' a' (n - 1) (mgZ z i j) ∧ Below w.heap.size w w' := by
  obtain ⟨hw, hx, hy, hxy, hs⟩ := mgB_iff.1 h
  have h9 := (isW_iff.1 hw).2.2
  have hi := h9 i (by omega)
  have hj := h9 j (by omega)
  simp only [Int.toNat_natCast] at hs
  have u : wrap64 (z i + z j) = z i + z j := IntWalk.wrap64_in _ ⟨by omega, by omega⟩
  have u2 : wrap64 ((j : Int) + 1) = ((j + 1 : Nat) : Int) := by have := isW_iff.1 hw; rw [IntWalk.wrap64_in _ ⟨by omega, by omega⟩]; omega
  have HV := Lib.hid (valid_q true a n cap z w hw (by omega) hz)
  have HX := Lib.hid (kind_q true a n cap i w (kinB_iff.2 hx))
  have HY := Lib.hid (kind_q true a n cap j w (kinB_iff.2 hy))
  have HZ := Lib.hid hz
  have hmx : Try.prog.follows .mixedOrders = true := by kernel_rfl
  have HC := Lib.hid (fun q => clone_any a cap n z (w.drewN q) hn (hz.keep (Nat.le_refl _) (below_drewN (Below.refl w.heap.size w) q)))
  obtain ⟨b, o, rfl, c1, c2⟩ := two_cells hz (i := i) (j := j) (by omega) (by omega)
  have K1 : ((i : Int) == (j : Int)) = false := by simp; omega
  have G : decide (9 < z i + z j) = false := by simp; omega
  have hin : i < n := by omega
  have hjn : j < n := by omega
  clear hz hw h h9 hxy
  go_enter Try.func40, Try.ntmps40
  go_wp2
  go_quiet (first | (go_at_call 48; with_reducible exact Calls.quiet_of_same (HV.out _)) | (go_at_call 68; first | with_reducible exact Calls.quiet_of_same (HX.out _) | with_reducible exact Calls.quiet_of_same (HY.out _)))
  all_goals
    go_wp2_with fail
    refine (HC.out _).mono ?_
    rintro e w1 ⟨a', cap', rfl, hO, hb⟩
    obtain ⟨g, rfl, hg, hcell⟩ := own_at hO (by omega)
    obtain ⟨d1, f1⟩ := hcell i hin
    have d2 : w1.cell? ⟨b, o + j, none⟩ = some (.int .i64 (z j)) := by
      rw [hb.cell (p := ⟨b, o + j, none⟩) (World.block_lt_of_cell? _ _ c2)]; exact c2
    have HO := Lib.hid (own_set hO i (z i + z j))
    have HB : Hid (Below w.heap.size w (w1.setCell ⟨g, i, none⟩ (.int .i64 (z i + z j)))) := Below.setCell (p := ⟨g, i, none⟩) ((below_drewN (Below.refl w.heap.size w) _).trans hb) hg _
    have HD := Lib.hid (delete_any (w := (w1.setCell ⟨g, i, none⟩ (.int .i64 (z i + z j))).drew) j hjn (World.ownsRow.drew HO.out) HB.out.drew)
    clear hb hO hcell
    go_wp2
    go_region
    all_goals
      go_wp2_with fail
      refine HD.out.mono ?_
      rintro e w' ⟨rfl, hO, hb⟩
      have HI := Lib.hid hO.ints
      have HB2 := Lib.hid hb
      clear hO hb
      go_wp2
      go_ret2
      exact ⟨_, _, rfl, HI.out, HB2.out⟩
end Go.Proofs.Ytlmjddlpenmpkaa
