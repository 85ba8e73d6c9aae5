import Derived.Test.YtcedhcpjnoppmaaR2
namespace Go.Proofs.Ytcedhcpjnoppmaa
open Go.RowKit

theorem Try.info4 : (Try.prog.info? 4).map (fun i => (i.zero, i.size, i.bytes)) = some (some (.bool false), 1, 1) := by kernel_rfl
theorem Try.eqlnilB (w : World) (a : Option Addr) (n c n' c' : Nat) : (binOp .eql 42 (.slice a n c) (.slice none n' c')).run Try.prog w = .ok (.bool a.isNone) w :=
  Lib.run_eql_slice_nil w _ _ a n c n' c' Try.underlying42

theorem bools_mk {w : World} {base n : Nat} {v : Value} {x : Nat → Bool} (h : w.ownsRow base 4 1 v n ((List.range n).map fun j => .bool (x j))) :
    ∃ a cap, v = .slice a n cap ∧ Bools w a n x := by
  rcases h.2 with ⟨rfl, hn⟩ | ⟨g, cap, cur, rfl, hb, hg, h1, h2, h3, h4⟩
  · have : n = 0 := by simpa using hn
    subst this
    exact ⟨Option.none, 0, rfl, fun _ hj => absurd hj (Nat.not_lt_zero _)⟩
  · refine ⟨_, _, rfl, fun j hj => ⟨g, 0, rfl, ?_⟩⟩
    have := World.ownsRow.cells h (g := g) rfl j (.bool (x j)) (by simp [hj])
    rw [add_at] at this
    exact this

theorem Bools.news {w : World} {ad : Addr} {n : Nat} {x : Nat → Bool} (h : Bools w (some ad) n x) : ∀ j u, ((List.range n).map fun j => Value.bool (x j))[j]? = some u → w.cell? (ad.add j) = some u := by
  intro j u hj
  have hjn : j < n := by
    have := (List.getElem?_eq_some_iff.1 hj).1
    simpa using this
  obtain ⟨b, o, he, hc⟩ := h j hjn
  cases he
  have e : ((List.range n).map fun j => Value.bool (x j))[j]? = some (Value.bool (x j)) := by simp [hjn]
  rw [e] at hj
  cases hj
  rw [add_at]; exact hc

/-- A slice of bools, copied. -/
def CloneOut (n : Nat) (x : Nat → Bool) (w : World) (e : Ending) (w' : World) : Prop := ∃ a' cap', e = .returned (.slice a' n cap') ∧ Bools w' a' n x ∧ Below w.heap.size w w'

set_option maxHeartbeats 1000000 in
theorem cloneB_any (a : Option Addr) (cap n : Nat) (x : Nat → Bool) (w : World) (hs : n ≤ 140737488355328) (hc : Bools w a n x) :
    Calls Try.prog 30 #[.slice a n cap] w fun e w' => CloneOut n x w e w' := by
  have q := Try.eqlnilB
  cases a with
  | none =>
    have h0 : n = 0 := by
      rcases Nat.eq_zero_or_pos n with h | h
      · exact h
      · obtain ⟨b, o, he, _⟩ := hc 0 h; cases he
    subst h0
    go_enter Try.func30, Try.ntmps30
    go_wp2
    go_ret
    exact ⟨none, 0, rfl, fun _ hj => absurd hj (Nat.not_lt_zero _), Below.refl _ _⟩
  | some ad =>
    obtain ⟨i0, hi, hz0, hz1, hz2⟩ := info_parts Try.info4
    have hnews := Lib.hid (Bools.keep hc (Nat.le_refl _) ((Below.refl w.heap.size w).alloc (Nat.le_refl _) (.cells #[] 4))).news
    clear hc
    go_enter Try.func30, Try.ntmps30
    go_wp2_with (at_builtin; refine wpList_append_own _ rfl _ _ 42 rfl w.heap.size 4 i0 (.bool false) 1 1 Try.underlying42 hi hz0 hz1 hz2 rfl (by decide) _ _ _ rfl (World.ownsRow_made w #[] 0 (Nat.le_refl _) (Nat.zero_le _) rfl) ad n cap ((List.range n).map fun j => .bool (x j)) rfl ?qc1 ?qc2 ?qc3 ?qc4 ?qc5 ?qc6 ?_)
    case qc1 => simp
    case qc2 => exact hnews.out
    case qc3 => intro u hu; obtain ⟨x, _, rfl⟩ := List.mem_map.1 hu; rfl
    case qc4 => unfold maxLen; omega
    case qc5 => omega
    case qc6 => simp
    intro v' w1 hown hgrow hnil
    have hb : Below w.heap.size w w1 := ((Below.refl _ w).alloc (Nat.le_refl _) _).grown hgrow (by simp) (by intro k hk; simp [Value.ownBlock] at hk; omega)
    obtain ⟨a', cap', rfl, h1⟩ := bools_mk hown
    go_wp2
    go_ret
    exact ⟨a', cap', rfl, h1, hb⟩

set_option maxHeartbeats 4000000 in
set_option maxRecDepth 100000 in
/-- lots.Run, of a plan and as many items. -/
theorem run_yes (aT : Option Addr) (n cT : Nat) (aL : Option Addr) (m cL : Nat) (T L : Nat → Int) (aX : Option Addr) (cX : Nat) (x : Nat → Bool) (w : World) (hp : isPlan n m T L = true) (hT : Ints w aT n T) (hL : Ints w aL m L) (hX : Bools w aX n x) :
    Calls Try.prog 29 #[plV aT n cT aL m cL, .slice aX n cX] w fun e w' =>
      ∃ k : Nat, Ends T L x k ∧ k ≤ n ∧ e = .returned (.tuple #[.int .i64 (k : Int), .bool (decide (av T L (k - 1) (bc x k) = 1)), .int .i64 0]) ∧ Below w.heap.size w w' := by
  have hpp := isPlan_iff.1 hp
  have hn := hpp.2.1
  have hmn : m ≤ n := by omega
  have HP := Lib.hid hp
  have HT := Lib.hid hT
  have HL := Lib.hid hL
  have HX := Lib.hid hX
  clear hp hpp hT hL hX
  have HB0 := Lib.hid (PlAt.start (aT := aT) (nT := n) (cT := cT) (aL := aL) (nL := m) (cL := cL) (P := 32) w)
  go_enter Try.func29, Try.ntmps29
  go_wp2_with fail
  refine (pvalid_r true aT n cT aL m cL T L _ HP.out (by omega) (by omega) (HT.out.keep (Nat.le_refl _) HB0.out.bel) (HL.out.keep (Nat.le_refl _) HB0.out.bel)).mono ?_
  rintro e w1 ⟨rfl, hb1⟩
  have HB1 := Lib.hid (HB0.out.keep hb1)
  obtain ⟨q1, q2, q3⟩ := HB1.out.cells
  clear hb1 HB0
  go_wp2_with fail
  refine (prun_any aT n cT aL m cL T L aX cX x _ HP.out (HT.out.keep (Nat.le_refl _) HB1.out.bel) (HL.out.keep (Nat.le_refl _) HB1.out.bel) (HX.out.keep (Nat.le_refl _) HB1.out.bel)).mono ?_
  rintro e w2 ⟨k, hE, hk, rfl, hb2⟩
  have HE := Lib.hid hE
  have HB2 := Lib.hid (HB1.out.keep hb2)
  clear hb2 hE
  go_wp2
  go_ret3
  exact ⟨k, HE.out, hk, rfl, HB2.out.bel⟩

def RunNo (w : World) (e : Ending) (w' : World) : Prop := e = .returned (.tuple #[.int .i64 0, .bool false, .int .i64 2]) ∧ Below w.heap.size w w'

set_option maxHeartbeats 4000000 in
set_option maxRecDepth 100000 in
theorem run_no (aT : Option Addr) (n cT : Nat) (aL : Option Addr) (m cL : Nat) (T L : Nat → Int) (aX : Option Addr) (nX cX : Nat) (w : World) (hp : isPlan n m T L = false ∨ nX ≠ n) (hn : n ≤ 140737488351232) (hm : m ≤ 140737488351232) (hT : Ints w aT n T) (hL : Ints w aL m L) :
    Calls Try.prog 29 #[plV aT n cT aL m cL, .slice aX nX cX] w fun e w' => RunNo w e w' := by
  have HT := Lib.hid hT
  have HL := Lib.hid hL
  clear hT hL
  have HB0 := Lib.hid (PlAt.start (aT := aT) (nT := n) (cT := cT) (aL := aL) (nL := m) (cL := cL) (P := 32) w)
  cases e : isPlan n m T L
  · have HP := Lib.hid e
    clear e hp
    go_enter Try.func29, Try.ntmps29
    go_wp2_with fail
    refine (pvalid_r false aT n cT aL m cL T L _ HP.out hn hm (HT.out.keep (Nat.le_refl _) HB0.out.bel) (HL.out.keep (Nat.le_refl _) HB0.out.bel)).mono ?_
    rintro e w1 ⟨rfl, hb1⟩
    have HB1 := Lib.hid (HB0.out.keep hb1)
    clear hb1 HB0
    go_wp2
    go_ret3
    exact ⟨rfl, HB1.out.bel⟩
  · have HP := Lib.hid e
    have hne : nX ≠ n := by rw [e] at hp; simpa using hp
    have G : ((nX : Int) != (n : Int)) = true := by simp; omega
    clear e hp hne
    go_enter Try.func29, Try.ntmps29
    go_wp2_with fail
    refine (pvalid_r true aT n cT aL m cL T L _ HP.out hn hm (HT.out.keep (Nat.le_refl _) HB0.out.bel) (HL.out.keep (Nat.le_refl _) HB0.out.bel)).mono ?_
    rintro e w1 ⟨rfl, hb1⟩
    have HB1 := Lib.hid (HB0.out.keep hb1)
    obtain ⟨q1, q2, q3⟩ := HB1.out.cells
    clear hb1 HB0
    go_wp2
    go_ret3
    exact ⟨rfl, HB1.out.bel⟩

end Go.Proofs.Ytcedhcpjnoppmaa
