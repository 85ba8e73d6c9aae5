import Derived.Test.YtfommfgokpiieabDoorC2
namespace Go.Proofs.YtfommfgokpiieabDoor
open Go.RowKit

theorem CellsAt.news {w : World} {ad : Addr} {s m : Nat} {c : Nat → List Value} (hs0 : 0 < s) (hs : ∀ k, (c k).length = s) (h : CellsAt w (some ad) s m c) : ∀ j u, ((List.range m).flatMap c)[j]? = some u → w.cell? (ad.add j) = some u := by
  intro j u hj
  have hl := flat_len c s hs m
  have hlt : j < m * s := by rw [← hl]; exact (List.getElem?_eq_some_iff.1 hj).1
  have hk : j / s < m := by rw [Nat.div_lt_iff_lt_mul hs0]; exact hlt
  have e : j / s * s + j % s = j := by rw [Nat.mul_comm]; exact Nat.div_add_mod j s
  have hat := flat_at c s hs m (j / s) hk (j % s) (Nat.mod_lt _ hs0)
  rw [e] at hat
  obtain ⟨b, o, ha, hc⟩ := h (j / s) hk
  injection ha with ha
  subst ha
  have := hc (j % s) u (by rw [← hat]; exact hj)
  rw [add_at]
  rw [Nat.add_assoc, e] at this
  exact this
theorem CellsAt.nil {w : World} {s m : Nat} {c : Nat → List Value} (h : CellsAt w none s m c) : m = 0 := by
  cases m with
  | zero => rfl
  | succ m => obtain ⟨b, o, e, _⟩ := h 0 (Nat.succ_pos _); cases e
theorem CellsAt.take {w : World} {a : Option Addr} {s m k : Nat} {c : Nat → List Value} (h : CellsAt w a s m c) (hk : k ≤ m) : CellsAt w a s k c := fun j hj => h j (Nat.lt_of_lt_of_le hj hk)

theorem Tryd.eqlnil2 (w : World) (a : Option Addr) (n c n' c' : Nat) : (binOp .eql 22 (.slice a n c) (.slice none n' c')).run Tryd.prog w = .ok (.bool a.isNone) w :=
  Lib.run_eql_slice_nil w _ _ a n c n' c' Tryd.underlying22

/-- What Clone, list hand back: the same points, in memory of their own. -/
def CloneOut (n : Nat) (X Y : Nat → Int) (w : World) (e : Ending) (w' : World) : Prop :=
  ∃ a' cap', e = .returned (.slice a' n cap') ∧ n ≤ cap' ∧ cap' ≤ maxLen ∧ CellsAt w' a' 2 n (fun i => pcell (X i) (Y i)) ∧ Below w.heap.size w w'

set_option maxHeartbeats 1000000 in
theorem clone_any (a : Option Addr) (cap n : Nat) (X Y : Nat → Int) (w : World) (hs : n ≤ 8796093022208) (hc : CellsAt w a 2 n (fun i => pcell (X i) (Y i))) :
    Calls Tryd.prog 28 #[.slice a n cap] w fun e w' => CloneOut n X Y w e w' := by
  have q := Tryd.eqlnil2
  cases a with
  | none =>
    have := hc.nil
    subst this
    go_enter Tryd.func28, Tryd.ntmps28
    go_wp2
    go_ret
    exact ⟨none, 0, rfl, Nat.le_refl _, Nat.zero_le _, fun k hk => absurd hk (Nat.not_lt_zero _), Below.refl _ _⟩
  | some ad =>
    obtain ⟨i0, hi, hz0, hz1, hz2⟩ := info_parts Tryd.infoP2
    have hnews := Lib.hid ((hc.keep (Nat.le_refl _) ((Below.refl w.heap.size w).alloc (Nat.le_refl _) (.cells #[] 23))).news (by omega) (fun i => pcell_len (X i) (Y i)))
    clear hc
    go_enter Tryd.func28, Tryd.ntmps28
    go_wp2_with (at_builtin; refine wpList_append_own _ rfl _ _ 22 rfl w.heap.size 23 i0 (.agg #[.int .i64 0, .int .i64 0]) 2 16 Tryd.underlying22 hi hz0 hz1 hz2 rfl (by decide) _ _ _ rfl (World.ownsRow_made w #[] 0 (Nat.le_refl _) (Nat.zero_le _) rfl) ad n cap ((List.range n).flatMap fun i => pcell (X i) (Y i)) rfl ?qc1 ?qc2 ?qc3 ?qc4 ?qc5 ?qc6 ?_)
    case qc1 => rw [flat_len _ 2 (fun i => pcell_len (X i) (Y i))]
    case qc2 => exact hnews.out
    case qc3 =>
      intro u hu
      obtain ⟨k, _, hk⟩ := List.mem_flatMap.1 hu
      exact pcell_ok _ _ u hk
    case qc4 => unfold maxLen; omega
    case qc5 => omega
    case qc6 => simp
    intro v' w1 hown hgrow hnil
    have hb : Below w.heap.size w w1 := ((Below.refl _ w).alloc (Nat.le_refl _) _).grown hgrow (by simp) (by intro k hk; simp [Value.ownBlock] at hk; omega)
    have hO : OwnC w1 w.heap.size 23 2 v' n (fun i => pcell (X i) (Y i)) := by
      unfold OwnC; simpa using hown
    obtain ⟨a', cap', rfl, hC, h1, h2⟩ := OwnC.read (s := 2) (fun i => pcell_len (X i) (Y i)) hO
    clear hown hO
    go_wp2
    go_ret
    exact ⟨a', cap', rfl, h1, h2, hC, hb⟩

set_option maxHeartbeats 1000000 in
set_option maxRecDepth 100000 in
theorem list_any (a : Option Addr) (cap n : Nat) (X Y : Nat → Int) (w : World) (hs : n ≤ cap) (hs2 : n ≤ 8796093022208) (hc : CellsAt w a 2 n (fun i => pcell (X i) (Y i))) :
    Calls Tryd.prog 8 #[.slice a n cap] w fun e w' => CloneOut (min n 33) X Y w e w' := by
  have hc' := hc.take (Nat.min_le_left n 33)
  have H := Lib.hid (clone_any a cap (min n 33) X Y w (by omega) hc')
  have E : Hid ((min (n : Int) 33).toNat = min n 33) := by simp only [Hid]; omega
  have hmI : min (n : Int) 33 ≤ cap := by omega
  have hm0 : 0 ≤ min (n : Int) 33 := by omega
  clear hc hc'
  go_enter Tryd.func8, Tryd.ntmps8
  go_wp2_with fail
  rw [E.out]
  refine H.out.mono ?_
  rintro e w1 ⟨a', cap', rfl, h1, h2, h3, h4⟩
  have HO : Hid (CloneOut (min n 33) X Y w (.returned (.slice a' (min n 33 : Nat) cap')) w1) := ⟨a', cap', rfl, h1, h2, h3, h4⟩
  clear h1 h2 h3 h4
  go_wp2
  go_ret
  exact HO.out
end Go.Proofs.YtfommfgokpiieabDoor
