import Derived.Test.YtaglbnblfhfkeaaA2
namespace Go.Proofs.Ytaglbnblfhfkeaa
open Go.RowKit

/-- What 'table' has copied behind k rows. -/
def Tabled (w wr : World) (L : Nat → Nat) (Z : Nat → Nat → Int) (k : Nat) (v : Value) : Prop :=
  ∃ A C, OMat wr w.heap.size v (min k 250) A (fun j => min (L j) 6) C Z

theorem Own.mono {w : World} {base base' n cap : Nat} {a : Option Addr} {z : Nat → Int} (h : Own w base a n cap z) (hb : base' ≤ base) : Own w base' a n cap z := by
  refine ⟨h.1, ?_⟩
  rcases h.2 with hn | ⟨g, cap', cur, he, hg, r⟩
  · exact Or.inl hn
  · exact Or.inr ⟨g, cap', cur, he, Nat.le_trans hb hg, r⟩

theorem Own.alloc {w : World} {base n cap : Nat} {a : Option Addr} {z : Nat → Int} (h : Own w base a n cap z) (o : Obj) : Own (w.alloc o) base a n cap z := World.ownsRow.alloc h o

theorem OMat.congr {w : World} {base R : Nat} {v : Value} {A A' : Nat → Option Addr} {L L' C C' : Nat → Nat} {Z Z' : Nat → Nat → Int} (h : OMat w base v R A L C Z)
    (hA : ∀ j, j < R → A j = A' j) (hL : ∀ j, j < R → L j = L' j) (hC : ∀ j, j < R → C j = C' j) (hZ : ∀ j, j < R → Z j = Z' j) : OMat w base v R A' L' C' Z' := by
  refine ⟨?_, fun j hj => ?_⟩
  · have e : ((List.range R).map fun j => Value.slice (A' j) (L' j) (C' j)) = (List.range R).map fun j => .slice (A j) (L j) (C j) :=
      List.map_congr_left fun j hj => by have h := List.mem_range.1 hj; rw [hA j h, hL j h, hC j h]
    rw [e]; exact h.top
  · rw [← hA j hj, ← hL j hj, ← hC j hj, ← hZ j hj]; exact h.row j hj

theorem Tabled.snoc {w w1 w2 : World} {L : Nat → Nat} {Z : Nat → Nat → Int} {k : Nat} {v v' : Value} {A : Nat → Option Addr} {C : Nat → Nat} (hk : k < 250) (h : OMat w1 w.heap.size v k A (fun j => min (L j) 6) C Z)
    {a : Option Addr} {cap : Nat} (hr : Own w1 w.heap.size a (min (L k) 6) cap (Z k)) (o : Obj) (hg : (w1.alloc o).grownBy w2 v.ownBlock)
    (ht : w2.ownsRow w.heap.size 23 1 v' (k + 1) (((List.range k).map fun j => .slice (A j) (min (L j) 6) (C j)) ++ [.slice a (min (L k) 6) cap])) : Tabled w w2 L Z (k + 1) v' := by
  have e : min (k + 1) 250 = k + 1 := by omega
  unfold Tabled
  rw [e]
  have h' : OMat (w1.alloc o) w.heap.size v k A (fun j => min (L j) 6) C Z := h.keep ((Below.refl _ w1).alloc (Nat.le_refl _) o)
  exact ⟨_, _, (h'.snoc (hr.alloc o) hg ht).congr (fun _ _ => rfl) (fun j hj => by
    by_cases hlt : j < k
    · simp [hlt]
    · have : j = k := by omega
      subst this; simp) (fun _ _ => rfl) (fun j hj => by
    by_cases hlt : j < k
    · simp [hlt]
    · have : j = k := by omega
      subst this; simp)⟩

set_option maxHeartbeats 1000000 in
set_option maxRecDepth 100000 in
theorem table_any (a : Option Addr) (cap R : Nat) (A : Nat → Option Addr) (L C : Nat → Nat) (Z : Nat → Nat → Int) (w : World) (hs : R ≤ 140737488351232) (hm : Mat w a R A L C Z) :
    Calls Try.prog 16 #[.slice a R cap] w fun e w' => ∃ v, e = .returned v ∧ Tabled w w' L Z R v ∧ Below w.heap.size w w' := by
  go_enter Try.func16, Try.ntmps16
  go_wp2
  go_loopw [3, 8] (fun v i wr => ∃ k : Nat, k ≤ R ∧ i = .int .i64 k ∧ Tabled w wr L Z k v ∧ Below w.heap.size w wr) (fun _ i _ => R - (intOf i).toNat)
  case atStart => exact ⟨0, Nat.zero_le _, rfl, ⟨fun _ => none, fun _ => 0, OMat.nil _ _ _ _ _ _⟩, Below.refl _ _⟩
  case round =>
    obtain ⟨k, hk, rfl, hT, hb⟩ := hrel
    by_cases hlt : k < R
    · obtain ⟨b, o, rfl, hck⟩ := (hm.keep (Nat.le_refl _) hb).row k hlt
      have hcap := Lib.hid (hm.cap k hlt)
      have hi0 := hm.ints k hlt
      clear hm
      have HT := Lib.hid hT
      clear hT
      by_cases h250 : k < 250
      · have hi := hi0.keep (Nat.le_refl _) hb
        go_wp2_with fail
        refine (list_any _ _ _ _ _ hcap.out.1 hcap.out.2 hi).mono ?_
        rintro e w1 ⟨a', cap', rfl, h1, hb1⟩
        obtain ⟨A1, C1, hO0⟩ := HT.out
        rw [show min k 250 = k by omega] at hO0
        have hO := Lib.hid (hO0.keep hb1)
        have hrow := Lib.hid (Own.mono h1 hb.size)
        have hB : Hid (Below w.heap.size w w1) := hb.trans (hb1.mono hb.size)
        have hBs := hB.out.size
        clear HT hO0 hi hi0 h1 hck
        obtain ⟨i0, hi, hz0, hz1, hz2⟩ := info_parts Try.info23
        go_wp2_with (at_builtin; refine wpList_append_own _ rfl _ _ 22 rfl w.heap.size 23 i0 (.slice none 0 0) 1 24 Try.underlying22 hi hz0 hz1 hz2 rfl (by decide) _ _ _ rfl (hO.out.top.alloc _) ⟨w1.heap.size, 0, none⟩ 1 1 [.slice a' (min (L k) 6) cap'] rfl rfl (one_new _ _ _) (one_ok _ rfl) (by unfold maxLen; omega) (by omega) (by simp; omega) ?_)
        intro v' w2 hown hgrow _
        have hT' := Tabled.snoc h250 hO.out hrow.out _ hgrow hown
        have hB' : Below w.heap.size w w2 := (hB.out.alloc (by omega) _).grown hgrow (by simp; omega) (fun k hk => (hO.out.top.lt k hk).1)
        clear hown hgrow
        go_wp2
        go_roundw
        case rel => exact ⟨k + 1, by omega, by go_num, hT', hB'⟩
        case measure => simp [intOf]; omega
      · have hT' : Hid (∀ v, Tabled w wr L Z k v → Tabled w wr L Z (k + 1) v) := by
          intro v h
          unfold Tabled at *
          rw [show min (k + 1) 250 = min k 250 by omega]; exact h
        go_wp2
        go_roundw
        case rel => exact ⟨k + 1, by omega, by go_num, hT'.out _ HT.out, hb⟩
        case measure => simp [intOf]; omega
    · have e : k = R := by omega
      subst e
      have HT := Lib.hid hT
      clear hT
      go_wp2
      go_ret
      exact ⟨_, rfl, HT.out, hb⟩
end Go.Proofs.Ytaglbnblfhfkeaa
