import Derived.Test.YtaglbnblfhfkeaaA3
namespace Go.Proofs.Ytaglbnblfhfkeaa
open Go.RowKit

/-- The numbers and the sizes are such that no product wraps. -/
structure Tame (R n : Nat) (L : Nat → Nat) (Z : Nat → Nat → Int) (z : Nat → Int) : Prop where
  rows : R ≤ 2
  len : n ≤ 4
  each : ∀ j, j < R → L j = n
  low : ∀ j, j < R → ∀ i, i < n → -2 ≤ Z j i ∧ Z j i ≤ 2
  num : ∀ i, i < n → -1000000 ≤ z i ∧ z i ≤ 1000000

theorem Own.snoc {w w1 : World} {base n cap : Nat} {a : Option Addr} {z : Nat → Int} {v' : Value} {x : Int} (_ : Own w base a n cap z)
    (ht : w1.ownsRow base 3 1 v' (n + 1) (((List.range n).map fun j => .int .i64 (z j)) ++ [.int .i64 x])) (hx : x = z n) :
    ∃ a' cap', v' = .slice a' (n + 1) cap' ∧ Own w1 base a' (n + 1) cap' z := by
  refine own_mk ?_
  rw [List.range_succ, List.map_append]
  simp only [List.map_cons, List.map_nil]
  rw [← hx]; exact ht

set_option maxHeartbeats 2000000 in
set_option maxRecDepth 100000 in
theorem rtimes_any (a : Option Addr) (cap R : Nat) (A : Nat → Option Addr) (L C : Nat → Nat) (Z : Nat → Nat → Int) (ax : Option Addr) (n cx : Nat) (z : Nat → Int) (w : World)
    (hm : Mat w a R A L C Z) (hz : Ints w ax n z) (ht : Tame R n L Z z) :
    Calls Try.prog 21 #[.slice a R cap, .slice ax n cx] w fun e w' => ∃ a' cap', e = .returned (.slice a' R cap') ∧ Own w' w.heap.size a' R cap' (fun j => dotN (Z j) z n) ∧ Below w.heap.size w w' := by
  have hR := ht.rows
  have hn := ht.len
  go_enter Try.func21, Try.ntmps21
  go_wp2
  go_loopw [5, 13] (fun v i wr => ∃ k : Nat, k ≤ R ∧ i = .int .i64 k ∧ (∃ a' cap', v = .slice a' k cap' ∧ Own wr w.heap.size a' k cap' (fun j => dotN (Z j) z n)) ∧ Below w.heap.size w wr) (fun _ i _ => R - (intOf i).toNat)
  case atStart => exact ⟨0, Nat.zero_le _, rfl, ⟨none, 0, rfl, World.ownsRow_nil _ _ _ _⟩, Below.refl _ _⟩
  case round =>
    obtain ⟨k, hk, rfl, ⟨a', cap', rfl, hO⟩, hb⟩ := hrel
    by_cases hlt : k < R
    · obtain ⟨b, o, rfl, hck⟩ := (hm.keep (Nat.le_refl _) hb).row k hlt
      have hzi := (hm.keep (Nat.le_refl _) hb).ints k hlt
      have hzx := hz.keep (Nat.le_refl _) hb
      have hL := ht.each k hlt
      rw [hL] at hzi hck
      generalize A k = Ak at hzi hck
      have hlow := Lib.hid (ht.low k hlt)
      have hnum := Lib.hid ht.num
      have HO := Lib.hid hO
      have HB := Lib.hid hb
      clear hm hz hL hO hb ht
      obtain ⟨wo, hwo⟩ : ∃ wo : World, wo = wr := ⟨_, rfl⟩
      subst hwo
      go_wp2
      go_loop [8, 19] (fun s i => ∃ k' : Nat, k' ≤ n ∧ i = .int .i64 k' ∧ s = .int .i64 (dotN (Z k) z k')) (fun _ i => n - (intOf i).toNat)
      case atStart => exact ⟨0, Nat.zero_le _, rfl, rfl⟩
      case round =>
        obtain ⟨m, hm', rfl, rfl⟩ := hrel
        by_cases hlt' : m < n
        · obtain ⟨b1, o1, rfl, hc1⟩ := hzi m hlt'
          obtain ⟨b2, o2, rfl, hc2⟩ := hzx m hlt'
          have hmul := mul_two (hlow.out m hlt').1 (hlow.out m hlt').2 (hnum.out m hlt').1 (hnum.out m hlt').2
          have hd := dotN_bd (f := Z k) (g := z) (M := 1000000) m (fun j hj => hlow.out j (by omega)) (fun j hj => hnum.out j (by omega)) (by omega) (by omega)
          clear hzi hzx
          go_wp2
          go_round
          case rel => exact ⟨m + 1, by omega, by go_num, rfl⟩
          case measure => simp [intOf]; omega
        · have e : m = n := by omega
          subst e
          have hBs := HB.out.size
          clear hzi hzx hck
          obtain ⟨i0, hi, hz0, hz1, hz2⟩ := info_parts Try.info3
          go_wp2_with (at_builtin; refine wpList_append_own _ rfl _ _ 23 rfl w.heap.size 3 i0 (.int .i64 0) 1 8 Try.underlying23 hi hz0 hz1 hz2 rfl (by decide) _ _ _ rfl (HO.out.alloc _) ⟨wo.heap.size, 0, none⟩ 1 1 [.int .i64 (dotN (Z k) z m)] rfl rfl (one_new _ _ _) (one_ok _ rfl) (by unfold maxLen; omega) (by omega) (by simp; omega) ?_)
          intro v' w2 hown hgrow _
          have hB' : Below w.heap.size w w2 := (HB.out.alloc (by omega) _).grown hgrow (by simp; omega) (fun k hk => (World.ownsRow.lt HO.out k hk).1)
          obtain ⟨a2, cap2, rfl, hO2⟩ := Own.snoc HO.out hown rfl
          clear hown hgrow
          go_wp2
          go_roundw
          case rel => exact ⟨k + 1, by omega, by go_num, ⟨_, _, rfl, hO2⟩, hB'⟩
          case measure => simp [intOf]; omega
    · have e : k = R := by omega
      subst e
      have HO := Lib.hid hO
      clear hO
      go_wp2
      go_ret
      exact ⟨_, _, rfl, HO.out, hb⟩
end Go.Proofs.Ytaglbnblfhfkeaa
