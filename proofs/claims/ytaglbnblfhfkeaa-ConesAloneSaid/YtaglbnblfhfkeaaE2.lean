import Derived.Test.YtaglbnblfhfkeaaD6
import Derived.Test.YtaglbnblfhfkeaaMath3
import Derived.Sort.Grow
namespace Go.Proofs.Ytaglbnblfhfkeaa
open Go.RowKit

def cmp1 (x y : Int) : Int := if x < y then -1 else if y < x then 1 else 0

set_option maxHeartbeats 1000000 in
theorem isNaN_any (x : Int) (w : World) : Calls Try.prog 109 #[.int .i64 x] w fun e w' => e = .returned (.bool false) ∧ w = w' := by
  have G : (x != x) = false := by simp
  have H := Lib.hid G
  go_enter Try.func109, Try.ntmps109
  go_wp2
  go_ret
  exact ⟨rfl, rfl⟩

set_option maxHeartbeats 1000000 in
theorem cmpCompare_any (x y : Int) (w : World) : Calls Try.prog 89 #[.int .i64 x, .int .i64 y] w fun e w' => e = .returned (.int .i64 (cmp1 x y)) ∧ w = w' := by
  rcases Int.lt_trichotomy x y with h | h | h
  · have e := Lib.hid (show cmp1 x y = -1 by simp [cmp1, h])
    go_enter Try.func89, Try.ntmps89
    go_wp2_with (go_at_call 109; refine (isNaN_any _ _).mono ?_; rintro e w' ⟨rfl, rfl⟩)
    go_ret
    exact ⟨by rw [e.out]; rfl, rfl⟩
  · have e := Lib.hid (show cmp1 x y = 0 by simp [cmp1, h])
    have h1 : x ≤ y := by omega
    have h2 : y ≤ x := by omega
    clear h
    go_enter Try.func89, Try.ntmps89
    go_wp2_with (go_at_call 109; refine (isNaN_any _ _).mono ?_; rintro e w' ⟨rfl, rfl⟩)
    go_ret
    exact ⟨by rw [e.out]; rfl, rfl⟩
  · have e := Lib.hid (show cmp1 x y = 1 by have : ¬ x < y := by omega
                                            simp [cmp1, h, this])
    have h1 : y ≤ x := by omega
    go_enter Try.func89, Try.ntmps89
    go_wp2_with (go_at_call 109; refine (isNaN_any _ _).mono ?_; rintro e w' ⟨rfl, rfl⟩)
    go_ret
    exact ⟨by rw [e.out]; rfl, rfl⟩

/-- What comparing two slices of numbers gives. -/
def CmpN (n m : Nat) (x y : Nat → Int) (r : Int) : Prop :=
  (r = 0 ∧ n = m ∧ ∀ j, j < n → x j = y j) ∨ (r = -1 ∧ ∃ k, k ≤ n ∧ k < m ∧ (∀ j, j < k → x j = y j) ∧ (k < n → x k < y k)) ∨ (r = 1 ∧ ∃ k, k < n ∧ k ≤ m ∧ (∀ j, j < k → x j = y j) ∧ (k < m → y k < x k))
def SomeCmp (n m : Nat) (x y : Nat → Int) (w : World) (e : Ending) (w' : World) : Prop := ∃ r : Int, CmpN n m x y r ∧ e = .returned (.int .i64 r) ∧ w = w'

set_option maxHeartbeats 2000000 in
theorem compare_any (ax ay : Option Addr) (cx cy n m : Nat) (x y : Nat → Int) (w : World) (hs : n ≤ 140737488351232) (_ : m ≤ 140737488351232) (hx : Ints w ax n x) (hy : Ints w ay m y) :
    Calls Try.prog 46 #[.slice ax n cx, .slice ay m cy] w fun e w' => SomeCmp n m x y w e w' := by
  go_enter Try.func46, Try.ntmps46
  go_wp2
  go_loop [11] (fun i => ∃ k : Nat, k ≤ n ∧ k ≤ m ∧ i = .int .i64 k ∧ Hid (∀ j, j < k → x j = y j)) (fun i => n - (intOf i).toNat)
  case atStart => exact ⟨0, Nat.zero_le _, Nat.zero_le _, rfl, fun j hj => absurd hj (Nat.not_lt_zero _)⟩
  case round =>
    obtain ⟨k, hk, hkm, rfl, hr⟩ := hrel
    by_cases hlt : k < n
    · obtain ⟨b, o, rfl, hck⟩ := hx k hlt
      by_cases hltm : k < m
      · obtain ⟨b', o', rfl, hcy⟩ := hy k hltm
        clear hx hy
        rcases Int.lt_trichotomy (x k) (y k) with h | h | h
        · have hf : Hid (CmpN n m x y (-1)) := Or.inr (Or.inl ⟨rfl, k, hk, hltm, hr.out, fun _ => h⟩)
          have hc := Lib.hid (show cmp1 (x k) (y k) = -1 by simp [cmp1, h])
          clear h
          go_wp2_with (go_at_call 89; refine (cmpCompare_any _ _ _).mono ?_; rw [hc.out]; rintro e w' ⟨rfl, rfl⟩)
          go_ret
          exact ⟨_, hf.out, rfl, rfl⟩
        · have hn : Hid (∀ j, j < k + 1 → x j = y j) := by
            intro j hj
            by_cases e : j = k
            · subst e; exact h
            · exact hr.out j (by omega)
          have hc := Lib.hid (show cmp1 (x k) (y k) = 0 by simp [cmp1, h])
          clear h
          go_wp2_with (go_at_call 89; refine (cmpCompare_any _ _ _).mono ?_; rw [hc.out]; rintro e w' ⟨rfl, rfl⟩)
          go_round
          case rel => exact ⟨k + 1, by omega, by omega, by go_num, hn⟩
          case measure => simp [intOf]; omega
        · have hf : Hid (CmpN n m x y 1) := Or.inr (Or.inr ⟨rfl, k, hlt, hkm, hr.out, fun _ => h⟩)
          have hc := Lib.hid (show cmp1 (x k) (y k) = 1 by have : ¬ x k < y k := by omega
                                                           simp [cmp1, h, this])
          clear h
          go_wp2_with (go_at_call 89; refine (cmpCompare_any _ _ _).mono ?_; rw [hc.out]; rintro e w' ⟨rfl, rfl⟩)
          go_ret
          exact ⟨_, hf.out, rfl, rfl⟩
      · have hf : Hid (CmpN n m x y 1) := Or.inr (Or.inr ⟨rfl, k, hlt, hkm, hr.out, fun h => absurd h hltm⟩)
        clear hx hy
        go_wp2
        go_ret
        exact ⟨_, hf.out, rfl, rfl⟩
    · by_cases hltm : k < m
      · have hf : Hid (CmpN n m x y (-1)) := Or.inr (Or.inl ⟨rfl, k, hk, hltm, hr.out, fun h => absurd h hlt⟩)
        have hnm : n < m := by omega
        clear hx hy
        go_wp2
        go_ret
        exact ⟨_, hf.out, rfl, rfl⟩
      · have hf : Hid (CmpN n m x y 0) := Or.inl ⟨rfl, by omega, fun j hj => hr.out j (by omega)⟩
        have hnm : m ≤ n := by omega
        clear hx hy
        go_wp2
        go_ret
        exact ⟨_, hf.out, rfl, rfl⟩

theorem cmpN_vec {u v : Vec} {r : Int} (h : CmpN 4 4 u.at' v.at' r) : r = cmpV u v := by
  rcases h with ⟨rfl, _, h⟩ | ⟨rfl, k, _, hk, h, h2⟩ | ⟨rfl, k, hk, _, h, h2⟩
  · have h0 := h 0 (by omega); have h1 := h 1 (by omega); have h2 := h 2 (by omega); have h3 := h 3 (by omega)
    simp only [Vec.at'] at h0 h1 h2 h3
    unfold cmpV
    repeat' split
    all_goals omega
  · have h2 := h2 hk
    have e : k = 0 ∨ k = 1 ∨ k = 2 ∨ k = 3 := by omega
    rcases e with rfl | rfl | rfl | rfl
    · simp only [Vec.at'] at h2
      unfold cmpV; repeat' split
      all_goals omega
    · have h0 := h 0 (by omega)
      simp only [Vec.at'] at h2 h0
      unfold cmpV; repeat' split
      all_goals omega
    · have h0 := h 0 (by omega); have h1 := h 1 (by omega)
      simp only [Vec.at'] at h2 h0 h1
      unfold cmpV; repeat' split
      all_goals omega
    · have h0 := h 0 (by omega); have h1 := h 1 (by omega); have h3 := h 2 (by omega)
      simp only [Vec.at'] at h2 h0 h1 h3
      unfold cmpV; repeat' split
      all_goals omega
  · have h2 := h2 hk
    have e : k = 0 ∨ k = 1 ∨ k = 2 ∨ k = 3 := by omega
    rcases e with rfl | rfl | rfl | rfl
    · simp only [Vec.at'] at h2
      unfold cmpV; repeat' split
      all_goals omega
    · have h0 := h 0 (by omega)
      simp only [Vec.at'] at h2 h0
      unfold cmpV; repeat' split
      all_goals omega
    · have h0 := h 0 (by omega); have h1 := h 1 (by omega)
      simp only [Vec.at'] at h2 h0 h1
      unfold cmpV; repeat' split
      all_goals omega
    · have h0 := h 0 (by omega); have h1 := h 1 (by omega); have h3 := h 2 (by omega)
      simp only [Vec.at'] at h2 h0 h1 h3
      unfold cmpV; repeat' split
      all_goals omega

theorem vec_ints {w : World} {b : Nat} {v : Vec} (c : w.cell? ⟨b, 0, none⟩ = some (.int .i64 v.a) ∧ w.cell? ⟨b, 1, none⟩ = some (.int .i64 v.b) ∧ w.cell? ⟨b, 2, none⟩ = some (.int .i64 v.c) ∧ w.cell? ⟨b, 3, none⟩ = some (.int .i64 v.d)) : Ints w (some ⟨b, 0, none⟩) 4 v.at' := by
  obtain ⟨c0, c1, c2, c3⟩ := c
  intro j hj
  have e : j = 0 ∨ j = 1 ∨ j = 2 ∨ j = 3 := by omega
  rcases e with rfl | rfl | rfl | rfl
  · exact ⟨b, 0, rfl, c0⟩
  · exact ⟨b, 0, rfl, c1⟩
  · exact ⟨b, 0, rfl, c2⟩
  · exact ⟨b, 0, rfl, c3⟩

theorem ints_drewN {w : World} {a : Option Addr} {n : Nat} {z : Nat → Int} (h : Ints w a n z) (q : Nat) : Ints (w.drewN q) a n z := h

theorem slice_vec (b : Nat) (w : World) : (Instr.sliceAt 61 (.pointer (some ⟨b, 0, none⟩)) none none none).run Try.prog w = .ok (.slice (some ⟨b, 0, none⟩) 4 4) w := by kernel_rfl

set_option maxHeartbeats 2000000 in
set_option maxRecDepth 100000 in
theorem vcompare_any (u v : Vec) (W : World) : Calls Try.prog 95 #[.agg #[.int .i64 (u).a, .int .i64 (u).b, .int .i64 (u).c, .int .i64 (u).d], .agg #[.int .i64 (v).a, .int .i64 (v).b, .int .i64 (v).c, .int .i64 (v).d]] W fun e w' => e = .returned (.int .i64 (cmpV u v)) ∧ ∃ q os', w' = Sort.grow (W.drewN q) os' := by
  have i0 := vec_ints (w := (W.alloc (.cells #[.int .i64 (u).a, .int .i64 (u).b, .int .i64 (u).c, .int .i64 (u).d] 61)).alloc (.cells #[.int .i64 (v).a, .int .i64 (v).b, .int .i64 (v).c, .int .i64 (v).d] 61)) (b := W.heap.size) (v := u) ⟨block_cell (heap_two1 _ _ _) 0, block_cell (heap_two1 _ _ _) 1, block_cell (heap_two1 _ _ _) 2, block_cell (heap_two1 _ _ _) 3⟩
  have i1 := vec_ints (w := (W.alloc (.cells #[.int .i64 (u).a, .int .i64 (u).b, .int .i64 (u).c, .int .i64 (u).d] 61)).alloc (.cells #[.int .i64 (v).a, .int .i64 (v).b, .int .i64 (v).c, .int .i64 (v).d] 61)) (b := W.heap.size + 1) (v := v) ⟨block_cell (heap_two2 _ _ _) 0, block_cell (heap_two2 _ _ _) 1, block_cell (heap_two2 _ _ _) 2, block_cell (heap_two2 _ _ _) 3⟩
  have main : ∀ n, Calls Try.prog 46 #[.slice (some ⟨W.heap.size, 0, none⟩) 4 4, .slice (some ⟨W.heap.size + 1, 0, none⟩) 4 4] (((W.alloc (.cells #[.int .i64 (u).a, .int .i64 (u).b, .int .i64 (u).c, .int .i64 (u).d] 61)).alloc (.cells #[.int .i64 (v).a, .int .i64 (v).b, .int .i64 (v).c, .int .i64 (v).d] 61)).drewN n) fun e w' => e = .returned (.int .i64 (cmpV u v)) ∧ w' = ((W.alloc (.cells #[.int .i64 (u).a, .int .i64 (u).b, .int .i64 (u).c, .int .i64 (u).d] 61)).alloc (.cells #[.int .i64 (v).a, .int .i64 (v).b, .int .i64 (v).c, .int .i64 (v).d] 61)).drewN n := fun n =>
    (compare_any _ _ 4 4 4 4 u.at' v.at' _ (by omega) (by omega) (ints_drewN i0 n) (ints_drewN i1 n)).mono fun e w' ⟨r, h1, h2, h3⟩ => ⟨by rw [h2, cmpN_vec h1], h3.symm⟩
  have Main := Lib.hid main
  clear main i0 i1
  have sv := slice_vec
  go_enter Try.func95, Try.ntmps95
  go_wp2
  go_quiet ((go_at_call 46; exact Calls.quiet_of_same (Main.out _)))
  go_wp2
  go_ret
  exact ⟨rfl, _, _, by rw [Sort.alloc_eq_grow, Sort.alloc_eq_grow, Sort.grow_grow]; rfl⟩

end Go.Proofs.Ytaglbnblfhfkeaa
