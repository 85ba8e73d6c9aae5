import Derived.Test.YtfommfgokpiieabDoorA2
namespace Go.Proofs.YtfommfgokpiieabDoor
open Go.RowKit

def cmp1 (x y : Int) : Int := if x < y then -1 else if y < x then 1 else 0

set_option maxHeartbeats 1000000 in
theorem isNaN_any (x : Int) (w : World) : Calls Tryd.prog 80 #[.int .i64 x] w fun e w' => e = .returned (.bool false) ∧ w = w' := by
  have G : (x != x) = false := by simp
  have H := Lib.hid G
  go_enter Tryd.func80, Tryd.ntmps80
  go_wp2
  go_ret
  exact ⟨rfl, rfl⟩

set_option maxHeartbeats 1000000 in
theorem cmpCompare_any (x y : Int) (w : World) : Calls Tryd.prog 66 #[.int .i64 x, .int .i64 y] w fun e w' => e = .returned (.int .i64 (cmp1 x y)) ∧ w = w' := by
  rcases Int.lt_trichotomy x y with h | h | h
  · have e := Lib.hid (show cmp1 x y = -1 by simp [cmp1, h])
    go_enter Tryd.func66, Tryd.ntmps66
    go_wp2_with (go_at_call 80; refine (isNaN_any _ _).mono ?_; rintro e w' ⟨rfl, rfl⟩)
    go_ret
    exact ⟨by rw [e.out]; rfl, rfl⟩
  · have e := Lib.hid (show cmp1 x y = 0 by simp [cmp1, h])
    have h1 : x ≤ y := by omega
    have h2 : y ≤ x := by omega
    clear h
    go_enter Tryd.func66, Tryd.ntmps66
    go_wp2_with (go_at_call 80; refine (isNaN_any _ _).mono ?_; rintro e w' ⟨rfl, rfl⟩)
    go_ret
    exact ⟨by rw [e.out]; rfl, rfl⟩
  · have e := Lib.hid (show cmp1 x y = 1 by have : ¬ x < y := by omega
                                            simp [cmp1, h, this])
    have h1 : y ≤ x := by omega
    go_enter Tryd.func66, Tryd.ntmps66
    go_wp2_with (go_at_call 80; refine (isNaN_any _ _).mono ?_; rintro e w' ⟨rfl, rfl⟩)
    go_ret
    exact ⟨by rw [e.out]; rfl, rfl⟩

/-- What comparing two slices of numbers gives. -/
def CmpN (n m : Nat) (x y : Nat → Int) (r : Int) : Prop :=
  (r = 0 ∧ n = m ∧ ∀ j, j < n → x j = y j) ∨ (r = -1 ∧ ∃ k, k ≤ n ∧ k < m ∧ (∀ j, j < k → x j = y j) ∧ (k < n → x k < y k)) ∨ (r = 1 ∧ ∃ k, k < n ∧ k ≤ m ∧ (∀ j, j < k → x j = y j) ∧ (k < m → y k < x k))
def SomeCmp (n m : Nat) (x y : Nat → Int) (w : World) (e : Ending) (w' : World) : Prop := ∃ r : Int, CmpN n m x y r ∧ e = .returned (.int .i64 r) ∧ w = w'

set_option maxHeartbeats 2000000 in
theorem compare_any (ax ay : Option Addr) (cx cy n m : Nat) (x y : Nat → Int) (w : World) (hs : n ≤ 140737488351232) (_ : m ≤ 140737488351232) (hx : Ints w ax n x) (hy : Ints w ay m y) :
    Calls Tryd.prog 54 #[.slice ax n cx, .slice ay m cy] w fun e w' => SomeCmp n m x y w e w' := by
  go_enter Tryd.func54, Tryd.ntmps54
  go_wp2
  go_loop [11] (fun i => ∃ k : Nat, k ≤ n ∧ k ≤ m ∧ i = .int .i64 k ∧ Hid (∀ j, j < k → x j = y j)) (fun i => n - (intOf i).toNat)
  case atStart => exact ⟨0, Nat.zero_le _, Nat.zero_le _, rfl, fun j hj => absurd hj (Nat.not_lt_zero _)⟩
  case round =>
    obtain ⟨k, hk, hkm, rfl, hr⟩ := hrel
    by_cases hlt : k < n
    · obtain ⟨b, o, rfl, hck⟩ := hx k hlt
      by_cases hltm : k < m
      · obtain ⟨b', o', rfl, hcy⟩ := hy k hltm
        clear hx hy
        rcases Int.lt_trichotomy (x k) (y k) with h | h | h
        · have hf : Hid (CmpN n m x y (-1)) := Or.inr (Or.inl ⟨rfl, k, hk, hltm, hr.out, fun _ => h⟩)
          have hc := Lib.hid (show cmp1 (x k) (y k) = -1 by simp [cmp1, h])
          clear h
          go_wp2_with (go_at_call 66; refine (cmpCompare_any _ _ _).mono ?_; rw [hc.out]; rintro e w' ⟨rfl, rfl⟩)
          go_ret
          exact ⟨_, hf.out, rfl, rfl⟩
        · have hn : Hid (∀ j, j < k + 1 → x j = y j) := by
            intro j hj
            by_cases e : j = k
            · subst e; exact h
            · exact hr.out j (by omega)
          have hc := Lib.hid (show cmp1 (x k) (y k) = 0 by simp [cmp1, h])
          clear h
          go_wp2_with (go_at_call 66; refine (cmpCompare_any _ _ _).mono ?_; rw [hc.out]; rintro e w' ⟨rfl, rfl⟩)
          go_round
          case rel => exact ⟨k + 1, by omega, by omega, by go_num, hn⟩
          case measure => simp [intOf]; omega
        · have hf : Hid (CmpN n m x y 1) := Or.inr (Or.inr ⟨rfl, k, hlt, hkm, hr.out, fun _ => h⟩)
          have hc := Lib.hid (show cmp1 (x k) (y k) = 1 by have : ¬ x k < y k := by omega
                                                           simp [cmp1, h, this])
          clear h
          go_wp2_with (go_at_call 66; refine (cmpCompare_any _ _ _).mono ?_; rw [hc.out]; rintro e w' ⟨rfl, rfl⟩)
          go_ret
          exact ⟨_, hf.out, rfl, rfl⟩
      · have hf : Hid (CmpN n m x y 1) := Or.inr (Or.inr ⟨rfl, k, hlt, hkm, hr.out, fun h => absurd h hltm⟩)
        clear hx hy
        go_wp2
        go_ret
        exact ⟨_, hf.out, rfl, rfl⟩
    · by_cases hltm : k < m
      · have hf : Hid (CmpN n m x y (-1)) := Or.inr (Or.inl ⟨rfl, k, hk, hltm, hr.out, fun h => absurd h hlt⟩)
        have hnm : n < m := by omega
        clear hx hy
        go_wp2
        go_ret
        exact ⟨_, hf.out, rfl, rfl⟩
      · have hf : Hid (CmpN n m x y 0) := Or.inl ⟨rfl, by omega, fun j hj => hr.out j (by omega)⟩
        have hnm : m ≤ n := by omega
        clear hx hy
        go_wp2
        go_ret
        exact ⟨_, hf.out, rfl, rfl⟩

/-- What comparing two points gives. -/
def cmpP (x0 y0 x1 y1 : Int) : Int := if x0 < x1 then -1 else if x1 < x0 then 1 else if y0 < y1 then -1 else if y1 < y0 then 1 else 0
def at2 (x y : Int) (j : Nat) : Int := if j = 0 then x else y
theorem cmpN_pt {x0 y0 x1 y1 r : Int} (h : CmpN 2 2 (at2 x0 y0) (at2 x1 y1) r) : r = cmpP x0 y0 x1 y1 := by
  rcases h with ⟨rfl, _, h⟩ | ⟨rfl, k, h1, h2, h, h3⟩ | ⟨rfl, k, h1, h2, h, h3⟩
  · have a := h 0 (by omega); have b := h 1 (by omega)
    simp [at2] at a b
    simp [cmpP, a, b]
  · have hk : k = 0 ∨ k = 1 := by omega
    rcases hk with rfl | rfl
    · have := h3 (by omega); simp [at2] at this; simp [cmpP, this]
    · have a := h 0 (by omega); have b := h3 (by omega)
      simp [at2] at a b
      simp [cmpP, a, b]
  · have hk : k = 0 ∨ k = 1 := by omega
    rcases hk with rfl | rfl
    · have := h3 (by omega); simp [at2] at this
      have n : ¬ x0 < x1 := by omega
      simp [cmpP, this, n]
    · have a := h 0 (by omega); have b := h3 (by omega)
      simp [at2] at a b
      have n : ¬ y0 < y1 := by omega
      simp [cmpP, a, b, n]
theorem pt_ints {w : World} {b : Nat} {x y : Int} {T : TypeId} (h : w.heap[b]? = some (.cells #[.int .i64 x, .int .i64 y] T)) : Ints w (some ⟨b, 0, none⟩) 2 (at2 x y) := by
  intro j hj
  have e : j = 0 ∨ j = 1 := by omega
  rcases e with rfl | rfl
  · exact ⟨b, 0, rfl, block_cell h 0⟩
  · exact ⟨b, 0, rfl, block_cell h 1⟩
theorem ints_drewN {w : World} {a : Option Addr} {n : Nat} {z : Nat → Int} (h : Ints w a n z) (q : Nat) : Ints (w.drewN q) a n z := h
theorem slice_pt (b : Nat) (w : World) : (Instr.sliceAt 23 (.pointer (some ⟨b, 0, none⟩)) none none none).run Tryd.prog w = .ok (.slice (some ⟨b, 0, none⟩) 2 2) w := by kernel_rfl

set_option maxHeartbeats 2000000 in
set_option maxRecDepth 100000 in
theorem mcompare_any (x0 y0 x1 y1 : Int) (W : World) : Calls Tryd.prog 42 #[pV x0 y0, pV x1 y1] W fun e w' => e = .returned (.int .i64 (cmpP x0 y0 x1 y1)) ∧ Below W.heap.size W w' := by
  have i0 := pt_ints (heap_two1 W (.cells #[.int .i64 x0, .int .i64 y0] 23) (.cells #[.int .i64 x1, .int .i64 y1] 23))
  have i1 := pt_ints (heap_two2 W (.cells #[.int .i64 x0, .int .i64 y0] 23) (.cells #[.int .i64 x1, .int .i64 y1] 23))
  have HB := Lib.hid (two_le W (.cells #[.int .i64 x0, .int .i64 y0] 23) (.cells #[.int .i64 x1, .int .i64 y1] 23))
  have main : ∀ n, Calls Tryd.prog 54 #[.slice (some ⟨W.heap.size, 0, none⟩) 2 2, .slice (some ⟨W.heap.size + 1, 0, none⟩) 2 2] (((W.alloc (.cells #[.int .i64 x0, .int .i64 y0] 23)).alloc (.cells #[.int .i64 x1, .int .i64 y1] 23)).drewN n) fun e w' => e = .returned (.int .i64 (cmpP x0 y0 x1 y1)) ∧ w' = ((W.alloc (.cells #[.int .i64 x0, .int .i64 y0] 23)).alloc (.cells #[.int .i64 x1, .int .i64 y1] 23)).drewN n := fun n =>
    (compare_any _ _ 2 2 2 2 (at2 x0 y0) (at2 x1 y1) _ (by omega) (by omega) (ints_drewN i0 n) (ints_drewN i1 n)).mono fun e w' ⟨r, h1, h2, h3⟩ => ⟨by rw [h2, cmpN_pt h1], h3.symm⟩
  have Main := Lib.hid main
  clear main i0 i1
  have sv := slice_pt
  go_enter Tryd.func42, Tryd.ntmps42
  go_wp2
  go_quiet ((go_at_call 54; exact Calls.quiet_of_same (Main.out _)))
  go_wp2
  go_ret
  exact ⟨rfl, below_drewN HB.out _⟩

end Go.Proofs.YtfommfgokpiieabDoor
