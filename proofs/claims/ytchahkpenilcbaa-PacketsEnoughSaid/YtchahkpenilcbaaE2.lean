import Derived.Test.YtchahkpenilcbaaE1
namespace Go.Proofs.Ytchahkpenilcbaa
open Go.RowKit Go.Shelf

/-- The first number of packets that is enough. -/
def enR (ls : Nat → Bool) : Int × Int := match (List.range 9).find? (fun k => !ls k) with
  | some k => ((k : Int), 0)
  | none => (0, 4)
theorem enR_at {ls : Nat → Bool} {k : Nat} (hk : k < 9) (h : ls k = false) (h2 : ∀ j, j < k → ls j = true) : enR ls = ((k : Int), 0) := by
  unfold enR
  have e : (List.range 9).find? (fun k => !ls k) = some k := by
    rw [List.find?_eq_some_iff_getElem]
    refine ⟨by simp [h], k, by simp; exact hk, by simp, fun j hj => by simp [h2 j hj]⟩
  rw [e]
theorem enR_no {ls : Nat → Bool} (h2 : ∀ j, j < 9 → ls j = true) : enR ls = (0, 4) := by
  unfold enR
  have e : (List.range 9).find? (fun k => !ls k) = none := by
    rw [List.find?_eq_none]
    intro x hx
    simp [h2 x (by simpa using hx)]
  rw [e]
/-- Is the chance that a set is there less than p / q? -/
def lsB (z : Nat → Int) (n s : Nat) (p q : Int) (k : Nat) : Bool := decide (frA (doC z (2 ^ n - 1) s k) (LK z n k) * q < p * (frB (doC z (2 ^ n - 1) s k) (LK z n k) : Nat))

theorem less_any (A B p q : Int) (w : World) (h1 : 0 ≤ A * q) (h2 : A * q ≤ 4611686018427387903) (h3 : 0 ≤ p * B) (h4 : p * B ≤ 4611686018427387903) :
    Calls Try.prog 65 #[.agg #[.int .i64 A, .int .i64 B], .agg #[.int .i64 p, .int .i64 q]] w fun e w' => e = .returned (.bool (decide (A * q < p * B))) ∧ Below w.heap.size w w' := by
  have u1 : wrap64 (A * q) = A * q := IntWalk.wrap64_in _ ⟨by omega, by omega⟩
  have u2 : wrap64 (p * B) = p * B := IntWalk.wrap64_in _ ⟨by omega, by omega⟩
  go_enter Try.func65, Try.ntmps65
  go_wp2
  go_ret
  exact ⟨rfl, below_two w _ _⟩

/-- What one round asks. -/
structure EnAt (n : Nat) (z : Nat → Int) (s : Nat) (p q : Int) : Prop where
  hs : s < 2 ^ n
  h1n : 1 ≤ n
  hn : n ≤ 6
  h9 : ∀ j, j < n → 1 ≤ z j ∧ z j ≤ 9
  hp : 0 ≤ p ∧ p ≤ q ∧ 1 ≤ q ∧ q ≤ 100
theorem EnAt.bounds {n : Nat} {z : Nat → Int} {s : Nat} {p q : Int} (h : EnAt n z s p q) {k : Nat} (hk : k ≤ 8) :
    (0 ≤ frA (doC z (2 ^ n - 1) s k) (LK z n k) ∧ frA (doC z (2 ^ n - 1) s k) (LK z n k) ≤ 72301961339136) ∧ 0 < frB (doC z (2 ^ n - 1) s k) (LK z n k) ∧ frB (doC z (2 ^ n - 1) s k) (LK z n k) ≤ 72301961339136 := by
  have hl := LK_bd h.h1n h.hn h.h9 hk
  have h1 := doC_one (z := z) (k := k) h.hs h.hn h.h1n h.h9
  have a1 := (frA_sign (a := doC z (2 ^ n - 1) s k) hl.1).1.2 h1.1
  have a2 := frA_abs (doC z (2 ^ n - 1) s k) hl.1
  have b1 := frB_le (doC z (2 ^ n - 1) s k) (LK z n k)
  have b2 := frB_pos (doC z (2 ^ n - 1) s k) hl.1
  omega
theorem EnAt.less {n : Nat} {z : Nat → Int} {s : Nat} {p q : Int} (h : EnAt n z s p q) {k : Nat} (hk : k ≤ 8) (W : World) :
    Calls Try.prog 65 #[.agg #[.int .i64 (frA (doC z (2 ^ n - 1) s k) (LK z n k)), .int .i64 (frB (doC z (2 ^ n - 1) s k) (LK z n k) : Nat)], .agg #[.int .i64 p, .int .i64 q]] W fun e w' => e = .returned (.bool (lsB z n s p q k)) ∧ Below W.heap.size W w' := by
  obtain ⟨⟨a1, a2⟩, b1, b2⟩ := h.bounds hk
  have hp := h.hp
  have m1 := Int.mul_nonneg a1 (show 0 ≤ q by omega)
  have m2 : frA (doC z (2 ^ n - 1) s k) (LK z n k) * q ≤ 72301961339136 * 100 := by
    calc _ ≤ 72301961339136 * q := Int.mul_le_mul_of_nonneg_right a2 (by omega)
      _ ≤ 72301961339136 * 100 := Int.mul_le_mul_of_nonneg_left (by omega) (by omega)
  have m3 := Int.mul_nonneg (show 0 ≤ p by omega) (show (0 : Int) ≤ (frB (doC z (2 ^ n - 1) s k) (LK z n k) : Nat) by omega)
  have m4 : p * (frB (doC z (2 ^ n - 1) s k) (LK z n k) : Nat) ≤ 100 * 72301961339136 := by
    calc _ ≤ 100 * ((frB (doC z (2 ^ n - 1) s k) (LK z n k) : Nat) : Int) := Int.mul_le_mul_of_nonneg_right (by omega) (by omega)
      _ ≤ 100 * 72301961339136 := Int.mul_le_mul_of_nonneg_left (by omega) (by omega)
  exact less_any _ _ p q W m1 (by omega) m3 (by omega)
theorem EnAt.rless {n : Nat} {z : Nat → Int} {s : Nat} {p q : Int} (h : EnAt n z s p q) {k : Nat} (hk : k ≤ 8) (W : World) :
    Calls Try.prog 45 #[.agg #[.int .i64 (frA (doC z (2 ^ n - 1) s k) (LK z n k)), .int .i64 (frB (doC z (2 ^ n - 1) s k) (LK z n k) : Nat)], .agg #[.int .i64 p, .int .i64 q]] W fun e w' => e = .returned (.bool (lsB z n s p q k)) ∧ Below W.heap.size W w' := by
  obtain ⟨⟨a1, a2⟩, b1, b2⟩ := h.bounds hk
  have hp := h.hp
  unfold lsB
  generalize frA (doC z (2 ^ n - 1) s k) (LK z n k) = A at *
  generalize frB (doC z (2 ^ n - 1) s k) (LK z n k) = B at *
  obtain ⟨A, rfl⟩ : ∃ m : Nat, A = m := ⟨A.toNat, by omega⟩
  obtain ⟨p, rfl⟩ : ∃ m : Nat, p = m := ⟨p.toNat, by omega⟩
  obtain ⟨q, rfl⟩ : ∃ m : Nat, q = m := ⟨q.toNat, by omega⟩
  have hf := rless_any A B p q W (by omega) (by omega) (by omega) (by omega) b1 (by omega)
  have e : decide ((A : Int) * (q : Int) < (p : Int) * (B : Int)) = decide (A * q < p * B) := by
    rw [decide_eq_decide, ← Int.natCast_mul, ← Int.natCast_mul]; omega
  rw [e]
  exact hf

def EnOut (ls : Nat → Bool) (w : World) (e : Ending) (w' : World) : Prop := e = .returned (.tuple #[.int .i64 (enR ls).1, .int .i64 (enR ls).2]) ∧ Below w.heap.size w w'

set_option maxHeartbeats 8000000 in
set_option maxRecDepth 100000 in
theorem fEnough_bad (a : Option Addr) (n cap : Nat) (z : Nat → Int) (s p q : Int) (w : World) (h : okS n z s = false ∨ chB p q = false) (hn : n ≤ 140737488351232) (hz : Ints w a n z) :
    Calls Try.prog 35 #[.slice a n cap, .int .i64 s, .agg #[.int .i64 p, .int .i64 q]] w fun e w' => e = .returned (.tuple #[.int .i64 0, .int .i64 2]) ∧ Below w.heap.size w w' := by
  obtain ⟨W, hW⟩ : ∃ W, W = (w.alloc (.cells #[.int .i64 p, .int .i64 q] 24)).alloc (.cells #[.int .i64 s] 3) := ⟨_, rfl⟩
  have hi : Ints W (some ⟨w.heap.size + 1, 0, none⟩) 1 (fun _ => s) := by
    have hi := ints_one (w.alloc (.cells #[.int .i64 p, .int .i64 q] 24)) s
    rw [World.size_alloc] at hi
    rw [hW]; exact hi
  have hbW : Below w.heap.size w W := by rw [hW]; exact below_two _ _ _
  have hq : W.heap[w.heap.size]? = some (.cells #[.int .i64 p, .int .i64 q] 24) := by rw [hW]; exact heap_two1 w _ _
  obtain ⟨q1, q2, _, _⟩ := fr_cells hq
  have HW := Lib.hid hW
  have HB := Lib.hid hbW
  cases hv : okS n z s
  · have HV := Lib.hid (valid_r false a n cap z (some ⟨w.heap.size + 1, 0, none⟩) 1 1 (fun _ => s) W hv hn (by omega) (hz.keep (Nat.le_refl _) hbW) hi)
    clear h hz hv hi hq hW hbW
    go_enter Try.func35, Try.ntmps35
    go_wp2_with fail
    rw [← HW.out]
    refine HV.out.mono ?_
    rintro e w' ⟨rfl, rfl⟩
    go_wp2
    go_ret2
    exact ⟨rfl, HB.out⟩
  · have hk : chB p q = false := by
      rcases h with h | h
      · rw [hv] at h; cases h
      · exact h
    have HV := Lib.hid (valid_r true a n cap z (some ⟨w.heap.size + 1, 0, none⟩) 1 1 (fun _ => s) W hv hn (by omega) (hz.keep (Nat.le_refl _) hbW) hi)
    have hc := isChance_any p q W
    rw [hk] at hc
    have HC := Lib.hid hc
    clear h hz hv hi hq hW hbW hk hc
    go_enter Try.func35, Try.ntmps35
    go_wp2_with fail
    rw [← HW.out]
    refine HV.out.mono ?_
    rintro e w' ⟨rfl, rfl⟩
    go_wp2_with fail
    refine HC.out.mono ?_
    rintro e w5 ⟨rfl, hb5⟩
    have HB5 := Lib.hid (band HB.out hb5)
    clear hb5
    go_wp2
    go_ret2
    exact ⟨rfl, HB5.out⟩

set_option maxHeartbeats 8000000 in
set_option maxRecDepth 100000 in
theorem fEnough_good (a : Option Addr) (n cap : Nat) (z : Nat → Int) (s : Nat) (p q : Int) (w : World) (h : okS n z s = true) (hch : chB p q = true) (hz : Ints w a n z) :
    Calls Try.prog 35 #[.slice a n cap, .int .i64 s, .agg #[.int .i64 p, .int .i64 q]] w fun e w' => EnOut (lsB z n s p q) w e w' := by
  obtain ⟨t, ht, hs2, h1n, hn6, h9⟩ := okS_nat h
  have ht' : s = t := by omega
  subst ht'
  have hcc := chB_iff.1 hch
  have hE : EnAt n z s p q := ⟨hs2, h1n, hn6, h9, by omega⟩
  obtain ⟨W, hW⟩ : ∃ W, W = (w.alloc (.cells #[.int .i64 p, .int .i64 q] 24)).alloc (.cells #[.int .i64 s] 3) := ⟨_, rfl⟩
  have hi : Ints W (some ⟨w.heap.size + 1, 0, none⟩) 1 (fun _ => (s : Int)) := by
    have hi := ints_one (w.alloc (.cells #[.int .i64 p, .int .i64 q] 24)) s
    rw [World.size_alloc] at hi
    rw [hW]; exact hi
  have hbW : Below w.heap.size w W := by rw [hW]; exact below_two _ _ _
  have hq : W.heap[w.heap.size]? = some (.cells #[.int .i64 p, .int .i64 q] 24) := by rw [hW]; exact heap_two1 w _ _
  have hsW : W.heap.size = w.heap.size + 2 := by rw [hW]; simp
  obtain ⟨q1, q2, _, _⟩ := fr_cells hq
  have HW := Lib.hid hW
  have HB := Lib.hid hbW
  have HQ := Lib.hid hq
  have HV := Lib.hid (valid_r true a n cap z (some ⟨w.heap.size + 1, 0, none⟩) 1 1 (fun _ => (s : Int)) W h (by omega) (by omega) (hz.keep (Nat.le_refl _) hbW) hi)
  have hc := isChance_any p q W
  rw [hch] at hc
  have HC := Lib.hid hc
  have HD := Lib.hid (fun k (hk : k ≤ 8) V (hV : Below w.heap.size w V) => done_any a n cap z s k V hs2 h1n hn6 (hz.keep (Nat.le_refl _) hV) h9 hk)
  have HLs := Lib.hid (fun k (hk : k ≤ 8) V => hE.less hk V)
  clear h hz hi hq hW hbW hch hc hE h9 hcc ht
  go_enter Try.func35, Try.ntmps35
  go_wp2_with fail
  rw [← HW.out]
  refine HV.out.mono ?_
  rintro e w' ⟨rfl, rfl⟩
  go_wp2_with fail
  refine HC.out.mono ?_
  rintro e w5 ⟨rfl, hb5⟩
  have HQ5 := Lib.hid (frAt HQ.out hb5)
  have HB5 := Lib.hid (band HB.out hb5)
  clear hb5 q1 q2
  go_wp2
  go_loopw [8, 19] (fun _ i wr => ∃ k : Nat, k ≤ 9 ∧ i = .int .i64 k ∧ Hid (∀ j, j < k → lsB z n s p q j = true) ∧ wr.heap[w.heap.size]? = some (.cells #[.int .i64 p, .int .i64 q] 24) ∧ Below w.heap.size w wr) (fun _ i _ => 9 - (intOf i).toNat)
  case atStart => exact ⟨0, by omega, rfl, fun j hj => absurd hj (Nat.not_lt_zero _), HQ5.out, HB5.out⟩
  case round =>
    obtain ⟨k, hk, rfl, hr, hq, hb⟩ := hrel
    have HQr := Lib.hid hq
    have HBr := Lib.hid hb
    obtain ⟨q1, q2, _, _⟩ := fr_cells hq
    clear hq hb
    by_cases hlt : k < 9
    · have hk8 : k ≤ 8 := by omega
      have HDk := Lib.hid (HD.out k hk8 wr.drew HBr.out.drew)
      have HLk := Lib.hid (HLs.out k hk8)
      cases hls : lsB z n s p q k
      · have HF := Lib.hid (enR_at hlt hls hr.out)
        rw [hls] at HLk
        clear hls
        go_wp2
        go_region_with (first
          | (go_at_call 58; refine HDk.out.mono ?_; rintro e w6 ⟨rfl, hb6⟩; obtain ⟨x1, x2, _, _⟩ := fr_cells (frAt HQr.out (below_drew1 hb6)); have HB6 := Lib.hid (band HBr.out (below_drew1 hb6)); clear hb6)
          | (go_at_call 65; refine (HLk.out _).mono ?_; rintro e w7 ⟨rfl, hb7⟩; have HB7 := Lib.hid (band HB6.out hb7); clear hb7))
        all_goals
          go_wp2
          go_ret2
          exact ⟨by rw [HF.out]; rfl, HB7.out⟩
      · have HN : Hid (∀ j, j < k + 1 → lsB z n s p q j = true) := by
          intro j hj
          by_cases e : j = k
          · subst e; exact hls
          · exact hr.out j (by omega)
        rw [hls] at HLk
        clear hls
        go_wp2
        go_region_with (first
          | (go_at_call 58; refine HDk.out.mono ?_; rintro e w6 ⟨rfl, hb6⟩; have hq6 := frAt HQr.out (below_drew1 hb6); obtain ⟨x1, x2, _, _⟩ := fr_cells hq6; have HQ6 := Lib.hid hq6; have HB6 := Lib.hid (band HBr.out (below_drew1 hb6)); clear hb6 hq6)
          | (go_at_call 65; refine (HLk.out _).mono ?_; rintro e w7 ⟨rfl, hb7⟩; have HQ7 := Lib.hid (frAt HQ6.out hb7); have HB7 := Lib.hid (band HB6.out hb7); clear hb7))
        all_goals
          go_wp2
          go_roundw
          case rel => exact ⟨k + 1, by omega, by go_num, HN, HQ7.out, HB7.out⟩
          case measure => simp [intOf]; omega
    · have e : k = 9 := by omega
      have HF := Lib.hid (enR_no (ls := lsB z n s p q) (fun j hj => hr.out j (by omega)))
      have hge : (9 : Int) ≤ k := by omega
      clear e
      go_wp2
      go_ret2
      exact ⟨by rw [HF.out]; rfl, HBr.out⟩

set_option maxHeartbeats 8000000 in
set_option maxRecDepth 100000 in
theorem renough_any (a : Option Addr) (n cap : Nat) (z : Nat → Int) (s : Nat) (p q : Int) (w : World) (h : okS n z s = true) (hch : chB p q = true) (hz : Ints w a n z) :
    Calls Try.prog 37 #[.slice a n cap, .int .i64 s, .agg #[.int .i64 p, .int .i64 q]] w fun e w' => EnOut (lsB z n s p q) w e w' := by
  obtain ⟨t, ht, hs2, h1n, hn6, h9⟩ := okS_nat h
  have ht' : s = t := by omega
  subst ht'
  have hcc := chB_iff.1 hch
  have hE : EnAt n z s p q := ⟨hs2, h1n, hn6, h9, by omega⟩
  obtain ⟨W, hW⟩ : ∃ W, W = w.alloc (.cells #[.int .i64 p, .int .i64 q] 24) := ⟨_, rfl⟩
  have hbW : Below w.heap.size w W := by rw [hW]; exact below_one _ _
  have hq : W.heap[w.heap.size]? = some (.cells #[.int .i64 p, .int .i64 q] 24) := by rw [hW]; exact heap_alloc_new w _
  have HW := Lib.hid hW
  have HB5 := Lib.hid hbW
  have HQ5 := Lib.hid hq
  have HD := Lib.hid (fun k (hk : k ≤ 8) V (hV : Below w.heap.size w V) => rdone_any a n cap z s k V hs2 h1n hn6 (hz.keep (Nat.le_refl _) hV) h9 hk)
  have HLs := Lib.hid (fun k (hk : k ≤ 8) V => hE.rless hk V)
  clear h hz hq hW hbW hch hE h9 hcc ht
  go_enter Try.func37, Try.ntmps37
  go_wp2
  rw [← HW.out]
  go_loopw [8, 9] (fun _ i wr => ∃ k : Nat, k ≤ 9 ∧ i = .int .i64 k ∧ Hid (∀ j, j < k → lsB z n s p q j = true) ∧ wr.heap[w.heap.size]? = some (.cells #[.int .i64 p, .int .i64 q] 24) ∧ Below w.heap.size w wr) (fun _ i _ => 9 - (intOf i).toNat)
  case atStart => exact ⟨0, by omega, rfl, fun j hj => absurd hj (Nat.not_lt_zero _), HQ5.out, HB5.out⟩
  case round =>
    obtain ⟨k, hk, rfl, hr, hq, hb⟩ := hrel
    have HQr := Lib.hid hq
    have HBr := Lib.hid hb
    obtain ⟨q1, q2, _, _⟩ := fr_cells hq
    clear hq hb
    by_cases hlt : k < 9
    · have hk8 : k ≤ 8 := by omega
      have HDk := Lib.hid (HD.out k hk8 wr.drew HBr.out.drew)
      have HLk := Lib.hid (HLs.out k hk8)
      cases hls : lsB z n s p q k
      · have HF := Lib.hid (enR_at hlt hls hr.out)
        rw [hls] at HLk
        clear hls
        go_wp2
        go_region_with (first
          | (go_at_call 28; refine HDk.out.mono ?_; rintro e w6 ⟨rfl, hb6⟩; obtain ⟨x1, x2, _, _⟩ := fr_cells (frAt HQr.out (below_drew1 hb6)); have HB6 := Lib.hid (band HBr.out (below_drew1 hb6)); clear hb6)
          | (go_at_call 45; refine (HLk.out _).mono ?_; rintro e w7 ⟨rfl, hb7⟩; have HB7 := Lib.hid (band HB6.out hb7); clear hb7))
        all_goals
          go_wp2
          go_ret2
          exact ⟨by rw [HF.out]; rfl, HB7.out⟩
      · have HN : Hid (∀ j, j < k + 1 → lsB z n s p q j = true) := by
          intro j hj
          by_cases e : j = k
          · subst e; exact hls
          · exact hr.out j (by omega)
        rw [hls] at HLk
        clear hls
        go_wp2
        go_region_with (first
          | (go_at_call 28; refine HDk.out.mono ?_; rintro e w6 ⟨rfl, hb6⟩; have hq6 := frAt HQr.out (below_drew1 hb6); obtain ⟨x1, x2, _, _⟩ := fr_cells hq6; have HQ6 := Lib.hid hq6; have HB6 := Lib.hid (band HBr.out (below_drew1 hb6)); clear hb6 hq6)
          | (go_at_call 45; refine (HLk.out _).mono ?_; rintro e w7 ⟨rfl, hb7⟩; have HQ7 := Lib.hid (frAt HQ6.out hb7); have HB7 := Lib.hid (band HB6.out hb7); clear hb7))
        all_goals
          go_wp2
          go_roundw
          case rel => exact ⟨k + 1, by omega, by go_num, HN, HQ7.out, HB7.out⟩
          case measure => simp [intOf]; omega
    · have e : k = 9 := by omega
      have HF := Lib.hid (enR_no (ls := lsB z n s p q) (fun j hj => hr.out j (by omega)))
      have hge : (9 : Int) ≤ k := by omega
      clear e
      go_wp2
      go_ret2
      exact ⟨by rw [HF.out]; rfl, HBr.out⟩
end Go.Proofs.Ytchahkpenilcbaa
