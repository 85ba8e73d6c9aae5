import Derived.Test.YtkbbijhknbcflaaR4
/-
  Where the document says that a formula holds.
-/
namespace Go.Proofs.Ytkbbijhknbcflaa
open Go.RowKit Go.Shelf

/-- The sets of the letters, as the document hands them on. -/
abbrev S3 (e : Nat → Nat) : Value := .agg #[.int .i64 (e 0 : Nat), .int .i64 (e 1 : Nat), .int .i64 (e 2 : Nat)]
/-- What holding hands back. -/
def HR (F : Fm) : Prop := ∀ (m : Nat → Bool) (l : List UInt8) (a z : Nat) (e : Nat → Nat) (aN : Option Addr) (n cN : Nat) (aM : Option Addr) (cM : Nat) (nx mk : Nat → Nat) (W : World), l.length ≤ 5000 → At m l a F z → Wk W aN n aM nx mk → EnvOk n e →
  Calls Try.prog 39 #[wkV aN n cN aM n cM, .string (st l), .int .i64 (a : Nat), S3 e] W fun r w' => r = .returned (.tuple #[.int .i64 (den n nx mk F e : Nat), .int .i64 (z : Nat)]) ∧ Below W.heap.size W w'

theorem at_head {m : Nat → Bool} {l : List UInt8} {a z : Nat} {F : Fm} (h : At m l a F z) {x : UInt8} {t : List UInt8} (e : str F = x :: t) : ∃ ha : a < l.length, l[a] = x := by
  have ha : a < l.length := by have := h.le; omega
  refine ⟨ha, ?_⟩
  have := h.1
  rw [drop_cons ha, e] at this
  exact (List.cons.inj this).1
theorem at_head2 {m : Nat → Bool} {l : List UInt8} {a z : Nat} {F : Fm} (h : At m l a F z) {x y : UInt8} {t : List UInt8} (e : str F = x :: y :: t) : ∃ ha : a + 1 < l.length, l[a + 1] = y := by
  have ha : a + 1 < l.length := by
    have h1 := h.2.1
    have h2 := h.le
    rw [e] at h1; simp at h1; omega
  refine ⟨ha, ?_⟩
  have := h.1
  rw [drop_cons (show a < l.length by omega), drop_cons ha, e] at this
  exact (List.cons.inj (List.cons.inj this).2).1
theorem mark_bit {M j : Nat} (hM : M < 16) : bits BinOp.and IntKind.i64 ((M : Int) / 2 ^ j) 1 = if M.testBit j then 1 else 0 := by
  have h1 := bit_at M j (Nat.lt_of_lt_of_le hM (by decide))
  have e : ((M : Int) / 2 ^ j) = ((M / 2 ^ j : Nat) : Int) := by simp
  have h2 : M / 2 ^ j < 2 ^ 62 := Nat.lt_of_le_of_lt (Nat.div_le_self _ _) (Nat.lt_of_lt_of_le hM (by decide))
  rw [e, show (1 : Int) = ((1 : Nat) : Int) from rfl, band_nat _ 1 h2 (by decide), Nat.and_one_is_mod] at h1 ⊢
  rw [← h1]
  have : M / 2 ^ j % 2 = 0 ∨ M / 2 ^ j % 2 = 1 := by omega
  rcases this with h | h <;> rw [h] <;> rfl
theorem or_zero {S : Nat} (h : S < 64) : bits .or .i64 (S : Int) 0 = (S : Nat) := by
  have := bor_nat S 0 (by omega) (by decide)
  simpa using this
theorem two_le_w (w : World) (o1 o2 : Obj) : Below w.heap.size w ((w.alloc o1).alloc o2) := below_two w o1 o2

set_option maxHeartbeats 4000000 in
set_option maxRecDepth 100000 in
theorem hr_tt : HR (.tt) := by
  intro m l a z e aN n cN aM cM nx mk W hl hA hk hE
  obtain ⟨ha, hx⟩ := at_head hA (x := 116) (t := []) rfl
  have hz : Hid (z = a + 1) := hA.2.1
  have h6 := hk.n6
  have HB := Lib.hid (below_two W (.cells #[.slice aN n cN, .slice aM n cM] 24) (.cells #[.int .i64 (e 0 : Nat), .int .i64 (e 1 : Nat), .int .i64 (e 2 : Nat)] 55))
  have hs : (st l).size = l.length := st_size l
  have hg : ∀ h : a < (st l).size, (st l)[a] = 116 := fun h => hx
  have hsz : (st l).size ≤ 5000 := by omega
  have has : a < (st l).size := by omega
  generalize st l = L at *
  have hg' := hg has
  have hw := Lib.hid (wrap_full (show n ≤ 9 by omega))
  clear hx hs hl hA hk hE
  go_enter Try.func39, Try.ntmps39
  go_wp2
  exact bodyPost_ret (v := .tuple #[.int .i64 ((2 ^ n - 1 : Nat)), .int .i64 ((a : Int) + 1)]) (by simp [results, Try.results39, go_sem, hw.out]) rfl ⟨by rw [hz.out]; rfl, HB.out⟩

set_option maxHeartbeats 4000000 in
set_option maxRecDepth 100000 in
theorem hr_ff : HR (.ff) := by
  intro m l a z e aN n cN aM cM nx mk W hl hA hk hE
  obtain ⟨ha, hx⟩ := at_head hA (x := 102) (t := []) rfl
  have hz : Hid (z = a + 1) := hA.2.1
  have h6 := hk.n6
  have HB := Lib.hid (below_two W (.cells #[.slice aN n cN, .slice aM n cM] 24) (.cells #[.int .i64 (e 0 : Nat), .int .i64 (e 1 : Nat), .int .i64 (e 2 : Nat)] 55))
  have hs : (st l).size = l.length := st_size l
  have hg : ∀ h : a < (st l).size, (st l)[a] = 102 := fun h => hx
  have hsz : (st l).size ≤ 5000 := by omega
  have has : a < (st l).size := by omega
  generalize st l = L at *
  have hg' := hg has
  clear hx hs hl hA hk hE
  go_enter Try.func39, Try.ntmps39
  go_wp2
  exact bodyPost_ret (v := .tuple #[.int .i64 (0), .int .i64 ((a : Int) + 1)]) (by simp [results, Try.results39, go_sem]) rfl ⟨by rw [hz.out]; rfl, HB.out⟩

set_option maxHeartbeats 4000000 in
set_option maxRecDepth 100000 in
theorem hr_d0 : HR (.mark 0) := by
  intro m l a z e aN n cN aM cM nx mk W hl hA hk hE
  obtain ⟨ha, hx⟩ := at_head hA (x := 48) (t := []) rfl
  have hz : Hid (z = a + 1) := hA.2.1
  have h6 := hk.n6
  have HB := Lib.hid (below_two W (.cells #[.slice aN n cN, .slice aM n cM] 24) (.cells #[.int .i64 (e 0 : Nat), .int .i64 (e 1 : Nat), .int .i64 (e 2 : Nat)] 55))
  have hs : (st l).size = l.length := st_size l
  have hg : ∀ h : a < (st l).size, (st l)[a] = 48 := fun h => hx
  have hsz : (st l).size ≤ 5000 := by omega
  have has : a < (st l).size := by omega
  generalize st l = L at *
  have hg' := hg has
  have HM := Lib.hid (hk.keep (Nat.le_refl _) HB.out).M
  have HK16 := Lib.hid hk.mk_lt
  clear hx hs hl hA hE hk
  go_enter Try.func39, Try.ntmps39
  go_wp2
  go_loop [13, 69] (fun sv iv => ∃ k : Nat, k ≤ n ∧ iv = .int .i64 k ∧ sv = .int .i64 ((mkd mk 0 k : Nat) : Int)) (fun _ iv => n - (intOf iv).toNat)
  case atStart => exact ⟨0, Nat.zero_le _, rfl, rfl⟩
  case round =>
    obtain ⟨k, hk, rfl, rfl⟩ := hrel
    by_cases hlt : k < n
    · obtain ⟨b, o, rfl, hck⟩ := HM.out k hlt
      have hck' := hck
      simp only at hck'
      have hS := lt64 (mkd_lt mk 0 k) (show k ≤ 6 by omega)
      have HO := Lib.hid (or_wrap hS (show k ≤ 6 by omega))
      have HO0 := Lib.hid (or_zero hS)
      have hmb : bits BinOp.and IntKind.i64 ((mk k : Nat) : Int) 1 = if (mk k).testBit 0 then 1 else 0 := by simpa using mark_bit (j := 0) (HK16.out k hlt)
      cases hbit : (mk k).testBit 0
      · have HKn := Lib.hid (mkd_no hbit)
        rw [hbit] at hmb
        have hmb' : bits BinOp.and IntKind.i64 ((mk k : Nat) : Int) 1 = 0 := hmb
        clear hmb hck hS
        go_wp2
        go_round
        case rel => exact ⟨k + 1, by omega, by go_num, by rw [HKn.out, HO0.out]⟩
        case measure => simp [intOf]; omega
      · have HKn := Lib.hid (mkd_yes hbit)
        rw [hbit] at hmb
        have hmb' : bits BinOp.and IntKind.i64 ((mk k : Nat) : Int) 1 = 1 := hmb
        clear hmb hck hS
        go_wp2
        go_round
        case rel => exact ⟨k + 1, by omega, by go_num, by rw [HKn.out, HO.out]⟩
        case measure => simp [intOf]; omega
    · obtain rfl : k = n := by omega
      go_wp2
      exact bodyPost_ret (v := .tuple #[.int .i64 ((mkd mk 0 k : Nat)), .int .i64 ((a : Int) + 1)]) (by simp [results, Try.results39, go_sem]) rfl ⟨by rw [hz.out]; rfl, HB.out⟩

set_option maxHeartbeats 4000000 in
set_option maxRecDepth 100000 in
theorem hr_d1 : HR (.mark 1) := by
  intro m l a z e aN n cN aM cM nx mk W hl hA hk hE
  obtain ⟨ha, hx⟩ := at_head hA (x := 49) (t := []) rfl
  have hz : Hid (z = a + 1) := hA.2.1
  have h6 := hk.n6
  have HB := Lib.hid (below_two W (.cells #[.slice aN n cN, .slice aM n cM] 24) (.cells #[.int .i64 (e 0 : Nat), .int .i64 (e 1 : Nat), .int .i64 (e 2 : Nat)] 55))
  have hs : (st l).size = l.length := st_size l
  have hg : ∀ h : a < (st l).size, (st l)[a] = 49 := fun h => hx
  have hsz : (st l).size ≤ 5000 := by omega
  have has : a < (st l).size := by omega
  generalize st l = L at *
  have hg' := hg has
  have HM := Lib.hid (hk.keep (Nat.le_refl _) HB.out).M
  have HK16 := Lib.hid hk.mk_lt
  clear hx hs hl hA hE hk
  go_enter Try.func39, Try.ntmps39
  go_wp2
  go_loop [13, 69] (fun sv iv => ∃ k : Nat, k ≤ n ∧ iv = .int .i64 k ∧ sv = .int .i64 ((mkd mk 1 k : Nat) : Int)) (fun _ iv => n - (intOf iv).toNat)
  case atStart => exact ⟨0, Nat.zero_le _, rfl, rfl⟩
  case round =>
    obtain ⟨k, hk, rfl, rfl⟩ := hrel
    by_cases hlt : k < n
    · obtain ⟨b, o, rfl, hck⟩ := HM.out k hlt
      have hck' := hck
      simp only at hck'
      have hS := lt64 (mkd_lt mk 1 k) (show k ≤ 6 by omega)
      have HO := Lib.hid (or_wrap hS (show k ≤ 6 by omega))
      have HO0 := Lib.hid (or_zero hS)
      have hmb : bits BinOp.and IntKind.i64 (((mk k : Nat) : Int) / 2) 1 = if (mk k).testBit 1 then 1 else 0 := by simpa using mark_bit (j := 1) (HK16.out k hlt)
      cases hbit : (mk k).testBit 1
      · have HKn := Lib.hid (mkd_no hbit)
        rw [hbit] at hmb
        have hmb' : bits BinOp.and IntKind.i64 (((mk k : Nat) : Int) / 2) 1 = 0 := hmb
        clear hmb hck hS
        go_wp2
        go_round
        case rel => exact ⟨k + 1, by omega, by go_num, by rw [HKn.out, HO0.out]⟩
        case measure => simp [intOf]; omega
      · have HKn := Lib.hid (mkd_yes hbit)
        rw [hbit] at hmb
        have hmb' : bits BinOp.and IntKind.i64 (((mk k : Nat) : Int) / 2) 1 = 1 := hmb
        clear hmb hck hS
        go_wp2
        go_round
        case rel => exact ⟨k + 1, by omega, by go_num, by rw [HKn.out, HO.out]⟩
        case measure => simp [intOf]; omega
    · obtain rfl : k = n := by omega
      go_wp2
      exact bodyPost_ret (v := .tuple #[.int .i64 ((mkd mk 1 k : Nat)), .int .i64 ((a : Int) + 1)]) (by simp [results, Try.results39, go_sem]) rfl ⟨by rw [hz.out]; rfl, HB.out⟩

set_option maxHeartbeats 4000000 in
set_option maxRecDepth 100000 in
theorem hr_d2 : HR (.mark 2) := by
  intro m l a z e aN n cN aM cM nx mk W hl hA hk hE
  obtain ⟨ha, hx⟩ := at_head hA (x := 50) (t := []) rfl
  have hz : Hid (z = a + 1) := hA.2.1
  have h6 := hk.n6
  have HB := Lib.hid (below_two W (.cells #[.slice aN n cN, .slice aM n cM] 24) (.cells #[.int .i64 (e 0 : Nat), .int .i64 (e 1 : Nat), .int .i64 (e 2 : Nat)] 55))
  have hs : (st l).size = l.length := st_size l
  have hg : ∀ h : a < (st l).size, (st l)[a] = 50 := fun h => hx
  have hsz : (st l).size ≤ 5000 := by omega
  have has : a < (st l).size := by omega
  generalize st l = L at *
  have hg' := hg has
  have HM := Lib.hid (hk.keep (Nat.le_refl _) HB.out).M
  have HK16 := Lib.hid hk.mk_lt
  clear hx hs hl hA hE hk
  go_enter Try.func39, Try.ntmps39
  go_wp2
  go_loop [13, 69] (fun sv iv => ∃ k : Nat, k ≤ n ∧ iv = .int .i64 k ∧ sv = .int .i64 ((mkd mk 2 k : Nat) : Int)) (fun _ iv => n - (intOf iv).toNat)
  case atStart => exact ⟨0, Nat.zero_le _, rfl, rfl⟩
  case round =>
    obtain ⟨k, hk, rfl, rfl⟩ := hrel
    by_cases hlt : k < n
    · obtain ⟨b, o, rfl, hck⟩ := HM.out k hlt
      have hck' := hck
      simp only at hck'
      have hS := lt64 (mkd_lt mk 2 k) (show k ≤ 6 by omega)
      have HO := Lib.hid (or_wrap hS (show k ≤ 6 by omega))
      have HO0 := Lib.hid (or_zero hS)
      have hmb : bits BinOp.and IntKind.i64 (((mk k : Nat) : Int) / 4) 1 = if (mk k).testBit 2 then 1 else 0 := by simpa using mark_bit (j := 2) (HK16.out k hlt)
      cases hbit : (mk k).testBit 2
      · have HKn := Lib.hid (mkd_no hbit)
        rw [hbit] at hmb
        have hmb' : bits BinOp.and IntKind.i64 (((mk k : Nat) : Int) / 4) 1 = 0 := hmb
        clear hmb hck hS
        go_wp2
        go_round
        case rel => exact ⟨k + 1, by omega, by go_num, by rw [HKn.out, HO0.out]⟩
        case measure => simp [intOf]; omega
      · have HKn := Lib.hid (mkd_yes hbit)
        rw [hbit] at hmb
        have hmb' : bits BinOp.and IntKind.i64 (((mk k : Nat) : Int) / 4) 1 = 1 := hmb
        clear hmb hck hS
        go_wp2
        go_round
        case rel => exact ⟨k + 1, by omega, by go_num, by rw [HKn.out, HO.out]⟩
        case measure => simp [intOf]; omega
    · obtain rfl : k = n := by omega
      go_wp2
      exact bodyPost_ret (v := .tuple #[.int .i64 ((mkd mk 2 k : Nat)), .int .i64 ((a : Int) + 1)]) (by simp [results, Try.results39, go_sem]) rfl ⟨by rw [hz.out]; rfl, HB.out⟩

set_option maxHeartbeats 4000000 in
set_option maxRecDepth 100000 in
theorem hr_d3 : HR (.mark 3) := by
  intro m l a z e aN n cN aM cM nx mk W hl hA hk hE
  obtain ⟨ha, hx⟩ := at_head hA (x := 51) (t := []) rfl
  have hz : Hid (z = a + 1) := hA.2.1
  have h6 := hk.n6
  have HB := Lib.hid (below_two W (.cells #[.slice aN n cN, .slice aM n cM] 24) (.cells #[.int .i64 (e 0 : Nat), .int .i64 (e 1 : Nat), .int .i64 (e 2 : Nat)] 55))
  have hs : (st l).size = l.length := st_size l
  have hg : ∀ h : a < (st l).size, (st l)[a] = 51 := fun h => hx
  have hsz : (st l).size ≤ 5000 := by omega
  have has : a < (st l).size := by omega
  generalize st l = L at *
  have hg' := hg has
  have HM := Lib.hid (hk.keep (Nat.le_refl _) HB.out).M
  have HK16 := Lib.hid hk.mk_lt
  clear hx hs hl hA hE hk
  go_enter Try.func39, Try.ntmps39
  go_wp2
  go_loop [13, 69] (fun sv iv => ∃ k : Nat, k ≤ n ∧ iv = .int .i64 k ∧ sv = .int .i64 ((mkd mk 3 k : Nat) : Int)) (fun _ iv => n - (intOf iv).toNat)
  case atStart => exact ⟨0, Nat.zero_le _, rfl, rfl⟩
  case round =>
    obtain ⟨k, hk, rfl, rfl⟩ := hrel
    by_cases hlt : k < n
    · obtain ⟨b, o, rfl, hck⟩ := HM.out k hlt
      have hck' := hck
      simp only at hck'
      have hS := lt64 (mkd_lt mk 3 k) (show k ≤ 6 by omega)
      have HO := Lib.hid (or_wrap hS (show k ≤ 6 by omega))
      have HO0 := Lib.hid (or_zero hS)
      have hmb : bits BinOp.and IntKind.i64 (((mk k : Nat) : Int) / 8) 1 = if (mk k).testBit 3 then 1 else 0 := by simpa using mark_bit (j := 3) (HK16.out k hlt)
      cases hbit : (mk k).testBit 3
      · have HKn := Lib.hid (mkd_no hbit)
        rw [hbit] at hmb
        have hmb' : bits BinOp.and IntKind.i64 (((mk k : Nat) : Int) / 8) 1 = 0 := hmb
        clear hmb hck hS
        go_wp2
        go_round
        case rel => exact ⟨k + 1, by omega, by go_num, by rw [HKn.out, HO0.out]⟩
        case measure => simp [intOf]; omega
      · have HKn := Lib.hid (mkd_yes hbit)
        rw [hbit] at hmb
        have hmb' : bits BinOp.and IntKind.i64 (((mk k : Nat) : Int) / 8) 1 = 1 := hmb
        clear hmb hck hS
        go_wp2
        go_round
        case rel => exact ⟨k + 1, by omega, by go_num, by rw [HKn.out, HO.out]⟩
        case measure => simp [intOf]; omega
    · obtain rfl : k = n := by omega
      go_wp2
      exact bodyPost_ret (v := .tuple #[.int .i64 ((mkd mk 3 k : Nat)), .int .i64 ((a : Int) + 1)]) (by simp [results, Try.results39, go_sem]) rfl ⟨by rw [hz.out]; rfl, HB.out⟩

set_option maxHeartbeats 4000000 in
set_option maxRecDepth 100000 in
theorem hr_u0 : HR (.unm 0) := by
  intro m l a z e aN n cN aM cM nx mk W hl hA hk hE
  obtain ⟨ha, hx⟩ := at_head hA (x := 45) (t := [dig 0]) rfl
  obtain ⟨ha1, hx1⟩ := at_head2 hA (x := 45) (y := 48) (t := []) rfl
  have hz : Hid (z = a + 2) := hA.2.1
  have h6 := hk.n6
  have HB := Lib.hid (below_two W (.cells #[.slice aN n cN, .slice aM n cM] 24) (.cells #[.int .i64 (e 0 : Nat), .int .i64 (e 1 : Nat), .int .i64 (e 2 : Nat)] 55))
  have hs : (st l).size = l.length := st_size l
  have hg : ∀ h : a < (st l).size, (st l)[a] = 45 := fun h => hx
  have hgb : ∀ h : a + 1 < (st l).size, (st l)[a + 1] = 48 := fun h => hx1
  have hsz : (st l).size ≤ 5000 := by omega
  have has : a < (st l).size := by omega
  have has1 : a + 1 < (st l).size := by omega
  generalize st l = L at *
  have hg' := hg has
  have hgb' := hgb has1
  have HM := Lib.hid (hk.keep (Nat.le_refl _) HB.out).M
  have HK16 := Lib.hid hk.mk_lt
  have hw := Lib.hid (wrap_full (show n ≤ 9 by omega))
  clear hx hs hl hA hE hk hx1
  go_enter Try.func39, Try.ntmps39
  go_wp2
  go_loop [13, 69] (fun sv iv => ∃ k : Nat, k ≤ n ∧ iv = .int .i64 k ∧ sv = .int .i64 ((mkd mk 0 k : Nat) : Int)) (fun _ iv => n - (intOf iv).toNat)
  case atStart => exact ⟨0, Nat.zero_le _, rfl, rfl⟩
  case round =>
    obtain ⟨k, hk, rfl, rfl⟩ := hrel
    by_cases hlt : k < n
    · obtain ⟨b, o, rfl, hck⟩ := HM.out k hlt
      have hck' := hck
      simp only at hck'
      have hS := lt64 (mkd_lt mk 0 k) (show k ≤ 6 by omega)
      have HO := Lib.hid (or_wrap hS (show k ≤ 6 by omega))
      have HO0 := Lib.hid (or_zero hS)
      have hmb : bits BinOp.and IntKind.i64 ((mk k : Nat) : Int) 1 = if (mk k).testBit 0 then 1 else 0 := by simpa using mark_bit (j := 0) (HK16.out k hlt)
      cases hbit : (mk k).testBit 0
      · have HKn := Lib.hid (mkd_no hbit)
        rw [hbit] at hmb
        have hmb' : bits BinOp.and IntKind.i64 ((mk k : Nat) : Int) 1 = 0 := hmb
        clear hmb hck hS
        go_wp2
        go_round
        case rel => exact ⟨k + 1, by omega, by go_num, by rw [HKn.out, HO0.out]⟩
        case measure => simp [intOf]; omega
      · have HKn := Lib.hid (mkd_yes hbit)
        rw [hbit] at hmb
        have hmb' : bits BinOp.and IntKind.i64 ((mk k : Nat) : Int) 1 = 1 := hmb
        clear hmb hck hS
        go_wp2
        go_round
        case rel => exact ⟨k + 1, by omega, by go_num, by rw [HKn.out, HO.out]⟩
        case measure => simp [intOf]; omega
    · obtain rfl : k = n := by omega
      go_wp2
      have hw2 : wrap64 (wrap64 ((2 : Int) ^ k) - 1) = ((2 ^ k - 1 : Nat) : Int) := hw.out
      have HAN : Hid (bits .andNot .i64 ((2 ^ k - 1 : Nat) : Int) ((mkd mk 0 k : Nat) : Int) = ((sdf (2 ^ k - 1) (mkd mk 0 k) : Nat) : Int)) := andNot_nat (lt64 (all_lt k) h6) (lt64 (mkd_lt mk 0 k) h6)
      exact bodyPost_ret (v := .tuple #[.int .i64 ((sdf (2 ^ k - 1) (mkd mk 0 k) : Nat)), .int .i64 ((a : Int) + 2)]) (by simp [results, Try.results39, go_sem, hw2, HAN.out]) rfl ⟨by rw [hz.out]; rfl, HB.out⟩

set_option maxHeartbeats 4000000 in
set_option maxRecDepth 100000 in
theorem hr_u1 : HR (.unm 1) := by
  intro m l a z e aN n cN aM cM nx mk W hl hA hk hE
  obtain ⟨ha, hx⟩ := at_head hA (x := 45) (t := [dig 1]) rfl
  obtain ⟨ha1, hx1⟩ := at_head2 hA (x := 45) (y := 49) (t := []) rfl
  have hz : Hid (z = a + 2) := hA.2.1
  have h6 := hk.n6
  have HB := Lib.hid (below_two W (.cells #[.slice aN n cN, .slice aM n cM] 24) (.cells #[.int .i64 (e 0 : Nat), .int .i64 (e 1 : Nat), .int .i64 (e 2 : Nat)] 55))
  have hs : (st l).size = l.length := st_size l
  have hg : ∀ h : a < (st l).size, (st l)[a] = 45 := fun h => hx
  have hgb : ∀ h : a + 1 < (st l).size, (st l)[a + 1] = 49 := fun h => hx1
  have hsz : (st l).size ≤ 5000 := by omega
  have has : a < (st l).size := by omega
  have has1 : a + 1 < (st l).size := by omega
  generalize st l = L at *
  have hg' := hg has
  have hgb' := hgb has1
  have HM := Lib.hid (hk.keep (Nat.le_refl _) HB.out).M
  have HK16 := Lib.hid hk.mk_lt
  have hw := Lib.hid (wrap_full (show n ≤ 9 by omega))
  clear hx hs hl hA hE hk hx1
  go_enter Try.func39, Try.ntmps39
  go_wp2
  go_loop [13, 69] (fun sv iv => ∃ k : Nat, k ≤ n ∧ iv = .int .i64 k ∧ sv = .int .i64 ((mkd mk 1 k : Nat) : Int)) (fun _ iv => n - (intOf iv).toNat)
  case atStart => exact ⟨0, Nat.zero_le _, rfl, rfl⟩
  case round =>
    obtain ⟨k, hk, rfl, rfl⟩ := hrel
    by_cases hlt : k < n
    · obtain ⟨b, o, rfl, hck⟩ := HM.out k hlt
      have hck' := hck
      simp only at hck'
      have hS := lt64 (mkd_lt mk 1 k) (show k ≤ 6 by omega)
      have HO := Lib.hid (or_wrap hS (show k ≤ 6 by omega))
      have HO0 := Lib.hid (or_zero hS)
      have hmb : bits BinOp.and IntKind.i64 (((mk k : Nat) : Int) / 2) 1 = if (mk k).testBit 1 then 1 else 0 := by simpa using mark_bit (j := 1) (HK16.out k hlt)
      cases hbit : (mk k).testBit 1
      · have HKn := Lib.hid (mkd_no hbit)
        rw [hbit] at hmb
        have hmb' : bits BinOp.and IntKind.i64 (((mk k : Nat) : Int) / 2) 1 = 0 := hmb
        clear hmb hck hS
        go_wp2
        go_round
        case rel => exact ⟨k + 1, by omega, by go_num, by rw [HKn.out, HO0.out]⟩
        case measure => simp [intOf]; omega
      · have HKn := Lib.hid (mkd_yes hbit)
        rw [hbit] at hmb
        have hmb' : bits BinOp.and IntKind.i64 (((mk k : Nat) : Int) / 2) 1 = 1 := hmb
        clear hmb hck hS
        go_wp2
        go_round
        case rel => exact ⟨k + 1, by omega, by go_num, by rw [HKn.out, HO.out]⟩
        case measure => simp [intOf]; omega
    · obtain rfl : k = n := by omega
      go_wp2
      have hw2 : wrap64 (wrap64 ((2 : Int) ^ k) - 1) = ((2 ^ k - 1 : Nat) : Int) := hw.out
      have HAN : Hid (bits .andNot .i64 ((2 ^ k - 1 : Nat) : Int) ((mkd mk 1 k : Nat) : Int) = ((sdf (2 ^ k - 1) (mkd mk 1 k) : Nat) : Int)) := andNot_nat (lt64 (all_lt k) h6) (lt64 (mkd_lt mk 1 k) h6)
      exact bodyPost_ret (v := .tuple #[.int .i64 ((sdf (2 ^ k - 1) (mkd mk 1 k) : Nat)), .int .i64 ((a : Int) + 2)]) (by simp [results, Try.results39, go_sem, hw2, HAN.out]) rfl ⟨by rw [hz.out]; rfl, HB.out⟩

set_option maxHeartbeats 4000000 in
set_option maxRecDepth 100000 in
theorem hr_u2 : HR (.unm 2) := by
  intro m l a z e aN n cN aM cM nx mk W hl hA hk hE
  obtain ⟨ha, hx⟩ := at_head hA (x := 45) (t := [dig 2]) rfl
  obtain ⟨ha1, hx1⟩ := at_head2 hA (x := 45) (y := 50) (t := []) rfl
  have hz : Hid (z = a + 2) := hA.2.1
  have h6 := hk.n6
  have HB := Lib.hid (below_two W (.cells #[.slice aN n cN, .slice aM n cM] 24) (.cells #[.int .i64 (e 0 : Nat), .int .i64 (e 1 : Nat), .int .i64 (e 2 : Nat)] 55))
  have hs : (st l).size = l.length := st_size l
  have hg : ∀ h : a < (st l).size, (st l)[a] = 45 := fun h => hx
  have hgb : ∀ h : a + 1 < (st l).size, (st l)[a + 1] = 50 := fun h => hx1
  have hsz : (st l).size ≤ 5000 := by omega
  have has : a < (st l).size := by omega
  have has1 : a + 1 < (st l).size := by omega
  generalize st l = L at *
  have hg' := hg has
  have hgb' := hgb has1
  have HM := Lib.hid (hk.keep (Nat.le_refl _) HB.out).M
  have HK16 := Lib.hid hk.mk_lt
  have hw := Lib.hid (wrap_full (show n ≤ 9 by omega))
  clear hx hs hl hA hE hk hx1
  go_enter Try.func39, Try.ntmps39
  go_wp2
  go_loop [13, 69] (fun sv iv => ∃ k : Nat, k ≤ n ∧ iv = .int .i64 k ∧ sv = .int .i64 ((mkd mk 2 k : Nat) : Int)) (fun _ iv => n - (intOf iv).toNat)
  case atStart => exact ⟨0, Nat.zero_le _, rfl, rfl⟩
  case round =>
    obtain ⟨k, hk, rfl, rfl⟩ := hrel
    by_cases hlt : k < n
    · obtain ⟨b, o, rfl, hck⟩ := HM.out k hlt
      have hck' := hck
      simp only at hck'
      have hS := lt64 (mkd_lt mk 2 k) (show k ≤ 6 by omega)
      have HO := Lib.hid (or_wrap hS (show k ≤ 6 by omega))
      have HO0 := Lib.hid (or_zero hS)
      have hmb : bits BinOp.and IntKind.i64 (((mk k : Nat) : Int) / 4) 1 = if (mk k).testBit 2 then 1 else 0 := by simpa using mark_bit (j := 2) (HK16.out k hlt)
      cases hbit : (mk k).testBit 2
      · have HKn := Lib.hid (mkd_no hbit)
        rw [hbit] at hmb
        have hmb' : bits BinOp.and IntKind.i64 (((mk k : Nat) : Int) / 4) 1 = 0 := hmb
        clear hmb hck hS
        go_wp2
        go_round
        case rel => exact ⟨k + 1, by omega, by go_num, by rw [HKn.out, HO0.out]⟩
        case measure => simp [intOf]; omega
      · have HKn := Lib.hid (mkd_yes hbit)
        rw [hbit] at hmb
        have hmb' : bits BinOp.and IntKind.i64 (((mk k : Nat) : Int) / 4) 1 = 1 := hmb
        clear hmb hck hS
        go_wp2
        go_round
        case rel => exact ⟨k + 1, by omega, by go_num, by rw [HKn.out, HO.out]⟩
        case measure => simp [intOf]; omega
    · obtain rfl : k = n := by omega
      go_wp2
      have hw2 : wrap64 (wrap64 ((2 : Int) ^ k) - 1) = ((2 ^ k - 1 : Nat) : Int) := hw.out
      have HAN : Hid (bits .andNot .i64 ((2 ^ k - 1 : Nat) : Int) ((mkd mk 2 k : Nat) : Int) = ((sdf (2 ^ k - 1) (mkd mk 2 k) : Nat) : Int)) := andNot_nat (lt64 (all_lt k) h6) (lt64 (mkd_lt mk 2 k) h6)
      exact bodyPost_ret (v := .tuple #[.int .i64 ((sdf (2 ^ k - 1) (mkd mk 2 k) : Nat)), .int .i64 ((a : Int) + 2)]) (by simp [results, Try.results39, go_sem, hw2, HAN.out]) rfl ⟨by rw [hz.out]; rfl, HB.out⟩

set_option maxHeartbeats 4000000 in
set_option maxRecDepth 100000 in
theorem hr_u3 : HR (.unm 3) := by
  intro m l a z e aN n cN aM cM nx mk W hl hA hk hE
  obtain ⟨ha, hx⟩ := at_head hA (x := 45) (t := [dig 3]) rfl
  obtain ⟨ha1, hx1⟩ := at_head2 hA (x := 45) (y := 51) (t := []) rfl
  have hz : Hid (z = a + 2) := hA.2.1
  have h6 := hk.n6
  have HB := Lib.hid (below_two W (.cells #[.slice aN n cN, .slice aM n cM] 24) (.cells #[.int .i64 (e 0 : Nat), .int .i64 (e 1 : Nat), .int .i64 (e 2 : Nat)] 55))
  have hs : (st l).size = l.length := st_size l
  have hg : ∀ h : a < (st l).size, (st l)[a] = 45 := fun h => hx
  have hgb : ∀ h : a + 1 < (st l).size, (st l)[a + 1] = 51 := fun h => hx1
  have hsz : (st l).size ≤ 5000 := by omega
  have has : a < (st l).size := by omega
  have has1 : a + 1 < (st l).size := by omega
  generalize st l = L at *
  have hg' := hg has
  have hgb' := hgb has1
  have HM := Lib.hid (hk.keep (Nat.le_refl _) HB.out).M
  have HK16 := Lib.hid hk.mk_lt
  have hw := Lib.hid (wrap_full (show n ≤ 9 by omega))
  clear hx hs hl hA hE hk hx1
  go_enter Try.func39, Try.ntmps39
  go_wp2
  go_loop [13, 69] (fun sv iv => ∃ k : Nat, k ≤ n ∧ iv = .int .i64 k ∧ sv = .int .i64 ((mkd mk 3 k : Nat) : Int)) (fun _ iv => n - (intOf iv).toNat)
  case atStart => exact ⟨0, Nat.zero_le _, rfl, rfl⟩
  case round =>
    obtain ⟨k, hk, rfl, rfl⟩ := hrel
    by_cases hlt : k < n
    · obtain ⟨b, o, rfl, hck⟩ := HM.out k hlt
      have hck' := hck
      simp only at hck'
      have hS := lt64 (mkd_lt mk 3 k) (show k ≤ 6 by omega)
      have HO := Lib.hid (or_wrap hS (show k ≤ 6 by omega))
      have HO0 := Lib.hid (or_zero hS)
      have hmb : bits BinOp.and IntKind.i64 (((mk k : Nat) : Int) / 8) 1 = if (mk k).testBit 3 then 1 else 0 := by simpa using mark_bit (j := 3) (HK16.out k hlt)
      cases hbit : (mk k).testBit 3
      · have HKn := Lib.hid (mkd_no hbit)
        rw [hbit] at hmb
        have hmb' : bits BinOp.and IntKind.i64 (((mk k : Nat) : Int) / 8) 1 = 0 := hmb
        clear hmb hck hS
        go_wp2
        go_round
        case rel => exact ⟨k + 1, by omega, by go_num, by rw [HKn.out, HO0.out]⟩
        case measure => simp [intOf]; omega
      · have HKn := Lib.hid (mkd_yes hbit)
        rw [hbit] at hmb
        have hmb' : bits BinOp.and IntKind.i64 (((mk k : Nat) : Int) / 8) 1 = 1 := hmb
        clear hmb hck hS
        go_wp2
        go_round
        case rel => exact ⟨k + 1, by omega, by go_num, by rw [HKn.out, HO.out]⟩
        case measure => simp [intOf]; omega
    · obtain rfl : k = n := by omega
      go_wp2
      have hw2 : wrap64 (wrap64 ((2 : Int) ^ k) - 1) = ((2 ^ k - 1 : Nat) : Int) := hw.out
      have HAN : Hid (bits .andNot .i64 ((2 ^ k - 1 : Nat) : Int) ((mkd mk 3 k : Nat) : Int) = ((sdf (2 ^ k - 1) (mkd mk 3 k) : Nat) : Int)) := andNot_nat (lt64 (all_lt k) h6) (lt64 (mkd_lt mk 3 k) h6)
      exact bodyPost_ret (v := .tuple #[.int .i64 ((sdf (2 ^ k - 1) (mkd mk 3 k) : Nat)), .int .i64 ((a : Int) + 2)]) (by simp [results, Try.results39, go_sem, hw2, HAN.out]) rfl ⟨by rw [hz.out]; rfl, HB.out⟩

set_option maxHeartbeats 4000000 in
set_option maxRecDepth 100000 in
theorem hr_v0 : HR (.var 0) := by
  intro m l a z e aN n cN aM cM nx mk W hl hA hk hE
  obtain ⟨ha, hx⟩ := at_head hA (x := 120) (t := []) rfl
  have hz : Hid (z = a + 1) := hA.2.1
  have h6 := hk.n6
  have HB := Lib.hid (below_two W (.cells #[.slice aN n cN, .slice aM n cM] 24) (.cells #[.int .i64 (e 0 : Nat), .int .i64 (e 1 : Nat), .int .i64 (e 2 : Nat)] 55))
  have hs : (st l).size = l.length := st_size l
  have hg : ∀ h : a < (st l).size, (st l)[a] = 120 := fun h => hx
  have hsz : (st l).size ≤ 5000 := by omega
  have has : a < (st l).size := by omega
  generalize st l = L at *
  have hg' := hg has
  clear hx hs hl hA hk hE
  go_enter Try.func39, Try.ntmps39
  go_wp2
  exact bodyPost_ret (v := .tuple #[.int .i64 ((e 0 : Nat)), .int .i64 ((a : Int) + 1)]) (by simp [results, Try.results39, go_sem]) rfl ⟨by rw [hz.out]; rfl, HB.out⟩

set_option maxHeartbeats 4000000 in
set_option maxRecDepth 100000 in
theorem hr_v1 : HR (.var 1) := by
  intro m l a z e aN n cN aM cM nx mk W hl hA hk hE
  obtain ⟨ha, hx⟩ := at_head hA (x := 121) (t := []) rfl
  have hz : Hid (z = a + 1) := hA.2.1
  have h6 := hk.n6
  have HB := Lib.hid (below_two W (.cells #[.slice aN n cN, .slice aM n cM] 24) (.cells #[.int .i64 (e 0 : Nat), .int .i64 (e 1 : Nat), .int .i64 (e 2 : Nat)] 55))
  have hs : (st l).size = l.length := st_size l
  have hg : ∀ h : a < (st l).size, (st l)[a] = 121 := fun h => hx
  have hsz : (st l).size ≤ 5000 := by omega
  have has : a < (st l).size := by omega
  generalize st l = L at *
  have hg' := hg has
  clear hx hs hl hA hk hE
  go_enter Try.func39, Try.ntmps39
  go_wp2
  exact bodyPost_ret (v := .tuple #[.int .i64 ((e 1 : Nat)), .int .i64 ((a : Int) + 1)]) (by simp [results, Try.results39, go_sem]) rfl ⟨by rw [hz.out]; rfl, HB.out⟩

set_option maxHeartbeats 4000000 in
set_option maxRecDepth 100000 in
theorem hr_v2 : HR (.var 2) := by
  intro m l a z e aN n cN aM cM nx mk W hl hA hk hE
  obtain ⟨ha, hx⟩ := at_head hA (x := 122) (t := []) rfl
  have hz : Hid (z = a + 1) := hA.2.1
  have h6 := hk.n6
  have HB := Lib.hid (below_two W (.cells #[.slice aN n cN, .slice aM n cM] 24) (.cells #[.int .i64 (e 0 : Nat), .int .i64 (e 1 : Nat), .int .i64 (e 2 : Nat)] 55))
  have hs : (st l).size = l.length := st_size l
  have hg : ∀ h : a < (st l).size, (st l)[a] = 122 := fun h => hx
  have hsz : (st l).size ≤ 5000 := by omega
  have has : a < (st l).size := by omega
  generalize st l = L at *
  have hg' := hg has
  clear hx hs hl hA hk hE
  go_enter Try.func39, Try.ntmps39
  go_wp2
  exact bodyPost_ret (v := .tuple #[.int .i64 ((e 2 : Nat)), .int .i64 ((a : Int) + 1)]) (by simp [results, Try.results39, go_sem]) rfl ⟨by rw [hz.out]; rfl, HB.out⟩

end Go.Proofs.Ytkbbijhknbcflaa
