import Derived.Test.YtkbbijhknbcflabR3
import Derived.Test.YtkbbijhknbcflabMath6
/-
  The document's own reading of a formula.
-/
namespace Go.Proofs.Ytkbbijhknbcflab
open Go.RowKit Go.Shelf

/-- What the document's read hands back. -/
def RdOut (l : List UInt8) (y a : Nat) (W : World) (e : Ending) (w' : World) : Prop :=
  ∃ z d : Int, e = .returned (.tuple #[.int .i64 z, .int .i64 d]) ∧ Below W.heap.size W w' ∧ (0 ≤ d ∧ d ≤ (l.length : Int) - a) ∧
    ((∃ F z', At (bm y) l a F z' ∧ z = (z' : Nat) ∧ d = (dep F : Nat)) ∨ (z = -1 ∧ ∀ F z', ¬ At (bm y) l a F z'))
/-- Reading, with at most N bytes left. -/
def RC (N : Nat) : Prop := ∀ (l : List UInt8) (y a : Nat) (W : World), l.length ≤ 5000 → a ≤ l.length → l.length - a ≤ N → y < 8 → Calls Try.prog 17 #[.string (st l), .int .i64 (a : Nat), .int .i64 (y : Nat)] W fun e w' => RdOut l y a W e w'
theorem mask_bit {y k : Nat} (hy : y < 8) : (bits BinOp.and IntKind.i64 ((y : Int) / 2 ^ k) 1 == 1) = y.testBit k := bit_at y k (Nat.lt_of_lt_of_le hy (by decide))
theorem mask_bit0 {y k : Nat} (hy : y < 8) : (bits BinOp.and IntKind.i64 ((y : Int) / 2 ^ k) 1 == 0) = !y.testBit k := by
  have h1 := mask_bit (k := k) hy
  have e : ((y : Int) / 2 ^ k) = ((y / 2 ^ k : Nat) : Int) := by simp
  have h2 : y / 2 ^ k < 2 ^ 62 := Nat.lt_of_le_of_lt (Nat.div_le_self _ _) (Nat.lt_of_lt_of_le hy (by decide))
  rw [e, show (1 : Int) = ((1 : Nat) : Int) from rfl, band_nat _ 1 h2 (by decide), Nat.and_one_is_mod] at h1 ⊢
  rw [← h1]
  have : y / 2 ^ k % 2 = 0 ∨ y / 2 ^ k % 2 = 1 := by omega
  rcases this with h | h <;> rw [h] <;> rfl

set_option maxHeartbeats 4000000 in
set_option maxRecDepth 100000 in
theorem rr_d0 (l : List UInt8) (y a : Nat) (W : World) (hl : l.length ≤ 5000) (ha : a < l.length) (hx : l[a] = 48) (_hy : y < 8) : Calls Try.prog 17 #[.string (st l), .int .i64 (a : Nat), .int .i64 (y : Nat)] W fun e w' => RdOut l y a W e w' := by
  have hs : (st l).size = l.length := st_size l
  have hg : ∀ h : a < (st l).size, (st l)[a] = 48 := fun h => hx
  have HX := Lib.hid hx
  have HA := Lib.hid ha
  have hsz : (st l).size ≤ 5000 := by omega
  have has : a < (st l).size := by omega
  have HL : Hid (l.length = (st l).size) := hs.symm
  generalize st l = L at *
  have hg' := hg has
  clear hx hs hl
  go_enter Try.func17, Try.ntmps17
  go_wp2
  exact bodyPost_ret (v := .tuple #[.int .i64 ((a : Int) + 1), .int .i64 (0)]) (by simp [results, Try.results17, go_sem]) rfl ⟨_, _, rfl, Below.refl _ _, by have := HL.out; omega, Or.inl ⟨.mark 0, a + 1, at_val HA.out HX.out rfl (by show 0 < 4; decide), by omega, rfl⟩⟩

set_option maxHeartbeats 4000000 in
set_option maxRecDepth 100000 in
theorem rr_d1 (l : List UInt8) (y a : Nat) (W : World) (hl : l.length ≤ 5000) (ha : a < l.length) (hx : l[a] = 49) (_hy : y < 8) : Calls Try.prog 17 #[.string (st l), .int .i64 (a : Nat), .int .i64 (y : Nat)] W fun e w' => RdOut l y a W e w' := by
  have hs : (st l).size = l.length := st_size l
  have hg : ∀ h : a < (st l).size, (st l)[a] = 49 := fun h => hx
  have HX := Lib.hid hx
  have HA := Lib.hid ha
  have hsz : (st l).size ≤ 5000 := by omega
  have has : a < (st l).size := by omega
  have HL : Hid (l.length = (st l).size) := hs.symm
  generalize st l = L at *
  have hg' := hg has
  clear hx hs hl
  go_enter Try.func17, Try.ntmps17
  go_wp2
  exact bodyPost_ret (v := .tuple #[.int .i64 ((a : Int) + 1), .int .i64 (0)]) (by simp [results, Try.results17, go_sem]) rfl ⟨_, _, rfl, Below.refl _ _, by have := HL.out; omega, Or.inl ⟨.mark 1, a + 1, at_val HA.out HX.out rfl (by show 1 < 4; decide), by omega, rfl⟩⟩

set_option maxHeartbeats 4000000 in
set_option maxRecDepth 100000 in
theorem rr_d2 (l : List UInt8) (y a : Nat) (W : World) (hl : l.length ≤ 5000) (ha : a < l.length) (hx : l[a] = 50) (_hy : y < 8) : Calls Try.prog 17 #[.string (st l), .int .i64 (a : Nat), .int .i64 (y : Nat)] W fun e w' => RdOut l y a W e w' := by
  have hs : (st l).size = l.length := st_size l
  have hg : ∀ h : a < (st l).size, (st l)[a] = 50 := fun h => hx
  have HX := Lib.hid hx
  have HA := Lib.hid ha
  have hsz : (st l).size ≤ 5000 := by omega
  have has : a < (st l).size := by omega
  have HL : Hid (l.length = (st l).size) := hs.symm
  generalize st l = L at *
  have hg' := hg has
  clear hx hs hl
  go_enter Try.func17, Try.ntmps17
  go_wp2
  exact bodyPost_ret (v := .tuple #[.int .i64 ((a : Int) + 1), .int .i64 (0)]) (by simp [results, Try.results17, go_sem]) rfl ⟨_, _, rfl, Below.refl _ _, by have := HL.out; omega, Or.inl ⟨.mark 2, a + 1, at_val HA.out HX.out rfl (by show 2 < 4; decide), by omega, rfl⟩⟩

set_option maxHeartbeats 4000000 in
set_option maxRecDepth 100000 in
theorem rr_d3 (l : List UInt8) (y a : Nat) (W : World) (hl : l.length ≤ 5000) (ha : a < l.length) (hx : l[a] = 51) (_hy : y < 8) : Calls Try.prog 17 #[.string (st l), .int .i64 (a : Nat), .int .i64 (y : Nat)] W fun e w' => RdOut l y a W e w' := by
  have hs : (st l).size = l.length := st_size l
  have hg : ∀ h : a < (st l).size, (st l)[a] = 51 := fun h => hx
  have HX := Lib.hid hx
  have HA := Lib.hid ha
  have hsz : (st l).size ≤ 5000 := by omega
  have has : a < (st l).size := by omega
  have HL : Hid (l.length = (st l).size) := hs.symm
  generalize st l = L at *
  have hg' := hg has
  clear hx hs hl
  go_enter Try.func17, Try.ntmps17
  go_wp2
  exact bodyPost_ret (v := .tuple #[.int .i64 ((a : Int) + 1), .int .i64 (0)]) (by simp [results, Try.results17, go_sem]) rfl ⟨_, _, rfl, Below.refl _ _, by have := HL.out; omega, Or.inl ⟨.mark 3, a + 1, at_val HA.out HX.out rfl (by show 3 < 4; decide), by omega, rfl⟩⟩

set_option maxHeartbeats 4000000 in
set_option maxRecDepth 100000 in
theorem rr_t (l : List UInt8) (y a : Nat) (W : World) (hl : l.length ≤ 5000) (ha : a < l.length) (hx : l[a] = 116) (_hy : y < 8) : Calls Try.prog 17 #[.string (st l), .int .i64 (a : Nat), .int .i64 (y : Nat)] W fun e w' => RdOut l y a W e w' := by
  have hs : (st l).size = l.length := st_size l
  have hg : ∀ h : a < (st l).size, (st l)[a] = 116 := fun h => hx
  have HX := Lib.hid hx
  have HA := Lib.hid ha
  have hsz : (st l).size ≤ 5000 := by omega
  have has : a < (st l).size := by omega
  have HL : Hid (l.length = (st l).size) := hs.symm
  generalize st l = L at *
  have hg' := hg has
  clear hx hs hl
  go_enter Try.func17, Try.ntmps17
  go_wp2
  exact bodyPost_ret (v := .tuple #[.int .i64 ((a : Int) + 1), .int .i64 (0)]) (by simp [results, Try.results17, go_sem]) rfl ⟨_, _, rfl, Below.refl _ _, by have := HL.out; omega, Or.inl ⟨.tt, a + 1, at_val HA.out HX.out rfl trivial, by omega, rfl⟩⟩

set_option maxHeartbeats 4000000 in
set_option maxRecDepth 100000 in
theorem rr_f (l : List UInt8) (y a : Nat) (W : World) (hl : l.length ≤ 5000) (ha : a < l.length) (hx : l[a] = 102) (_hy : y < 8) : Calls Try.prog 17 #[.string (st l), .int .i64 (a : Nat), .int .i64 (y : Nat)] W fun e w' => RdOut l y a W e w' := by
  have hs : (st l).size = l.length := st_size l
  have hg : ∀ h : a < (st l).size, (st l)[a] = 102 := fun h => hx
  have HX := Lib.hid hx
  have HA := Lib.hid ha
  have hsz : (st l).size ≤ 5000 := by omega
  have has : a < (st l).size := by omega
  have HL : Hid (l.length = (st l).size) := hs.symm
  generalize st l = L at *
  have hg' := hg has
  clear hx hs hl
  go_enter Try.func17, Try.ntmps17
  go_wp2
  exact bodyPost_ret (v := .tuple #[.int .i64 ((a : Int) + 1), .int .i64 (0)]) (by simp [results, Try.results17, go_sem]) rfl ⟨_, _, rfl, Below.refl _ _, by have := HL.out; omega, Or.inl ⟨.ff, a + 1, at_val HA.out HX.out rfl trivial, by omega, rfl⟩⟩

set_option maxHeartbeats 4000000 in
set_option maxRecDepth 100000 in
theorem rr_v0 (l : List UInt8) (y a : Nat) (W : World) (hl : l.length ≤ 5000) (ha : a < l.length) (hx : l[a] = 120) (hy : y < 8) : Calls Try.prog 17 #[.string (st l), .int .i64 (a : Nat), .int .i64 (y : Nat)] W fun e w' => RdOut l y a W e w' := by
  have hs : (st l).size = l.length := st_size l
  have hg : ∀ h : a < (st l).size, (st l)[a] = 120 := fun h => hx
  have hb : (bits BinOp.and IntKind.i64 (y : Int) 1 == 1) = y.testBit 0 := by simpa using mask_bit (k := 0) hy
  have HX := Lib.hid hx
  have HA := Lib.hid ha
  have hsz : (st l).size ≤ 5000 := by omega
  have has : a < (st l).size := by omega
  have HL : Hid (l.length = (st l).size) := hs.symm
  generalize st l = L at *
  have hg' := hg has
  clear hx hs hl
  cases hm : y.testBit 0
  · rw [hm] at hb
    have HM := Lib.hid hm
    clear hm
    go_enter Try.func17, Try.ntmps17
    go_wp2
    exact bodyPost_ret (v := .tuple #[.int .i64 (-1), .int .i64 (0)]) (by simp [results, Try.results17, go_sem]) rfl ⟨_, _, rfl, Below.refl _ _, by have := HL.out; omega, Or.inr ⟨rfl, fun F z' h => by have := at_var_inv HA.out (by decide : 0 < 3) HX.out h; rw [bm, HM.out] at this; cases this⟩⟩
  · rw [hm] at hb
    have HM := Lib.hid hm
    clear hm
    go_enter Try.func17, Try.ntmps17
    go_wp2
    exact bodyPost_ret (v := .tuple #[.int .i64 ((a : Int) + 1), .int .i64 (0)]) (by simp [results, Try.results17, go_sem]) rfl ⟨_, _, rfl, Below.refl _ _, by have := HL.out; omega, Or.inl ⟨.var 0, a + 1, at_val HA.out HX.out rfl ⟨by decide, HM.out⟩, by omega, rfl⟩⟩

set_option maxHeartbeats 4000000 in
set_option maxRecDepth 100000 in
theorem rr_v1 (l : List UInt8) (y a : Nat) (W : World) (hl : l.length ≤ 5000) (ha : a < l.length) (hx : l[a] = 121) (hy : y < 8) : Calls Try.prog 17 #[.string (st l), .int .i64 (a : Nat), .int .i64 (y : Nat)] W fun e w' => RdOut l y a W e w' := by
  have hs : (st l).size = l.length := st_size l
  have hg : ∀ h : a < (st l).size, (st l)[a] = 121 := fun h => hx
  have hb : (bits BinOp.and IntKind.i64 ((y : Int) / 2) 1 == 1) = y.testBit 1 := by simpa using mask_bit (k := 1) hy
  have HX := Lib.hid hx
  have HA := Lib.hid ha
  have hsz : (st l).size ≤ 5000 := by omega
  have has : a < (st l).size := by omega
  have HL : Hid (l.length = (st l).size) := hs.symm
  generalize st l = L at *
  have hg' := hg has
  clear hx hs hl
  cases hm : y.testBit 1
  · rw [hm] at hb
    have HM := Lib.hid hm
    clear hm
    go_enter Try.func17, Try.ntmps17
    go_wp2
    exact bodyPost_ret (v := .tuple #[.int .i64 (-1), .int .i64 (0)]) (by simp [results, Try.results17, go_sem]) rfl ⟨_, _, rfl, Below.refl _ _, by have := HL.out; omega, Or.inr ⟨rfl, fun F z' h => by have := at_var_inv HA.out (by decide : 1 < 3) HX.out h; rw [bm, HM.out] at this; cases this⟩⟩
  · rw [hm] at hb
    have HM := Lib.hid hm
    clear hm
    go_enter Try.func17, Try.ntmps17
    go_wp2
    exact bodyPost_ret (v := .tuple #[.int .i64 ((a : Int) + 1), .int .i64 (0)]) (by simp [results, Try.results17, go_sem]) rfl ⟨_, _, rfl, Below.refl _ _, by have := HL.out; omega, Or.inl ⟨.var 1, a + 1, at_val HA.out HX.out rfl ⟨by decide, HM.out⟩, by omega, rfl⟩⟩

set_option maxHeartbeats 4000000 in
set_option maxRecDepth 100000 in
theorem rr_v2 (l : List UInt8) (y a : Nat) (W : World) (hl : l.length ≤ 5000) (ha : a < l.length) (hx : l[a] = 122) (hy : y < 8) : Calls Try.prog 17 #[.string (st l), .int .i64 (a : Nat), .int .i64 (y : Nat)] W fun e w' => RdOut l y a W e w' := by
  have hs : (st l).size = l.length := st_size l
  have hg : ∀ h : a < (st l).size, (st l)[a] = 122 := fun h => hx
  have hb : (bits BinOp.and IntKind.i64 ((y : Int) / 4) 1 == 1) = y.testBit 2 := by simpa using mask_bit (k := 2) hy
  have HX := Lib.hid hx
  have HA := Lib.hid ha
  have hsz : (st l).size ≤ 5000 := by omega
  have has : a < (st l).size := by omega
  have HL : Hid (l.length = (st l).size) := hs.symm
  generalize st l = L at *
  have hg' := hg has
  clear hx hs hl
  cases hm : y.testBit 2
  · rw [hm] at hb
    have HM := Lib.hid hm
    clear hm
    go_enter Try.func17, Try.ntmps17
    go_wp2
    exact bodyPost_ret (v := .tuple #[.int .i64 (-1), .int .i64 (0)]) (by simp [results, Try.results17, go_sem]) rfl ⟨_, _, rfl, Below.refl _ _, by have := HL.out; omega, Or.inr ⟨rfl, fun F z' h => by have := at_var_inv HA.out (by decide : 2 < 3) HX.out h; rw [bm, HM.out] at this; cases this⟩⟩
  · rw [hm] at hb
    have HM := Lib.hid hm
    clear hm
    go_enter Try.func17, Try.ntmps17
    go_wp2
    exact bodyPost_ret (v := .tuple #[.int .i64 ((a : Int) + 1), .int .i64 (0)]) (by simp [results, Try.results17, go_sem]) rfl ⟨_, _, rfl, Below.refl _ _, by have := HL.out; omega, Or.inl ⟨.var 2, a + 1, at_val HA.out HX.out rfl ⟨by decide, HM.out⟩, by omega, rfl⟩⟩

set_option maxHeartbeats 4000000 in
set_option maxRecDepth 100000 in
theorem rr_u0 (l : List UInt8) (y a : Nat) (W : World) (hl : l.length ≤ 5000) (ha : a < l.length) (hx : l[a] = 45) (h1 : a + 1 < l.length) (hx1 : l[a + 1] = 48) (_hy : y < 8) : Calls Try.prog 17 #[.string (st l), .int .i64 (a : Nat), .int .i64 (y : Nat)] W fun e w' => RdOut l y a W e w' := by
  have hs : (st l).size = l.length := st_size l
  have hg : ∀ h : a < (st l).size, (st l)[a] = 45 := fun h => hx
  have hgb : ∀ h : a + 1 < (st l).size, (st l)[a + 1] = 48 := fun h => hx1
  have HX := Lib.hid hx
  have HA := Lib.hid ha
  have HX1 := Lib.hid hx1
  have HA1 := Lib.hid h1
  have hsz : (st l).size ≤ 5000 := by omega
  have has : a < (st l).size := by omega
  have has1 : a + 1 < (st l).size := by omega
  have HL : Hid (l.length = (st l).size) := hs.symm
  generalize st l = L at *
  have hg' := hg has
  have hgb' := hgb has1
  clear hx hs hl hx1
  go_enter Try.func17, Try.ntmps17
  go_wp2
  exact bodyPost_ret (v := .tuple #[.int .i64 ((a : Int) + 2), .int .i64 (0)]) (by simp [results, Try.results17, go_sem]) rfl ⟨_, _, rfl, Below.refl _ _, by have := HL.out; omega, Or.inl ⟨.unm 0, a + 2, at_unm HA1.out HX.out (by decide) HX1.out, by omega, rfl⟩⟩

set_option maxHeartbeats 4000000 in
set_option maxRecDepth 100000 in
theorem rr_u1 (l : List UInt8) (y a : Nat) (W : World) (hl : l.length ≤ 5000) (ha : a < l.length) (hx : l[a] = 45) (h1 : a + 1 < l.length) (hx1 : l[a + 1] = 49) (_hy : y < 8) : Calls Try.prog 17 #[.string (st l), .int .i64 (a : Nat), .int .i64 (y : Nat)] W fun e w' => RdOut l y a W e w' := by
  have hs : (st l).size = l.length := st_size l
  have hg : ∀ h : a < (st l).size, (st l)[a] = 45 := fun h => hx
  have hgb : ∀ h : a + 1 < (st l).size, (st l)[a + 1] = 49 := fun h => hx1
  have HX := Lib.hid hx
  have HA := Lib.hid ha
  have HX1 := Lib.hid hx1
  have HA1 := Lib.hid h1
  have hsz : (st l).size ≤ 5000 := by omega
  have has : a < (st l).size := by omega
  have has1 : a + 1 < (st l).size := by omega
  have HL : Hid (l.length = (st l).size) := hs.symm
  generalize st l = L at *
  have hg' := hg has
  have hgb' := hgb has1
  clear hx hs hl hx1
  go_enter Try.func17, Try.ntmps17
  go_wp2
  exact bodyPost_ret (v := .tuple #[.int .i64 ((a : Int) + 2), .int .i64 (0)]) (by simp [results, Try.results17, go_sem]) rfl ⟨_, _, rfl, Below.refl _ _, by have := HL.out; omega, Or.inl ⟨.unm 1, a + 2, at_unm HA1.out HX.out (by decide) HX1.out, by omega, rfl⟩⟩

set_option maxHeartbeats 4000000 in
set_option maxRecDepth 100000 in
theorem rr_u2 (l : List UInt8) (y a : Nat) (W : World) (hl : l.length ≤ 5000) (ha : a < l.length) (hx : l[a] = 45) (h1 : a + 1 < l.length) (hx1 : l[a + 1] = 50) (_hy : y < 8) : Calls Try.prog 17 #[.string (st l), .int .i64 (a : Nat), .int .i64 (y : Nat)] W fun e w' => RdOut l y a W e w' := by
  have hs : (st l).size = l.length := st_size l
  have hg : ∀ h : a < (st l).size, (st l)[a] = 45 := fun h => hx
  have hgb : ∀ h : a + 1 < (st l).size, (st l)[a + 1] = 50 := fun h => hx1
  have HX := Lib.hid hx
  have HA := Lib.hid ha
  have HX1 := Lib.hid hx1
  have HA1 := Lib.hid h1
  have hsz : (st l).size ≤ 5000 := by omega
  have has : a < (st l).size := by omega
  have has1 : a + 1 < (st l).size := by omega
  have HL : Hid (l.length = (st l).size) := hs.symm
  generalize st l = L at *
  have hg' := hg has
  have hgb' := hgb has1
  clear hx hs hl hx1
  go_enter Try.func17, Try.ntmps17
  go_wp2
  exact bodyPost_ret (v := .tuple #[.int .i64 ((a : Int) + 2), .int .i64 (0)]) (by simp [results, Try.results17, go_sem]) rfl ⟨_, _, rfl, Below.refl _ _, by have := HL.out; omega, Or.inl ⟨.unm 2, a + 2, at_unm HA1.out HX.out (by decide) HX1.out, by omega, rfl⟩⟩

set_option maxHeartbeats 4000000 in
set_option maxRecDepth 100000 in
theorem rr_u3 (l : List UInt8) (y a : Nat) (W : World) (hl : l.length ≤ 5000) (ha : a < l.length) (hx : l[a] = 45) (h1 : a + 1 < l.length) (hx1 : l[a + 1] = 51) (_hy : y < 8) : Calls Try.prog 17 #[.string (st l), .int .i64 (a : Nat), .int .i64 (y : Nat)] W fun e w' => RdOut l y a W e w' := by
  have hs : (st l).size = l.length := st_size l
  have hg : ∀ h : a < (st l).size, (st l)[a] = 45 := fun h => hx
  have hgb : ∀ h : a + 1 < (st l).size, (st l)[a + 1] = 51 := fun h => hx1
  have HX := Lib.hid hx
  have HA := Lib.hid ha
  have HX1 := Lib.hid hx1
  have HA1 := Lib.hid h1
  have hsz : (st l).size ≤ 5000 := by omega
  have has : a < (st l).size := by omega
  have has1 : a + 1 < (st l).size := by omega
  have HL : Hid (l.length = (st l).size) := hs.symm
  generalize st l = L at *
  have hg' := hg has
  have hgb' := hgb has1
  clear hx hs hl hx1
  go_enter Try.func17, Try.ntmps17
  go_wp2
  exact bodyPost_ret (v := .tuple #[.int .i64 ((a : Int) + 2), .int .i64 (0)]) (by simp [results, Try.results17, go_sem]) rfl ⟨_, _, rfl, Below.refl _ _, by have := HL.out; omega, Or.inl ⟨.unm 3, a + 2, at_unm HA1.out HX.out (by decide) HX1.out, by omega, rfl⟩⟩

set_option maxHeartbeats 4000000 in
set_option maxRecDepth 100000 in
theorem rr_ue (l : List UInt8) (y a : Nat) (W : World) (hl : l.length ≤ 5000) (ha : a < l.length) (hx : l[a] = 45) (h1 : ¬ a + 1 < l.length) (_hy : y < 8) : Calls Try.prog 17 #[.string (st l), .int .i64 (a : Nat), .int .i64 (y : Nat)] W fun e w' => RdOut l y a W e w' := by
  have hs : (st l).size = l.length := st_size l
  have hg : ∀ h : a < (st l).size, (st l)[a] = 45 := fun h => hx
  have HX := Lib.hid hx
  have HA := Lib.hid ha
  have HA1 := Lib.hid h1
  have hsz : (st l).size ≤ 5000 := by omega
  have has : a < (st l).size := by omega
  have has1 : (st l).size ≤ a + 1 := by omega
  have HL : Hid (l.length = (st l).size) := hs.symm
  generalize st l = L at *
  have hg' := hg has
  clear hx hs hl h1
  go_enter Try.func17, Try.ntmps17
  go_wp2
  exact bodyPost_ret (v := .tuple #[.int .i64 (-1), .int .i64 (0)]) (by simp [results, Try.results17, go_sem]) rfl ⟨_, _, rfl, Below.refl _ _, by have := HL.out; omega, Or.inr ⟨rfl, fun F z' h => by obtain ⟨k, hk, h1, e⟩ := at_unm_inv HA.out HX.out h; exact HA1.out h1⟩⟩

set_option maxHeartbeats 4000000 in
set_option maxRecDepth 100000 in
theorem rr_me (l : List UInt8) (y a : Nat) (W : World) (hl : l.length ≤ 5000) (ha : a < l.length) (hx : l[a] = 109) (h1 : ¬ a + 1 < l.length) (_hy : y < 8) : Calls Try.prog 17 #[.string (st l), .int .i64 (a : Nat), .int .i64 (y : Nat)] W fun e w' => RdOut l y a W e w' := by
  have hs : (st l).size = l.length := st_size l
  have hg : ∀ h : a < (st l).size, (st l)[a] = 109 := fun h => hx
  have HX := Lib.hid hx
  have HA := Lib.hid ha
  have HA1 := Lib.hid h1
  have hsz : (st l).size ≤ 5000 := by omega
  have has : a < (st l).size := by omega
  have has1 : (st l).size ≤ a + 1 := by omega
  have HL : Hid (l.length = (st l).size) := hs.symm
  generalize st l = L at *
  have hg' := hg has
  clear hx hs hl h1
  go_enter Try.func17, Try.ntmps17
  go_wp2
  exact bodyPost_ret (v := .tuple #[.int .i64 (-1), .int .i64 (0)]) (by simp [results, Try.results17, go_sem]) rfl ⟨_, _, rfl, Below.refl _ _, by have := HL.out; omega, Or.inr ⟨rfl, fun F z' h => by obtain ⟨c, hc, hm, h1, e, _⟩ := at_fix_inv HA.out (by rw [HX.out]; rfl) h; exact HA1.out h1⟩⟩

set_option maxHeartbeats 4000000 in
set_option maxRecDepth 100000 in
theorem rr_ge (l : List UInt8) (y a : Nat) (W : World) (hl : l.length ≤ 5000) (ha : a < l.length) (hx : l[a] = 103) (h1 : ¬ a + 1 < l.length) (_hy : y < 8) : Calls Try.prog 17 #[.string (st l), .int .i64 (a : Nat), .int .i64 (y : Nat)] W fun e w' => RdOut l y a W e w' := by
  have hs : (st l).size = l.length := st_size l
  have hg : ∀ h : a < (st l).size, (st l)[a] = 103 := fun h => hx
  have HX := Lib.hid hx
  have HA := Lib.hid ha
  have HA1 := Lib.hid h1
  have hsz : (st l).size ≤ 5000 := by omega
  have has : a < (st l).size := by omega
  have has1 : (st l).size ≤ a + 1 := by omega
  have HL : Hid (l.length = (st l).size) := hs.symm
  generalize st l = L at *
  have hg' := hg has
  clear hx hs hl h1
  go_enter Try.func17, Try.ntmps17
  go_wp2
  exact bodyPost_ret (v := .tuple #[.int .i64 (-1), .int .i64 (0)]) (by simp [results, Try.results17, go_sem]) rfl ⟨_, _, rfl, Below.refl _ _, by have := HL.out; omega, Or.inr ⟨rfl, fun F z' h => by obtain ⟨c, hc, hm, h1, e, _⟩ := at_fix_inv HA.out (by rw [HX.out]; rfl) h; exact HA1.out h1⟩⟩

set_option maxHeartbeats 4000000 in
set_option maxRecDepth 100000 in
theorem rr_uwa (l : List UInt8) (y a : Nat) (W : World) (hl : l.length ≤ 5000) (ha : a < l.length) (hx : l[a] = 45) (h1 : a + 1 < l.length) (hq : (l[a + 1]).toNat < 48) (_hy : y < 8) : Calls Try.prog 17 #[.string (st l), .int .i64 (a : Nat), .int .i64 (y : Nat)] W fun e w' => RdOut l y a W e w' := by
  have hs : (st l).size = l.length := st_size l
  have hg : ∀ h : a < (st l).size, (st l)[a] = 45 := fun h => hx
  obtain ⟨Y, hY⟩ : ∃ Y : Int, ((l[a + 1]).toNat : Int) = Y := ⟨_, rfl⟩
  have hgb : ∀ h : a + 1 < (st l).size, ((st l)[a + 1].toNat : Int) = Y := fun h => hY
  have hYq : Y < 48 := by omega
  have HX := Lib.hid hx
  have HA := Lib.hid ha
  have HQ := Lib.hid hq
  have HA1 := Lib.hid h1
  have hsz : (st l).size ≤ 5000 := by omega
  have has : a < (st l).size := by omega
  have has1 : a + 1 < (st l).size := by omega
  have HL : Hid (l.length = (st l).size) := hs.symm
  generalize st l = L at *
  have hg' := hg has
  have hgb' := hgb has1
  clear hx hs hl hq hY
  go_enter Try.func17, Try.ntmps17
  go_wp2
  exact bodyPost_ret (v := .tuple #[.int .i64 (-1), .int .i64 (0)]) (by simp [results, Try.results17, go_sem]) rfl ⟨_, _, rfl, Below.refl _ _, by have := HL.out; omega, Or.inr ⟨rfl, fun F z' h => by obtain ⟨k, hk, h1, e⟩ := at_unm_inv HA.out HX.out h; have q := HQ.out; rw [e] at q; rcases cases4 hk with rfl | rfl | rfl | rfl <;> exact absurd q (by decide)⟩⟩

set_option maxHeartbeats 4000000 in
set_option maxRecDepth 100000 in
theorem rr_uwb (l : List UInt8) (y a : Nat) (W : World) (hl : l.length ≤ 5000) (ha : a < l.length) (hx : l[a] = 45) (h1 : a + 1 < l.length) (hq : 51 < (l[a + 1]).toNat) (_hy : y < 8) : Calls Try.prog 17 #[.string (st l), .int .i64 (a : Nat), .int .i64 (y : Nat)] W fun e w' => RdOut l y a W e w' := by
  have hs : (st l).size = l.length := st_size l
  have hg : ∀ h : a < (st l).size, (st l)[a] = 45 := fun h => hx
  obtain ⟨Y, hY⟩ : ∃ Y : Int, ((l[a + 1]).toNat : Int) = Y := ⟨_, rfl⟩
  have hgb : ∀ h : a + 1 < (st l).size, ((st l)[a + 1].toNat : Int) = Y := fun h => hY
  have hYq : 51 < Y := by omega
  have HX := Lib.hid hx
  have HA := Lib.hid ha
  have HQ := Lib.hid hq
  have HA1 := Lib.hid h1
  have hsz : (st l).size ≤ 5000 := by omega
  have has : a < (st l).size := by omega
  have has1 : a + 1 < (st l).size := by omega
  have HL : Hid (l.length = (st l).size) := hs.symm
  generalize st l = L at *
  have hg' := hg has
  have hgb' := hgb has1
  clear hx hs hl hq hY
  go_enter Try.func17, Try.ntmps17
  go_wp2
  exact bodyPost_ret (v := .tuple #[.int .i64 (-1), .int .i64 (0)]) (by simp [results, Try.results17, go_sem]) rfl ⟨_, _, rfl, Below.refl _ _, by have := HL.out; omega, Or.inr ⟨rfl, fun F z' h => by obtain ⟨k, hk, h1, e⟩ := at_unm_inv HA.out HX.out h; have q := HQ.out; rw [e] at q; rcases cases4 hk with rfl | rfl | rfl | rfl <;> exact absurd q (by decide)⟩⟩

set_option maxHeartbeats 4000000 in
set_option maxRecDepth 100000 in
theorem rr_mwa (l : List UInt8) (y a : Nat) (W : World) (hl : l.length ≤ 5000) (ha : a < l.length) (hx : l[a] = 109) (h1 : a + 1 < l.length) (hq : (l[a + 1]).toNat < 120) (_hy : y < 8) : Calls Try.prog 17 #[.string (st l), .int .i64 (a : Nat), .int .i64 (y : Nat)] W fun e w' => RdOut l y a W e w' := by
  have hs : (st l).size = l.length := st_size l
  have hg : ∀ h : a < (st l).size, (st l)[a] = 109 := fun h => hx
  obtain ⟨Y, hY⟩ : ∃ Y : Int, ((l[a + 1]).toNat : Int) = Y := ⟨_, rfl⟩
  have hgb : ∀ h : a + 1 < (st l).size, ((st l)[a + 1].toNat : Int) = Y := fun h => hY
  have hYq : Y < 120 := by omega
  have HX := Lib.hid hx
  have HA := Lib.hid ha
  have HQ := Lib.hid hq
  have HA1 := Lib.hid h1
  have hsz : (st l).size ≤ 5000 := by omega
  have has : a < (st l).size := by omega
  have has1 : a + 1 < (st l).size := by omega
  have HL : Hid (l.length = (st l).size) := hs.symm
  generalize st l = L at *
  have hg' := hg has
  have hgb' := hgb has1
  clear hx hs hl hq hY
  go_enter Try.func17, Try.ntmps17
  go_wp2
  exact bodyPost_ret (v := .tuple #[.int .i64 (-1), .int .i64 (0)]) (by simp [results, Try.results17, go_sem]) rfl ⟨_, _, rfl, Below.refl _ _, by have := HL.out; omega, Or.inr ⟨rfl, fun F z' h => by obtain ⟨c, hc, hm, h1, e, _⟩ := at_fix_inv HA.out (by rw [HX.out]; rfl) h; have q := HQ.out; rw [e] at q; rcases cases3 hc with rfl | rfl | rfl <;> exact absurd q (by decide)⟩⟩

set_option maxHeartbeats 4000000 in
set_option maxRecDepth 100000 in
theorem rr_mwb (l : List UInt8) (y a : Nat) (W : World) (hl : l.length ≤ 5000) (ha : a < l.length) (hx : l[a] = 109) (h1 : a + 1 < l.length) (hq : 122 < (l[a + 1]).toNat) (_hy : y < 8) : Calls Try.prog 17 #[.string (st l), .int .i64 (a : Nat), .int .i64 (y : Nat)] W fun e w' => RdOut l y a W e w' := by
  have hs : (st l).size = l.length := st_size l
  have hg : ∀ h : a < (st l).size, (st l)[a] = 109 := fun h => hx
  obtain ⟨Y, hY⟩ : ∃ Y : Int, ((l[a + 1]).toNat : Int) = Y := ⟨_, rfl⟩
  have hgb : ∀ h : a + 1 < (st l).size, ((st l)[a + 1].toNat : Int) = Y := fun h => hY
  have hYq : 122 < Y := by omega
  have HX := Lib.hid hx
  have HA := Lib.hid ha
  have HQ := Lib.hid hq
  have HA1 := Lib.hid h1
  have hsz : (st l).size ≤ 5000 := by omega
  have has : a < (st l).size := by omega
  have has1 : a + 1 < (st l).size := by omega
  have HL : Hid (l.length = (st l).size) := hs.symm
  generalize st l = L at *
  have hg' := hg has
  have hgb' := hgb has1
  clear hx hs hl hq hY
  go_enter Try.func17, Try.ntmps17
  go_wp2
  exact bodyPost_ret (v := .tuple #[.int .i64 (-1), .int .i64 (0)]) (by simp [results, Try.results17, go_sem]) rfl ⟨_, _, rfl, Below.refl _ _, by have := HL.out; omega, Or.inr ⟨rfl, fun F z' h => by obtain ⟨c, hc, hm, h1, e, _⟩ := at_fix_inv HA.out (by rw [HX.out]; rfl) h; have q := HQ.out; rw [e] at q; rcases cases3 hc with rfl | rfl | rfl <;> exact absurd q (by decide)⟩⟩

set_option maxHeartbeats 4000000 in
set_option maxRecDepth 100000 in
theorem rr_gwa (l : List UInt8) (y a : Nat) (W : World) (hl : l.length ≤ 5000) (ha : a < l.length) (hx : l[a] = 103) (h1 : a + 1 < l.length) (hq : (l[a + 1]).toNat < 120) (_hy : y < 8) : Calls Try.prog 17 #[.string (st l), .int .i64 (a : Nat), .int .i64 (y : Nat)] W fun e w' => RdOut l y a W e w' := by
  have hs : (st l).size = l.length := st_size l
  have hg : ∀ h : a < (st l).size, (st l)[a] = 103 := fun h => hx
  obtain ⟨Y, hY⟩ : ∃ Y : Int, ((l[a + 1]).toNat : Int) = Y := ⟨_, rfl⟩
  have hgb : ∀ h : a + 1 < (st l).size, ((st l)[a + 1].toNat : Int) = Y := fun h => hY
  have hYq : Y < 120 := by omega
  have HX := Lib.hid hx
  have HA := Lib.hid ha
  have HQ := Lib.hid hq
  have HA1 := Lib.hid h1
  have hsz : (st l).size ≤ 5000 := by omega
  have has : a < (st l).size := by omega
  have has1 : a + 1 < (st l).size := by omega
  have HL : Hid (l.length = (st l).size) := hs.symm
  generalize st l = L at *
  have hg' := hg has
  have hgb' := hgb has1
  clear hx hs hl hq hY
  go_enter Try.func17, Try.ntmps17
  go_wp2
  exact bodyPost_ret (v := .tuple #[.int .i64 (-1), .int .i64 (0)]) (by simp [results, Try.results17, go_sem]) rfl ⟨_, _, rfl, Below.refl _ _, by have := HL.out; omega, Or.inr ⟨rfl, fun F z' h => by obtain ⟨c, hc, hm, h1, e, _⟩ := at_fix_inv HA.out (by rw [HX.out]; rfl) h; have q := HQ.out; rw [e] at q; rcases cases3 hc with rfl | rfl | rfl <;> exact absurd q (by decide)⟩⟩

set_option maxHeartbeats 4000000 in
set_option maxRecDepth 100000 in
theorem rr_gwb (l : List UInt8) (y a : Nat) (W : World) (hl : l.length ≤ 5000) (ha : a < l.length) (hx : l[a] = 103) (h1 : a + 1 < l.length) (hq : 122 < (l[a + 1]).toNat) (_hy : y < 8) : Calls Try.prog 17 #[.string (st l), .int .i64 (a : Nat), .int .i64 (y : Nat)] W fun e w' => RdOut l y a W e w' := by
  have hs : (st l).size = l.length := st_size l
  have hg : ∀ h : a < (st l).size, (st l)[a] = 103 := fun h => hx
  obtain ⟨Y, hY⟩ : ∃ Y : Int, ((l[a + 1]).toNat : Int) = Y := ⟨_, rfl⟩
  have hgb : ∀ h : a + 1 < (st l).size, ((st l)[a + 1].toNat : Int) = Y := fun h => hY
  have hYq : 122 < Y := by omega
  have HX := Lib.hid hx
  have HA := Lib.hid ha
  have HQ := Lib.hid hq
  have HA1 := Lib.hid h1
  have hsz : (st l).size ≤ 5000 := by omega
  have has : a < (st l).size := by omega
  have has1 : a + 1 < (st l).size := by omega
  have HL : Hid (l.length = (st l).size) := hs.symm
  generalize st l = L at *
  have hg' := hg has
  have hgb' := hgb has1
  clear hx hs hl hq hY
  go_enter Try.func17, Try.ntmps17
  go_wp2
  exact bodyPost_ret (v := .tuple #[.int .i64 (-1), .int .i64 (0)]) (by simp [results, Try.results17, go_sem]) rfl ⟨_, _, rfl, Below.refl _ _, by have := HL.out; omega, Or.inr ⟨rfl, fun F z' h => by obtain ⟨c, hc, hm, h1, e, _⟩ := at_fix_inv HA.out (by rw [HX.out]; rfl) h; have q := HQ.out; rw [e] at q; rcases cases3 hc with rfl | rfl | rfl <;> exact absurd q (by decide)⟩⟩

set_option maxHeartbeats 4000000 in
set_option maxRecDepth 100000 in
theorem rr_m0 (N : Nat) (hN : RC N) (l : List UInt8) (y a : Nat) (W : World) (hl : l.length ≤ 5000) (ha : a < l.length) (hx : l[a] = 109) (h1 : a + 1 < l.length) (hx1 : l[a + 1] = 120) (hLN : l.length - a ≤ N + 1) (hy : y < 8) : Calls Try.prog 17 #[.string (st l), .int .i64 (a : Nat), .int .i64 (y : Nat)] W fun e w' => RdOut l y a W e w' := by
  have hs : (st l).size = l.length := st_size l
  have hg : ∀ h : a < (st l).size, (st l)[a] = 109 := fun h => hx
  have hgb : ∀ h : a + 1 < (st l).size, (st l)[a + 1] = 120 := fun h => hx1
  have hb : (bits BinOp.and IntKind.i64 (y : Int) 1 == 0) = !y.testBit 0 := by simpa using mask_bit0 (k := 0) hy
  have hor : bits BinOp.or IntKind.i64 (y : Int) 1 = ((y ||| 2 ^ 0 : Nat) : Int) := by
    have := bor_nat y (2 ^ 0) (Nat.lt_of_lt_of_le hy (by decide)) (by decide)
    simpa using this
  have hy8 : y ||| 2 ^ 0 < 8 := Nat.or_lt_two_pow (n := 3) hy (by decide)
  have HR := Lib.hid (fun W => hN l (y ||| 2 ^ 0) (a + 2) W hl (by omega) (by omega) hy8)
  have HX := Lib.hid hx
  have HA := Lib.hid ha
  have HX1 := Lib.hid hx1
  have HA1 := Lib.hid h1
  have hsz : (st l).size ≤ 5000 := by omega
  have has : a < (st l).size := by omega
  have has1 : a + 1 < (st l).size := by omega
  have HL : Hid (l.length = (st l).size) := hs.symm
  generalize st l = L at *
  have hg' := hg has
  have hgb' := hgb has1
  rw [show ((a + 2 : Nat) : Int) = (a : Int) + 2 by omega] at HR
  clear hx hs hl hx1 hN hLN
  cases hm : y.testBit 0
  · rw [hm] at hb
    have HM := Lib.hid hm
    clear hm
    go_enter Try.func17, Try.ntmps17
    have hb' : (bits BinOp.and IntKind.i64 (y : Int) 1 == 0) = true := hb
    obtain ⟨P, hP⟩ : ∃ P : Int, ((y ||| 2 ^ 0 : Nat) : Int) = P := ⟨_, rfl⟩
    rw [hP] at HR hor
    clear hP hy8
    go_wp2_with (first | (go_at_call 17; refine (HR.out _).mono ?_) | go_in)
    rintro e w1 ⟨z1, d1, rfl, hb1, ⟨d1a, d1b⟩, hz1⟩
    have HB1 := Lib.hid hb1
    have HZ1 := Lib.hid hz1
    clear hb1 hz1
    go_wp2
    refine bodyPost_ret (v := .tuple #[.int .i64 z1, .int .i64 d1]) (by simp [results, Try.results17, go_sem]) rfl ⟨_, _, rfl, HB1.out, by have := HL.out; omega, ?_⟩
    rcases HZ1.out with ⟨F, z', hA, rfl, rfl⟩ | ⟨rfl, hno⟩
    · exact Or.inl ⟨.fix false 0 F, z', at_fix HA1.out HX.out (by decide) HX1.out HM.out (hA.congr fun i _ => bm_or i), rfl, rfl⟩
    · refine Or.inr ⟨rfl, fun F z' h => ?_⟩
      obtain ⟨c, hc, hm, h1, e, G, z2, hG⟩ := at_fix_inv HA.out (by rw [HX.out]; rfl) h
      have ec : c = 0 := by rw [HX1.out] at e; rcases cases3 hc with rfl | rfl | rfl <;> first | rfl | exact absurd e (by decide)
      subst ec
      exact hno G z2 (hG.congr fun i _ => (bm_or i).symm)
  · rw [hm] at hb
    have HM := Lib.hid hm
    clear hm
    go_enter Try.func17, Try.ntmps17
    go_wp2
    exact bodyPost_ret (v := .tuple #[.int .i64 (-1), .int .i64 (0)]) (by simp [results, Try.results17, go_sem]) rfl ⟨_, _, rfl, Below.refl _ _, by have := HL.out; omega, Or.inr ⟨rfl, fun F z' h => by obtain ⟨c, hc, hm, h1, e, _⟩ := at_fix_inv HA.out (by rw [HX.out]; rfl) h; have ec : c = 0 := (by rw [HX1.out] at e; rcases cases3 hc with rfl | rfl | rfl <;> first | rfl | exact absurd e (by decide)); subst ec; rw [bm, HM.out] at hm; cases hm⟩⟩

set_option maxHeartbeats 4000000 in
set_option maxRecDepth 100000 in
theorem rr_m1 (N : Nat) (hN : RC N) (l : List UInt8) (y a : Nat) (W : World) (hl : l.length ≤ 5000) (ha : a < l.length) (hx : l[a] = 109) (h1 : a + 1 < l.length) (hx1 : l[a + 1] = 121) (hLN : l.length - a ≤ N + 1) (hy : y < 8) : Calls Try.prog 17 #[.string (st l), .int .i64 (a : Nat), .int .i64 (y : Nat)] W fun e w' => RdOut l y a W e w' := by
  have hs : (st l).size = l.length := st_size l
  have hg : ∀ h : a < (st l).size, (st l)[a] = 109 := fun h => hx
  have hgb : ∀ h : a + 1 < (st l).size, (st l)[a + 1] = 121 := fun h => hx1
  have hb : (bits BinOp.and IntKind.i64 ((y : Int) / 2) 1 == 0) = !y.testBit 1 := by simpa using mask_bit0 (k := 1) hy
  have hor : bits BinOp.or IntKind.i64 (y : Int) 2 = ((y ||| 2 ^ 1 : Nat) : Int) := by
    have := bor_nat y (2 ^ 1) (Nat.lt_of_lt_of_le hy (by decide)) (by decide)
    simpa using this
  have hy8 : y ||| 2 ^ 1 < 8 := Nat.or_lt_two_pow (n := 3) hy (by decide)
  have HR := Lib.hid (fun W => hN l (y ||| 2 ^ 1) (a + 2) W hl (by omega) (by omega) hy8)
  have HX := Lib.hid hx
  have HA := Lib.hid ha
  have HX1 := Lib.hid hx1
  have HA1 := Lib.hid h1
  have hsz : (st l).size ≤ 5000 := by omega
  have has : a < (st l).size := by omega
  have has1 : a + 1 < (st l).size := by omega
  have HL : Hid (l.length = (st l).size) := hs.symm
  generalize st l = L at *
  have hg' := hg has
  have hgb' := hgb has1
  rw [show ((a + 2 : Nat) : Int) = (a : Int) + 2 by omega] at HR
  clear hx hs hl hx1 hN hLN
  cases hm : y.testBit 1
  · rw [hm] at hb
    have HM := Lib.hid hm
    clear hm
    go_enter Try.func17, Try.ntmps17
    have hb' : (bits BinOp.and IntKind.i64 ((y : Int) / 2) 1 == 0) = true := hb
    obtain ⟨P, hP⟩ : ∃ P : Int, ((y ||| 2 ^ 1 : Nat) : Int) = P := ⟨_, rfl⟩
    rw [hP] at HR hor
    clear hP hy8
    go_wp2_with (first | (go_at_call 17; refine (HR.out _).mono ?_) | go_in)
    rintro e w1 ⟨z1, d1, rfl, hb1, ⟨d1a, d1b⟩, hz1⟩
    have HB1 := Lib.hid hb1
    have HZ1 := Lib.hid hz1
    clear hb1 hz1
    go_wp2
    refine bodyPost_ret (v := .tuple #[.int .i64 z1, .int .i64 d1]) (by simp [results, Try.results17, go_sem]) rfl ⟨_, _, rfl, HB1.out, by have := HL.out; omega, ?_⟩
    rcases HZ1.out with ⟨F, z', hA, rfl, rfl⟩ | ⟨rfl, hno⟩
    · exact Or.inl ⟨.fix false 1 F, z', at_fix HA1.out HX.out (by decide) HX1.out HM.out (hA.congr fun i _ => bm_or i), rfl, rfl⟩
    · refine Or.inr ⟨rfl, fun F z' h => ?_⟩
      obtain ⟨c, hc, hm, h1, e, G, z2, hG⟩ := at_fix_inv HA.out (by rw [HX.out]; rfl) h
      have ec : c = 1 := by rw [HX1.out] at e; rcases cases3 hc with rfl | rfl | rfl <;> first | rfl | exact absurd e (by decide)
      subst ec
      exact hno G z2 (hG.congr fun i _ => (bm_or i).symm)
  · rw [hm] at hb
    have HM := Lib.hid hm
    clear hm
    go_enter Try.func17, Try.ntmps17
    go_wp2
    exact bodyPost_ret (v := .tuple #[.int .i64 (-1), .int .i64 (0)]) (by simp [results, Try.results17, go_sem]) rfl ⟨_, _, rfl, Below.refl _ _, by have := HL.out; omega, Or.inr ⟨rfl, fun F z' h => by obtain ⟨c, hc, hm, h1, e, _⟩ := at_fix_inv HA.out (by rw [HX.out]; rfl) h; have ec : c = 1 := (by rw [HX1.out] at e; rcases cases3 hc with rfl | rfl | rfl <;> first | rfl | exact absurd e (by decide)); subst ec; rw [bm, HM.out] at hm; cases hm⟩⟩

set_option maxHeartbeats 4000000 in
set_option maxRecDepth 100000 in
theorem rr_m2 (N : Nat) (hN : RC N) (l : List UInt8) (y a : Nat) (W : World) (hl : l.length ≤ 5000) (ha : a < l.length) (hx : l[a] = 109) (h1 : a + 1 < l.length) (hx1 : l[a + 1] = 122) (hLN : l.length - a ≤ N + 1) (hy : y < 8) : Calls Try.prog 17 #[.string (st l), .int .i64 (a : Nat), .int .i64 (y : Nat)] W fun e w' => RdOut l y a W e w' := by
  have hs : (st l).size = l.length := st_size l
  have hg : ∀ h : a < (st l).size, (st l)[a] = 109 := fun h => hx
  have hgb : ∀ h : a + 1 < (st l).size, (st l)[a + 1] = 122 := fun h => hx1
  have hb : (bits BinOp.and IntKind.i64 ((y : Int) / 4) 1 == 0) = !y.testBit 2 := by simpa using mask_bit0 (k := 2) hy
  have hor : bits BinOp.or IntKind.i64 (y : Int) 4 = ((y ||| 2 ^ 2 : Nat) : Int) := by
    have := bor_nat y (2 ^ 2) (Nat.lt_of_lt_of_le hy (by decide)) (by decide)
    simpa using this
  have hy8 : y ||| 2 ^ 2 < 8 := Nat.or_lt_two_pow (n := 3) hy (by decide)
  have HR := Lib.hid (fun W => hN l (y ||| 2 ^ 2) (a + 2) W hl (by omega) (by omega) hy8)
  have HX := Lib.hid hx
  have HA := Lib.hid ha
  have HX1 := Lib.hid hx1
  have HA1 := Lib.hid h1
  have hsz : (st l).size ≤ 5000 := by omega
  have has : a < (st l).size := by omega
  have has1 : a + 1 < (st l).size := by omega
  have HL : Hid (l.length = (st l).size) := hs.symm
  generalize st l = L at *
  have hg' := hg has
  have hgb' := hgb has1
  rw [show ((a + 2 : Nat) : Int) = (a : Int) + 2 by omega] at HR
  clear hx hs hl hx1 hN hLN
  cases hm : y.testBit 2
  · rw [hm] at hb
    have HM := Lib.hid hm
    clear hm
    go_enter Try.func17, Try.ntmps17
    have hb' : (bits BinOp.and IntKind.i64 ((y : Int) / 4) 1 == 0) = true := hb
    obtain ⟨P, hP⟩ : ∃ P : Int, ((y ||| 2 ^ 2 : Nat) : Int) = P := ⟨_, rfl⟩
    rw [hP] at HR hor
    clear hP hy8
    go_wp2_with (first | (go_at_call 17; refine (HR.out _).mono ?_) | go_in)
    rintro e w1 ⟨z1, d1, rfl, hb1, ⟨d1a, d1b⟩, hz1⟩
    have HB1 := Lib.hid hb1
    have HZ1 := Lib.hid hz1
    clear hb1 hz1
    go_wp2
    refine bodyPost_ret (v := .tuple #[.int .i64 z1, .int .i64 d1]) (by simp [results, Try.results17, go_sem]) rfl ⟨_, _, rfl, HB1.out, by have := HL.out; omega, ?_⟩
    rcases HZ1.out with ⟨F, z', hA, rfl, rfl⟩ | ⟨rfl, hno⟩
    · exact Or.inl ⟨.fix false 2 F, z', at_fix HA1.out HX.out (by decide) HX1.out HM.out (hA.congr fun i _ => bm_or i), rfl, rfl⟩
    · refine Or.inr ⟨rfl, fun F z' h => ?_⟩
      obtain ⟨c, hc, hm, h1, e, G, z2, hG⟩ := at_fix_inv HA.out (by rw [HX.out]; rfl) h
      have ec : c = 2 := by rw [HX1.out] at e; rcases cases3 hc with rfl | rfl | rfl <;> first | rfl | exact absurd e (by decide)
      subst ec
      exact hno G z2 (hG.congr fun i _ => (bm_or i).symm)
  · rw [hm] at hb
    have HM := Lib.hid hm
    clear hm
    go_enter Try.func17, Try.ntmps17
    go_wp2
    exact bodyPost_ret (v := .tuple #[.int .i64 (-1), .int .i64 (0)]) (by simp [results, Try.results17, go_sem]) rfl ⟨_, _, rfl, Below.refl _ _, by have := HL.out; omega, Or.inr ⟨rfl, fun F z' h => by obtain ⟨c, hc, hm, h1, e, _⟩ := at_fix_inv HA.out (by rw [HX.out]; rfl) h; have ec : c = 2 := (by rw [HX1.out] at e; rcases cases3 hc with rfl | rfl | rfl <;> first | rfl | exact absurd e (by decide)); subst ec; rw [bm, HM.out] at hm; cases hm⟩⟩

set_option maxHeartbeats 4000000 in
set_option maxRecDepth 100000 in
theorem rr_g0 (N : Nat) (hN : RC N) (l : List UInt8) (y a : Nat) (W : World) (hl : l.length ≤ 5000) (ha : a < l.length) (hx : l[a] = 103) (h1 : a + 1 < l.length) (hx1 : l[a + 1] = 120) (hLN : l.length - a ≤ N + 1) (hy : y < 8) : Calls Try.prog 17 #[.string (st l), .int .i64 (a : Nat), .int .i64 (y : Nat)] W fun e w' => RdOut l y a W e w' := by
  have hs : (st l).size = l.length := st_size l
  have hg : ∀ h : a < (st l).size, (st l)[a] = 103 := fun h => hx
  have hgb : ∀ h : a + 1 < (st l).size, (st l)[a + 1] = 120 := fun h => hx1
  have hb : (bits BinOp.and IntKind.i64 (y : Int) 1 == 0) = !y.testBit 0 := by simpa using mask_bit0 (k := 0) hy
  have hor : bits BinOp.or IntKind.i64 (y : Int) 1 = ((y ||| 2 ^ 0 : Nat) : Int) := by
    have := bor_nat y (2 ^ 0) (Nat.lt_of_lt_of_le hy (by decide)) (by decide)
    simpa using this
  have hy8 : y ||| 2 ^ 0 < 8 := Nat.or_lt_two_pow (n := 3) hy (by decide)
  have HR := Lib.hid (fun W => hN l (y ||| 2 ^ 0) (a + 2) W hl (by omega) (by omega) hy8)
  have HX := Lib.hid hx
  have HA := Lib.hid ha
  have HX1 := Lib.hid hx1
  have HA1 := Lib.hid h1
  have hsz : (st l).size ≤ 5000 := by omega
  have has : a < (st l).size := by omega
  have has1 : a + 1 < (st l).size := by omega
  have HL : Hid (l.length = (st l).size) := hs.symm
  generalize st l = L at *
  have hg' := hg has
  have hgb' := hgb has1
  rw [show ((a + 2 : Nat) : Int) = (a : Int) + 2 by omega] at HR
  clear hx hs hl hx1 hN hLN
  cases hm : y.testBit 0
  · rw [hm] at hb
    have HM := Lib.hid hm
    clear hm
    go_enter Try.func17, Try.ntmps17
    have hb' : (bits BinOp.and IntKind.i64 (y : Int) 1 == 0) = true := hb
    obtain ⟨P, hP⟩ : ∃ P : Int, ((y ||| 2 ^ 0 : Nat) : Int) = P := ⟨_, rfl⟩
    rw [hP] at HR hor
    clear hP hy8
    go_wp2_with (first | (go_at_call 17; refine (HR.out _).mono ?_) | go_in)
    rintro e w1 ⟨z1, d1, rfl, hb1, ⟨d1a, d1b⟩, hz1⟩
    have HB1 := Lib.hid hb1
    have HZ1 := Lib.hid hz1
    clear hb1 hz1
    go_wp2
    refine bodyPost_ret (v := .tuple #[.int .i64 z1, .int .i64 d1]) (by simp [results, Try.results17, go_sem]) rfl ⟨_, _, rfl, HB1.out, by have := HL.out; omega, ?_⟩
    rcases HZ1.out with ⟨F, z', hA, rfl, rfl⟩ | ⟨rfl, hno⟩
    · exact Or.inl ⟨.fix true 0 F, z', at_fix HA1.out HX.out (by decide) HX1.out HM.out (hA.congr fun i _ => bm_or i), rfl, rfl⟩
    · refine Or.inr ⟨rfl, fun F z' h => ?_⟩
      obtain ⟨c, hc, hm, h1, e, G, z2, hG⟩ := at_fix_inv HA.out (by rw [HX.out]; rfl) h
      have ec : c = 0 := by rw [HX1.out] at e; rcases cases3 hc with rfl | rfl | rfl <;> first | rfl | exact absurd e (by decide)
      subst ec
      exact hno G z2 (hG.congr fun i _ => (bm_or i).symm)
  · rw [hm] at hb
    have HM := Lib.hid hm
    clear hm
    go_enter Try.func17, Try.ntmps17
    go_wp2
    exact bodyPost_ret (v := .tuple #[.int .i64 (-1), .int .i64 (0)]) (by simp [results, Try.results17, go_sem]) rfl ⟨_, _, rfl, Below.refl _ _, by have := HL.out; omega, Or.inr ⟨rfl, fun F z' h => by obtain ⟨c, hc, hm, h1, e, _⟩ := at_fix_inv HA.out (by rw [HX.out]; rfl) h; have ec : c = 0 := (by rw [HX1.out] at e; rcases cases3 hc with rfl | rfl | rfl <;> first | rfl | exact absurd e (by decide)); subst ec; rw [bm, HM.out] at hm; cases hm⟩⟩

set_option maxHeartbeats 4000000 in
set_option maxRecDepth 100000 in
theorem rr_g1 (N : Nat) (hN : RC N) (l : List UInt8) (y a : Nat) (W : World) (hl : l.length ≤ 5000) (ha : a < l.length) (hx : l[a] = 103) (h1 : a + 1 < l.length) (hx1 : l[a + 1] = 121) (hLN : l.length - a ≤ N + 1) (hy : y < 8) : Calls Try.prog 17 #[.string (st l), .int .i64 (a : Nat), .int .i64 (y : Nat)] W fun e w' => RdOut l y a W e w' := by
  have hs : (st l).size = l.length := st_size l
  have hg : ∀ h : a < (st l).size, (st l)[a] = 103 := fun h => hx
  have hgb : ∀ h : a + 1 < (st l).size, (st l)[a + 1] = 121 := fun h => hx1
  have hb : (bits BinOp.and IntKind.i64 ((y : Int) / 2) 1 == 0) = !y.testBit 1 := by simpa using mask_bit0 (k := 1) hy
  have hor : bits BinOp.or IntKind.i64 (y : Int) 2 = ((y ||| 2 ^ 1 : Nat) : Int) := by
    have := bor_nat y (2 ^ 1) (Nat.lt_of_lt_of_le hy (by decide)) (by decide)
    simpa using this
  have hy8 : y ||| 2 ^ 1 < 8 := Nat.or_lt_two_pow (n := 3) hy (by decide)
  have HR := Lib.hid (fun W => hN l (y ||| 2 ^ 1) (a + 2) W hl (by omega) (by omega) hy8)
  have HX := Lib.hid hx
  have HA := Lib.hid ha
  have HX1 := Lib.hid hx1
  have HA1 := Lib.hid h1
  have hsz : (st l).size ≤ 5000 := by omega
  have has : a < (st l).size := by omega
  have has1 : a + 1 < (st l).size := by omega
  have HL : Hid (l.length = (st l).size) := hs.symm
  generalize st l = L at *
  have hg' := hg has
  have hgb' := hgb has1
  rw [show ((a + 2 : Nat) : Int) = (a : Int) + 2 by omega] at HR
  clear hx hs hl hx1 hN hLN
  cases hm : y.testBit 1
  · rw [hm] at hb
    have HM := Lib.hid hm
    clear hm
    go_enter Try.func17, Try.ntmps17
    have hb' : (bits BinOp.and IntKind.i64 ((y : Int) / 2) 1 == 0) = true := hb
    obtain ⟨P, hP⟩ : ∃ P : Int, ((y ||| 2 ^ 1 : Nat) : Int) = P := ⟨_, rfl⟩
    rw [hP] at HR hor
    clear hP hy8
    go_wp2_with (first | (go_at_call 17; refine (HR.out _).mono ?_) | go_in)
    rintro e w1 ⟨z1, d1, rfl, hb1, ⟨d1a, d1b⟩, hz1⟩
    have HB1 := Lib.hid hb1
    have HZ1 := Lib.hid hz1
    clear hb1 hz1
    go_wp2
    refine bodyPost_ret (v := .tuple #[.int .i64 z1, .int .i64 d1]) (by simp [results, Try.results17, go_sem]) rfl ⟨_, _, rfl, HB1.out, by have := HL.out; omega, ?_⟩
    rcases HZ1.out with ⟨F, z', hA, rfl, rfl⟩ | ⟨rfl, hno⟩
    · exact Or.inl ⟨.fix true 1 F, z', at_fix HA1.out HX.out (by decide) HX1.out HM.out (hA.congr fun i _ => bm_or i), rfl, rfl⟩
    · refine Or.inr ⟨rfl, fun F z' h => ?_⟩
      obtain ⟨c, hc, hm, h1, e, G, z2, hG⟩ := at_fix_inv HA.out (by rw [HX.out]; rfl) h
      have ec : c = 1 := by rw [HX1.out] at e; rcases cases3 hc with rfl | rfl | rfl <;> first | rfl | exact absurd e (by decide)
      subst ec
      exact hno G z2 (hG.congr fun i _ => (bm_or i).symm)
  · rw [hm] at hb
    have HM := Lib.hid hm
    clear hm
    go_enter Try.func17, Try.ntmps17
    go_wp2
    exact bodyPost_ret (v := .tuple #[.int .i64 (-1), .int .i64 (0)]) (by simp [results, Try.results17, go_sem]) rfl ⟨_, _, rfl, Below.refl _ _, by have := HL.out; omega, Or.inr ⟨rfl, fun F z' h => by obtain ⟨c, hc, hm, h1, e, _⟩ := at_fix_inv HA.out (by rw [HX.out]; rfl) h; have ec : c = 1 := (by rw [HX1.out] at e; rcases cases3 hc with rfl | rfl | rfl <;> first | rfl | exact absurd e (by decide)); subst ec; rw [bm, HM.out] at hm; cases hm⟩⟩

set_option maxHeartbeats 4000000 in
set_option maxRecDepth 100000 in
theorem rr_g2 (N : Nat) (hN : RC N) (l : List UInt8) (y a : Nat) (W : World) (hl : l.length ≤ 5000) (ha : a < l.length) (hx : l[a] = 103) (h1 : a + 1 < l.length) (hx1 : l[a + 1] = 122) (hLN : l.length - a ≤ N + 1) (hy : y < 8) : Calls Try.prog 17 #[.string (st l), .int .i64 (a : Nat), .int .i64 (y : Nat)] W fun e w' => RdOut l y a W e w' := by
  have hs : (st l).size = l.length := st_size l
  have hg : ∀ h : a < (st l).size, (st l)[a] = 103 := fun h => hx
  have hgb : ∀ h : a + 1 < (st l).size, (st l)[a + 1] = 122 := fun h => hx1
  have hb : (bits BinOp.and IntKind.i64 ((y : Int) / 4) 1 == 0) = !y.testBit 2 := by simpa using mask_bit0 (k := 2) hy
  have hor : bits BinOp.or IntKind.i64 (y : Int) 4 = ((y ||| 2 ^ 2 : Nat) : Int) := by
    have := bor_nat y (2 ^ 2) (Nat.lt_of_lt_of_le hy (by decide)) (by decide)
    simpa using this
  have hy8 : y ||| 2 ^ 2 < 8 := Nat.or_lt_two_pow (n := 3) hy (by decide)
  have HR := Lib.hid (fun W => hN l (y ||| 2 ^ 2) (a + 2) W hl (by omega) (by omega) hy8)
  have HX := Lib.hid hx
  have HA := Lib.hid ha
  have HX1 := Lib.hid hx1
  have HA1 := Lib.hid h1
  have hsz : (st l).size ≤ 5000 := by omega
  have has : a < (st l).size := by omega
  have has1 : a + 1 < (st l).size := by omega
  have HL : Hid (l.length = (st l).size) := hs.symm
  generalize st l = L at *
  have hg' := hg has
  have hgb' := hgb has1
  rw [show ((a + 2 : Nat) : Int) = (a : Int) + 2 by omega] at HR
  clear hx hs hl hx1 hN hLN
  cases hm : y.testBit 2
  · rw [hm] at hb
    have HM := Lib.hid hm
    clear hm
    go_enter Try.func17, Try.ntmps17
    have hb' : (bits BinOp.and IntKind.i64 ((y : Int) / 4) 1 == 0) = true := hb
    obtain ⟨P, hP⟩ : ∃ P : Int, ((y ||| 2 ^ 2 : Nat) : Int) = P := ⟨_, rfl⟩
    rw [hP] at HR hor
    clear hP hy8
    go_wp2_with (first | (go_at_call 17; refine (HR.out _).mono ?_) | go_in)
    rintro e w1 ⟨z1, d1, rfl, hb1, ⟨d1a, d1b⟩, hz1⟩
    have HB1 := Lib.hid hb1
    have HZ1 := Lib.hid hz1
    clear hb1 hz1
    go_wp2
    refine bodyPost_ret (v := .tuple #[.int .i64 z1, .int .i64 d1]) (by simp [results, Try.results17, go_sem]) rfl ⟨_, _, rfl, HB1.out, by have := HL.out; omega, ?_⟩
    rcases HZ1.out with ⟨F, z', hA, rfl, rfl⟩ | ⟨rfl, hno⟩
    · exact Or.inl ⟨.fix true 2 F, z', at_fix HA1.out HX.out (by decide) HX1.out HM.out (hA.congr fun i _ => bm_or i), rfl, rfl⟩
    · refine Or.inr ⟨rfl, fun F z' h => ?_⟩
      obtain ⟨c, hc, hm, h1, e, G, z2, hG⟩ := at_fix_inv HA.out (by rw [HX.out]; rfl) h
      have ec : c = 2 := by rw [HX1.out] at e; rcases cases3 hc with rfl | rfl | rfl <;> first | rfl | exact absurd e (by decide)
      subst ec
      exact hno G z2 (hG.congr fun i _ => (bm_or i).symm)
  · rw [hm] at hb
    have HM := Lib.hid hm
    clear hm
    go_enter Try.func17, Try.ntmps17
    go_wp2
    exact bodyPost_ret (v := .tuple #[.int .i64 (-1), .int .i64 (0)]) (by simp [results, Try.results17, go_sem]) rfl ⟨_, _, rfl, Below.refl _ _, by have := HL.out; omega, Or.inr ⟨rfl, fun F z' h => by obtain ⟨c, hc, hm, h1, e, _⟩ := at_fix_inv HA.out (by rw [HX.out]; rfl) h; have ec : c = 2 := (by rw [HX1.out] at e; rcases cases3 hc with rfl | rfl | rfl <;> first | rfl | exact absurd e (by decide)); subst ec; rw [bm, HM.out] at hm; cases hm⟩⟩

set_option maxHeartbeats 4000000 in
set_option maxRecDepth 100000 in
theorem rr_and (N : Nat) (hN : RC N) (l : List UInt8) (y a : Nat) (W : World) (hl : l.length ≤ 5000) (ha : a < l.length) (hx : l[a] = 38) (hLN : l.length - a ≤ N + 1) (hy : y < 8) : Calls Try.prog 17 #[.string (st l), .int .i64 (a : Nat), .int .i64 (y : Nat)] W fun e w' => RdOut l y a W e w' := by
  have hs : (st l).size = l.length := st_size l
  have hg : ∀ h : a < (st l).size, (st l)[a] = 38 := fun h => hx
  have HR := Lib.hid (fun W => hN l y (a + 1) W hl (by omega) (by omega) hy)
  rw [show ((a + 1 : Nat) : Int) = (a : Int) + 1 by omega] at HR
  have HR2 : Hid (∀ z W, a < z → z ≤ l.length → Calls Try.prog 17 #[.string (st l), .int .i64 (z : Nat), .int .i64 (y : Nat)] W fun e w' => RdOut l y z W e w') := fun z W h1 h2 => hN l y z W hl h2 (by omega) hy
  have HX := Lib.hid hx
  have HA := Lib.hid ha
  have hsz : (st l).size ≤ 5000 := by omega
  have has : a < (st l).size := by omega
  have HL : Hid (l.length = (st l).size) := hs.symm
  generalize st l = L at *
  have hg' := hg has
  clear hx hs hl hN hLN
  go_enter Try.func17, Try.ntmps17
  go_wp2_with (first | (go_at_call 17; refine (HR.out _).mono ?_) | go_in)
  rintro e w1 ⟨z1, d1, rfl, hb1, ⟨d1a, d1b⟩, hz1⟩
  have HB1 := Lib.hid hb1
  rcases hz1 with ⟨F, z', hA, rfl, rfl⟩ | ⟨rfl, hno⟩
  · have hle := hA.le
    have h3 := HR2.out z' w1 (by omega) hle.2
    have H3 := Lib.hid h3
    have HAF := Lib.hid hA
    have hzz : z' ≤ 5000 := by have := HL.out; omega
    have HDl := Lib.hid (dep_lt F)
    clear hb1 hA h3
    go_wp2_with (first | (go_at_call 17; refine H3.out.mono ?_) | go_in)
    rintro e w2 ⟨z2, d2, rfl, hb2, ⟨d2a, d2b⟩, hz2⟩
    have HB2 := Lib.hid (band HB1.out hb2)
    have HZ2 := Lib.hid hz2
    clear hb2 hz2
    generalize hDF : ((dep F : Nat) : Int) = DF at *
    have HDF := Lib.hid hDF
    clear hDF
    go_wp2
    refine bodyPost_ret (v := .tuple #[.int .i64 z2, .int .i64 (max DF d2)]) (by simp [results, Try.results17, go_sem]) rfl ⟨_, _, rfl, HB2.out, by have := HL.out; omega, ?_⟩
    rcases HZ2.out with ⟨G, z3, hG, rfl, rfl⟩ | ⟨rfl, hno⟩
    · exact Or.inl ⟨.two true F G, z3, at_two HA.out HX.out HAF.out hG, rfl, by have := HDF.out; simp only [dep]; omega⟩
    · refine Or.inr ⟨rfl, fun H z4 h => ?_⟩
      obtain ⟨F', G', u1, u2, h1, h2⟩ := at_two_inv HA.out (by rw [HX.out]; rfl) h
      obtain ⟨_, rfl⟩ := HAF.out.uniq h1
      exact hno _ _ h2
  · have HNo := Lib.hid hno
    clear hb1 hno
    go_wp2
    exact bodyPost_ret (v := .tuple #[.int .i64 (-1), .int .i64 0]) (by simp [results, Try.results17, go_sem]) rfl ⟨_, _, rfl, HB1.out, by have := HL.out; omega, Or.inr ⟨rfl, fun H z4 h => by
      obtain ⟨F', G', u1, u2, h1, h2⟩ := at_two_inv HA.out (by rw [HX.out]; rfl) h
      exact HNo.out _ _ h1⟩⟩

set_option maxHeartbeats 4000000 in
set_option maxRecDepth 100000 in
theorem rr_or (N : Nat) (hN : RC N) (l : List UInt8) (y a : Nat) (W : World) (hl : l.length ≤ 5000) (ha : a < l.length) (hx : l[a] = 124) (hLN : l.length - a ≤ N + 1) (hy : y < 8) : Calls Try.prog 17 #[.string (st l), .int .i64 (a : Nat), .int .i64 (y : Nat)] W fun e w' => RdOut l y a W e w' := by
  have hs : (st l).size = l.length := st_size l
  have hg : ∀ h : a < (st l).size, (st l)[a] = 124 := fun h => hx
  have HR := Lib.hid (fun W => hN l y (a + 1) W hl (by omega) (by omega) hy)
  rw [show ((a + 1 : Nat) : Int) = (a : Int) + 1 by omega] at HR
  have HR2 : Hid (∀ z W, a < z → z ≤ l.length → Calls Try.prog 17 #[.string (st l), .int .i64 (z : Nat), .int .i64 (y : Nat)] W fun e w' => RdOut l y z W e w') := fun z W h1 h2 => hN l y z W hl h2 (by omega) hy
  have HX := Lib.hid hx
  have HA := Lib.hid ha
  have hsz : (st l).size ≤ 5000 := by omega
  have has : a < (st l).size := by omega
  have HL : Hid (l.length = (st l).size) := hs.symm
  generalize st l = L at *
  have hg' := hg has
  clear hx hs hl hN hLN
  go_enter Try.func17, Try.ntmps17
  go_wp2_with (first | (go_at_call 17; refine (HR.out _).mono ?_) | go_in)
  rintro e w1 ⟨z1, d1, rfl, hb1, ⟨d1a, d1b⟩, hz1⟩
  have HB1 := Lib.hid hb1
  rcases hz1 with ⟨F, z', hA, rfl, rfl⟩ | ⟨rfl, hno⟩
  · have hle := hA.le
    have h3 := HR2.out z' w1 (by omega) hle.2
    have H3 := Lib.hid h3
    have HAF := Lib.hid hA
    have hzz : z' ≤ 5000 := by have := HL.out; omega
    have HDl := Lib.hid (dep_lt F)
    clear hb1 hA h3
    go_wp2_with (first | (go_at_call 17; refine H3.out.mono ?_) | go_in)
    rintro e w2 ⟨z2, d2, rfl, hb2, ⟨d2a, d2b⟩, hz2⟩
    have HB2 := Lib.hid (band HB1.out hb2)
    have HZ2 := Lib.hid hz2
    clear hb2 hz2
    generalize hDF : ((dep F : Nat) : Int) = DF at *
    have HDF := Lib.hid hDF
    clear hDF
    go_wp2
    refine bodyPost_ret (v := .tuple #[.int .i64 z2, .int .i64 (max DF d2)]) (by simp [results, Try.results17, go_sem]) rfl ⟨_, _, rfl, HB2.out, by have := HL.out; omega, ?_⟩
    rcases HZ2.out with ⟨G, z3, hG, rfl, rfl⟩ | ⟨rfl, hno⟩
    · exact Or.inl ⟨.two false F G, z3, at_two HA.out HX.out HAF.out hG, rfl, by have := HDF.out; simp only [dep]; omega⟩
    · refine Or.inr ⟨rfl, fun H z4 h => ?_⟩
      obtain ⟨F', G', u1, u2, h1, h2⟩ := at_two_inv HA.out (by rw [HX.out]; rfl) h
      obtain ⟨_, rfl⟩ := HAF.out.uniq h1
      exact hno _ _ h2
  · have HNo := Lib.hid hno
    clear hb1 hno
    go_wp2
    exact bodyPost_ret (v := .tuple #[.int .i64 (-1), .int .i64 0]) (by simp [results, Try.results17, go_sem]) rfl ⟨_, _, rfl, HB1.out, by have := HL.out; omega, Or.inr ⟨rfl, fun H z4 h => by
      obtain ⟨F', G', u1, u2, h1, h2⟩ := at_two_inv HA.out (by rw [HX.out]; rfl) h
      exact HNo.out _ _ h1⟩⟩

set_option maxHeartbeats 4000000 in
set_option maxRecDepth 100000 in
theorem rr_dia (N : Nat) (hN : RC N) (l : List UInt8) (y a : Nat) (W : World) (hl : l.length ≤ 5000) (ha : a < l.length) (hx : l[a] = 60) (hLN : l.length - a ≤ N + 1) (hy : y < 8) : Calls Try.prog 17 #[.string (st l), .int .i64 (a : Nat), .int .i64 (y : Nat)] W fun e w' => RdOut l y a W e w' := by
  have hs : (st l).size = l.length := st_size l
  have hg : ∀ h : a < (st l).size, (st l)[a] = 60 := fun h => hx
  have HR := Lib.hid (fun W => hN l y (a + 1) W hl (by omega) (by omega) hy)
  rw [show ((a + 1 : Nat) : Int) = (a : Int) + 1 by omega] at HR
  have HX := Lib.hid hx
  have HA := Lib.hid ha
  have hsz : (st l).size ≤ 5000 := by omega
  have has : a < (st l).size := by omega
  have HL : Hid (l.length = (st l).size) := hs.symm
  generalize st l = L at *
  have hg' := hg has
  clear hx hs hl hN hLN
  go_enter Try.func17, Try.ntmps17
  go_wp2_with (first | (go_at_call 17; refine (HR.out _).mono ?_) | go_in)
  rintro e w1 ⟨z1, d1, rfl, hb1, ⟨d1a, d1b⟩, hz1⟩
  have HB1 := Lib.hid hb1
  have HZ1 := Lib.hid hz1
  have hdb : d1 ≤ 5000 := by have := HL.out; omega
  have HDb := Lib.hid d1b
  clear hb1 hz1 d1b
  go_wp2
  refine bodyPost_ret (v := .tuple #[.int .i64 z1, .int .i64 (d1 + 1)]) (by simp [results, Try.results17, go_sem]) rfl ⟨_, _, rfl, HB1.out, by have := HL.out; have := HDb.out; omega, ?_⟩
  rcases HZ1.out with ⟨F, z', hA, rfl, rfl⟩ | ⟨rfl, hno⟩
  · exact Or.inl ⟨.ahead true F, z', at_ahead HA.out HX.out hA, rfl, by simp only [dep]; omega⟩
  · refine Or.inr ⟨rfl, fun F z' h => ?_⟩
    obtain ⟨G, z2, hG⟩ := at_ahead_inv HA.out (by rw [HX.out]; rfl) h
    exact hno _ _ hG

set_option maxHeartbeats 4000000 in
set_option maxRecDepth 100000 in
theorem rr_box (N : Nat) (hN : RC N) (l : List UInt8) (y a : Nat) (W : World) (hl : l.length ≤ 5000) (ha : a < l.length) (hx : l[a] = 91) (hLN : l.length - a ≤ N + 1) (hy : y < 8) : Calls Try.prog 17 #[.string (st l), .int .i64 (a : Nat), .int .i64 (y : Nat)] W fun e w' => RdOut l y a W e w' := by
  have hs : (st l).size = l.length := st_size l
  have hg : ∀ h : a < (st l).size, (st l)[a] = 91 := fun h => hx
  have HR := Lib.hid (fun W => hN l y (a + 1) W hl (by omega) (by omega) hy)
  rw [show ((a + 1 : Nat) : Int) = (a : Int) + 1 by omega] at HR
  have HX := Lib.hid hx
  have HA := Lib.hid ha
  have hsz : (st l).size ≤ 5000 := by omega
  have has : a < (st l).size := by omega
  have HL : Hid (l.length = (st l).size) := hs.symm
  generalize st l = L at *
  have hg' := hg has
  clear hx hs hl hN hLN
  go_enter Try.func17, Try.ntmps17
  go_wp2_with (first | (go_at_call 17; refine (HR.out _).mono ?_) | go_in)
  rintro e w1 ⟨z1, d1, rfl, hb1, ⟨d1a, d1b⟩, hz1⟩
  have HB1 := Lib.hid hb1
  have HZ1 := Lib.hid hz1
  have hdb : d1 ≤ 5000 := by have := HL.out; omega
  have HDb := Lib.hid d1b
  clear hb1 hz1 d1b
  go_wp2
  refine bodyPost_ret (v := .tuple #[.int .i64 z1, .int .i64 (d1 + 1)]) (by simp [results, Try.results17, go_sem]) rfl ⟨_, _, rfl, HB1.out, by have := HL.out; have := HDb.out; omega, ?_⟩
  rcases HZ1.out with ⟨F, z', hA, rfl, rfl⟩ | ⟨rfl, hno⟩
  · exact Or.inl ⟨.ahead false F, z', at_ahead HA.out HX.out hA, rfl, by simp only [dep]; omega⟩
  · refine Or.inr ⟨rfl, fun F z' h => ?_⟩
    obtain ⟨G, z2, hG⟩ := at_ahead_inv HA.out (by rw [HX.out]; rfl) h
    exact hno _ _ hG

set_option maxHeartbeats 4000000 in
set_option maxRecDepth 100000 in
theorem rr_n0 (l : List UInt8) (y a : Nat) (W : World) (hl : l.length ≤ 5000) (ha : a < l.length) (hx : kind l[a] = 0) (hr : (l[a]).toNat < 48) (_hy : y < 8) : Calls Try.prog 17 #[.string (st l), .int .i64 (a : Nat), .int .i64 (y : Nat)] W fun e w' => RdOut l y a W e w' := by
  have HN : Hid (∀ F z, ¬ At (bm y) l a F z) := fun F z => at_none ha hx
  have HA := Lib.hid ha
  have hs : (st l).size = l.length := st_size l
  obtain ⟨Y, hY⟩ : ∃ Y : Int, ((l[a]).toNat : Int) = Y := ⟨_, rfl⟩
  have hg : ∀ h : a < (st l).size, ((st l)[a].toNat : Int) = Y := fun h => hY
  have hk := kind_zero hx
  have ne : ∀ y : UInt8, l[a] ≠ y → (Y == (y.toNat : Int)) = false := fun y h => by
    rw [beq_eq_false_iff_ne, ← hY]
    intro e
    exact h (UInt8.toNat_inj.1 (by omega))
  obtain ⟨_, _, _, _, h4, h5, h6, h7, h8, h9, h10, _, _, _, h14, h15⟩ := hk
  have g4 : (Y == 45) = false := ne 45 h4
  have g5 : (Y == 116) = false := ne 116 h5
  have g6 : (Y == 102) = false := ne 102 h6
  have g7 : (Y == 38) = false := ne 38 h7
  have g8 : (Y == 124) = false := ne 124 h8
  have g9 : (Y == 60) = false := ne 60 h9
  have g10 : (Y == 91) = false := ne 91 h10
  have g14 : (Y == 103) = false := ne 103 h14
  have g15 : (Y == 109) = false := ne 109 h15
  have hhi : Y < 48 := by omega
  have hsz : (st l).size ≤ 5000 := by omega
  have has : a < (st l).size := by omega
  have HL : Hid (l.length = (st l).size) := hs.symm
  generalize st l = L at *
  have hg' := hg has
  clear hx hs hl hr hY ne h4 h5 h6 h7 h8 h9 h10 h14 h15
  go_enter Try.func17, Try.ntmps17
  go_wp2
  exact bodyPost_ret (v := .tuple #[.int .i64 (-1), .int .i64 0]) (by simp [results, Try.results17, go_sem]) rfl ⟨_, _, rfl, Below.refl _ _, by have := HL.out; omega, Or.inr ⟨rfl, HN.out⟩⟩

set_option maxHeartbeats 4000000 in
set_option maxRecDepth 100000 in
theorem rr_n1 (l : List UInt8) (y a : Nat) (W : World) (hl : l.length ≤ 5000) (ha : a < l.length) (hx : kind l[a] = 0) (hr : 51 < (l[a]).toNat ∧ (l[a]).toNat < 120) (_hy : y < 8) : Calls Try.prog 17 #[.string (st l), .int .i64 (a : Nat), .int .i64 (y : Nat)] W fun e w' => RdOut l y a W e w' := by
  have HN : Hid (∀ F z, ¬ At (bm y) l a F z) := fun F z => at_none ha hx
  have HA := Lib.hid ha
  have hs : (st l).size = l.length := st_size l
  obtain ⟨Y, hY⟩ : ∃ Y : Int, ((l[a]).toNat : Int) = Y := ⟨_, rfl⟩
  have hg : ∀ h : a < (st l).size, ((st l)[a].toNat : Int) = Y := fun h => hY
  have hk := kind_zero hx
  have ne : ∀ y : UInt8, l[a] ≠ y → (Y == (y.toNat : Int)) = false := fun y h => by
    rw [beq_eq_false_iff_ne, ← hY]
    intro e
    exact h (UInt8.toNat_inj.1 (by omega))
  obtain ⟨_, _, _, _, h4, h5, h6, h7, h8, h9, h10, _, _, _, h14, h15⟩ := hk
  have g4 : (Y == 45) = false := ne 45 h4
  have g5 : (Y == 116) = false := ne 116 h5
  have g6 : (Y == 102) = false := ne 102 h6
  have g7 : (Y == 38) = false := ne 38 h7
  have g8 : (Y == 124) = false := ne 124 h8
  have g9 : (Y == 60) = false := ne 60 h9
  have g10 : (Y == 91) = false := ne 91 h10
  have g14 : (Y == 103) = false := ne 103 h14
  have g15 : (Y == 109) = false := ne 109 h15
  have hlo : 51 < Y := by omega
  have hhi : Y < 120 := by omega
  have hsz : (st l).size ≤ 5000 := by omega
  have has : a < (st l).size := by omega
  have HL : Hid (l.length = (st l).size) := hs.symm
  generalize st l = L at *
  have hg' := hg has
  clear hx hs hl hr hY ne h4 h5 h6 h7 h8 h9 h10 h14 h15
  go_enter Try.func17, Try.ntmps17
  go_wp2
  exact bodyPost_ret (v := .tuple #[.int .i64 (-1), .int .i64 0]) (by simp [results, Try.results17, go_sem]) rfl ⟨_, _, rfl, Below.refl _ _, by have := HL.out; omega, Or.inr ⟨rfl, HN.out⟩⟩

set_option maxHeartbeats 4000000 in
set_option maxRecDepth 100000 in
theorem rr_n2 (l : List UInt8) (y a : Nat) (W : World) (hl : l.length ≤ 5000) (ha : a < l.length) (hx : kind l[a] = 0) (hr : 122 < (l[a]).toNat) (_hy : y < 8) : Calls Try.prog 17 #[.string (st l), .int .i64 (a : Nat), .int .i64 (y : Nat)] W fun e w' => RdOut l y a W e w' := by
  have HN : Hid (∀ F z, ¬ At (bm y) l a F z) := fun F z => at_none ha hx
  have HA := Lib.hid ha
  have hs : (st l).size = l.length := st_size l
  obtain ⟨Y, hY⟩ : ∃ Y : Int, ((l[a]).toNat : Int) = Y := ⟨_, rfl⟩
  have hg : ∀ h : a < (st l).size, ((st l)[a].toNat : Int) = Y := fun h => hY
  have hk := kind_zero hx
  have ne : ∀ y : UInt8, l[a] ≠ y → (Y == (y.toNat : Int)) = false := fun y h => by
    rw [beq_eq_false_iff_ne, ← hY]
    intro e
    exact h (UInt8.toNat_inj.1 (by omega))
  obtain ⟨_, _, _, _, h4, h5, h6, h7, h8, h9, h10, _, _, _, h14, h15⟩ := hk
  have g4 : (Y == 45) = false := ne 45 h4
  have g5 : (Y == 116) = false := ne 116 h5
  have g6 : (Y == 102) = false := ne 102 h6
  have g7 : (Y == 38) = false := ne 38 h7
  have g8 : (Y == 124) = false := ne 124 h8
  have g9 : (Y == 60) = false := ne 60 h9
  have g10 : (Y == 91) = false := ne 91 h10
  have g14 : (Y == 103) = false := ne 103 h14
  have g15 : (Y == 109) = false := ne 109 h15
  have hlo : 122 < Y := by omega
  have hsz : (st l).size ≤ 5000 := by omega
  have has : a < (st l).size := by omega
  have HL : Hid (l.length = (st l).size) := hs.symm
  generalize st l = L at *
  have hg' := hg has
  clear hx hs hl hr hY ne h4 h5 h6 h7 h8 h9 h10 h14 h15
  go_enter Try.func17, Try.ntmps17
  go_wp2
  exact bodyPost_ret (v := .tuple #[.int .i64 (-1), .int .i64 0]) (by simp [results, Try.results17, go_sem]) rfl ⟨_, _, rfl, Below.refl _ _, by have := HL.out; omega, Or.inr ⟨rfl, HN.out⟩⟩

set_option maxHeartbeats 4000000 in
set_option maxRecDepth 100000 in
theorem rr_end (l : List UInt8) (y a : Nat) (W : World) (hl : l.length ≤ 5000) (ha : a = l.length) : Calls Try.prog 17 #[.string (st l), .int .i64 (a : Nat), .int .i64 (y : Nat)] W fun e w' => RdOut l y a W e w' := by
  have HN : Hid (∀ F z, ¬ At (bm y) l a F z) := fun F z => at_end (by omega)
  have HL : Hid (a = l.length) := ha
  have hs : (st l).size = l.length := st_size l
  have has : (st l).size ≤ a := by omega
  have hsz : a ≤ 5000 := by omega
  generalize st l = L at *
  clear hs hl ha
  go_enter Try.func17, Try.ntmps17
  go_wp2
  exact bodyPost_ret (v := .tuple #[.int .i64 (-1), .int .i64 0]) (by simp [results, Try.results17, go_sem]) rfl ⟨_, _, rfl, Below.refl _ _, by have := HL.out; omega, Or.inr ⟨rfl, HN.out⟩⟩

theorem rc_all : ∀ N, RC N := by
  intro N
  induction N with
  | zero =>
    intro l y a W hl ha hN hy
    exact rr_end l y a W hl (by omega)
  | succ N ih =>
    intro l y a W hl ha hN hy
    by_cases hal : a = l.length
    · exact rr_end l y a W hl hal
    · have ha' : a < l.length := by omega
      rcases byte_cases l[a] with ⟨k, hk, hx⟩ | hx | hx | hx | (hx | hx) | (hx | hx) | ⟨c, hc, hx⟩ | (hx | hx) | hx
      · rcases cases4 hk with rfl | rfl | rfl | rfl
        · exact rr_d0 l y a W hl ha' hx hy
        · exact rr_d1 l y a W hl ha' hx hy
        · exact rr_d2 l y a W hl ha' hx hy
        · exact rr_d3 l y a W hl ha' hx hy
      · by_cases h1 : a + 1 < l.length
        · by_cases hd : 48 ≤ (l[a + 1]).toNat ∧ (l[a + 1]).toNat ≤ 51
          · obtain ⟨k, hk, e⟩ : ∃ k, k < 4 ∧ l[a + 1] = dig k := ⟨(l[a + 1]).toNat - 48, by omega, by unfold dig; rw [show 48 + ((l[a + 1]).toNat - 48) = (l[a + 1]).toNat by omega]; simp⟩
            rcases cases4 hk with rfl | rfl | rfl | rfl
            · exact rr_u0 l y a W hl ha' hx h1 e hy
            · exact rr_u1 l y a W hl ha' hx h1 e hy
            · exact rr_u2 l y a W hl ha' hx h1 e hy
            · exact rr_u3 l y a W hl ha' hx h1 e hy
          · by_cases hlo : (l[a + 1]).toNat < 48
            · exact rr_uwa l y a W hl ha' hx h1 hlo hy
            · exact rr_uwb l y a W hl ha' hx h1 (by omega) hy
        · exact rr_ue l y a W hl ha' hx h1 hy
      · exact rr_t l y a W hl ha' hx hy
      · exact rr_f l y a W hl ha' hx hy
      · exact rr_and N ih l y a W hl ha' hx hN hy
      · exact rr_or N ih l y a W hl ha' hx hN hy
      · exact rr_dia N ih l y a W hl ha' hx hN hy
      · exact rr_box N ih l y a W hl ha' hx hN hy
      · rcases cases3 hc with rfl | rfl | rfl
        · exact rr_v0 l y a W hl ha' hx hy
        · exact rr_v1 l y a W hl ha' hx hy
        · exact rr_v2 l y a W hl ha' hx hy
      · by_cases h1 : a + 1 < l.length
        · by_cases hd : 120 ≤ (l[a + 1]).toNat ∧ (l[a + 1]).toNat ≤ 122
          · obtain ⟨k, hk, e⟩ : ∃ k, k < 3 ∧ l[a + 1] = lett k := ⟨(l[a + 1]).toNat - 120, by omega, by unfold lett; rw [show 120 + ((l[a + 1]).toNat - 120) = (l[a + 1]).toNat by omega]; simp⟩
            rcases cases3 hk with rfl | rfl | rfl
            · exact rr_g0 N ih l y a W hl ha' hx h1 e hN hy
            · exact rr_g1 N ih l y a W hl ha' hx h1 e hN hy
            · exact rr_g2 N ih l y a W hl ha' hx h1 e hN hy
          · by_cases hlo : (l[a + 1]).toNat < 120
            · exact rr_gwa l y a W hl ha' hx h1 hlo hy
            · exact rr_gwb l y a W hl ha' hx h1 (by omega) hy
        · exact rr_ge l y a W hl ha' hx h1 hy
      · by_cases h1 : a + 1 < l.length
        · by_cases hd : 120 ≤ (l[a + 1]).toNat ∧ (l[a + 1]).toNat ≤ 122
          · obtain ⟨k, hk, e⟩ : ∃ k, k < 3 ∧ l[a + 1] = lett k := ⟨(l[a + 1]).toNat - 120, by omega, by unfold lett; rw [show 120 + ((l[a + 1]).toNat - 120) = (l[a + 1]).toNat by omega]; simp⟩
            rcases cases3 hk with rfl | rfl | rfl
            · exact rr_m0 N ih l y a W hl ha' hx h1 e hN hy
            · exact rr_m1 N ih l y a W hl ha' hx h1 e hN hy
            · exact rr_m2 N ih l y a W hl ha' hx h1 e hN hy
          · by_cases hlo : (l[a + 1]).toNat < 120
            · exact rr_mwa l y a W hl ha' hx h1 hlo hy
            · exact rr_mwb l y a W hl ha' hx h1 (by omega) hy
        · exact rr_me l y a W hl ha' hx h1 hy
      · have hk := kind_zero hx
        by_cases h48 : (l[a]).toNat < 48
        · exact rr_n0 l y a W hl ha' hx h48 hy
        · by_cases h51 : 51 < (l[a]).toNat
          · by_cases h120 : (l[a]).toNat < 120
            · exact rr_n1 l y a W hl ha' hx ⟨h51, h120⟩ hy
            · by_cases h122 : 122 < (l[a]).toNat
              · exact rr_n2 l y a W hl ha' hx h122 hy
              · exfalso
                have : ∀ y : UInt8, l[a] ≠ y → (l[a]).toNat ≠ y.toNat := fun y h e => h (UInt8.toNat_inj.1 e)
                have h1 := this 120 hk.2.2.2.2.2.2.2.2.2.2.2.1
                have h2 := this 121 hk.2.2.2.2.2.2.2.2.2.2.2.2.1
                have h3 := this 122 hk.2.2.2.2.2.2.2.2.2.2.2.2.2.1
                have e1 : (120 : UInt8).toNat = 120 := rfl
                have e2 : (121 : UInt8).toNat = 121 := rfl
                have e3 : (122 : UInt8).toNat = 122 := rfl
                omega
          · exfalso
            have : ∀ y : UInt8, l[a] ≠ y → (l[a]).toNat ≠ y.toNat := fun y h e => h (UInt8.toNat_inj.1 e)
            have h0 := this 48 hk.1
            have h1 := this 49 hk.2.1
            have h2 := this 50 hk.2.2.1
            have h3 := this 51 hk.2.2.2.1
            have e0 : (48 : UInt8).toNat = 48 := rfl
            have e1 : (49 : UInt8).toNat = 49 := rfl
            have e2 : (50 : UInt8).toNat = 50 := rfl
            have e3 : (51 : UInt8).toNat = 51 := rfl
            omega

end Go.Proofs.Ytkbbijhknbcflab
