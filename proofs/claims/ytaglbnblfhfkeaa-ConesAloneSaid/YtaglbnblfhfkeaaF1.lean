import Derived.Test.YtaglbnblfhfkeaaE6
namespace Go.Proofs.Ytaglbnblfhfkeaa
open Go.RowKit

/-- Are two slices of slices equal? -/
def eqMB (R1 R2 : Nat) (L1 L2 : Nat → Nat) (Z1 Z2 : Nat → Nat → Int) : Bool := decide (R1 = R2 ∧ ∀ j, j < R1 → eqN (L1 j) (L2 j) (Z1 j) (Z2 j) = true)
theorem eqMB_iff {R1 R2 : Nat} {L1 L2 : Nat → Nat} {Z1 Z2 : Nat → Nat → Int} : eqMB R1 R2 L1 L2 Z1 Z2 = true ↔ R1 = R2 ∧ ∀ j, j < R1 → eqN (L1 j) (L2 j) (Z1 j) (Z2 j) = true := by simp [eqMB]
theorem eqMB_no {R1 R2 : Nat} {L1 L2 : Nat → Nat} {Z1 Z2 : Nat → Nat → Int} (h : ¬ (R1 = R2 ∧ ∀ j, j < R1 → eqN (L1 j) (L2 j) (Z1 j) (Z2 j) = true)) : eqMB R1 R2 L1 L2 Z1 Z2 = false := by
  simp only [eqMB, decide_eq_false_iff_not]; exact h

theorem mat_drewN {w : World} {a : Option Addr} {R : Nat} {A : Nat → Option Addr} {L C : Nat → Nat} {Z : Nat → Nat → Int} (h : Mat w a R A L C Z) (q : Nat) : Mat (w.drewN q) a R A L C Z := ⟨h.row, h.cap, h.ints⟩

def Drawn (r : Bool) (w : World) (e : Ending) (w' : World) : Prop := e = .returned (.bool r) ∧ ∃ q, w' = w.drewN q

set_option maxHeartbeats 4000000 in
set_option maxRecDepth 100000 in
theorem equalFunc_any (a1 a2 : Option Addr) (c1 c2 R1 R2 : Nat) (A1 A2 : Nat → Option Addr) (L1 L2 C1 C2 : Nat → Nat) (Z1 Z2 : Nat → Nat → Int) (w : World) (h1 : R1 ≤ 140737488351232) (h2 : R2 ≤ 140737488351232)
    (m1 : Mat w a1 R1 A1 L1 C1 Z1) (m2 : Mat w a2 R2 A2 L2 C2 Z2) (hL1 : ∀ j, j < R1 → L1 j ≤ 140737488351232) (hL2 : ∀ j, j < R2 → L2 j ≤ 140737488351232) :
    Calls Try.prog 67 #[.slice a1 R1 c1, .slice a2 R2 c2, .func (.func 20) #[] #[]] w fun e w' => Drawn (eqMB R1 R2 L1 L2 Z1 Z2) w e w' := by
  by_cases hR : R1 = R2
  · subst hR
    have M1 := Lib.hid m1
    have M2 := Lib.hid m2
    have HL1 := Lib.hid hL1
    have HL2 := Lib.hid hL2
    clear m1 m2 hL1 hL2
    go_enter Try.func67, Try.ntmps67
    go_wp2
    go_loopw [17] (fun i wr => ∃ k : Nat, k ≤ R1 ∧ i = .int .i64 k ∧ (∃ q, wr = w.drewN q) ∧ Hid (∀ j, j < k → eqN (L1 j) (L2 j) (Z1 j) (Z2 j) = true)) (fun i _ => R1 - (intOf i).toNat)
    case atStart => exact ⟨0, Nat.zero_le _, rfl, ⟨0, rfl⟩, fun j hj => absurd hj (Nat.not_lt_zero _)⟩
    case round =>
      obtain ⟨k, hk, rfl, ⟨q, rfl⟩, hr⟩ := hrel
      by_cases hlt : k < R1
      · obtain ⟨b, o, rfl, hck⟩ := M1.out.row k hlt
        obtain ⟨b', o', rfl, hcy⟩ := M2.out.row k hlt
        have i1 := Lib.hid ((mat_drewN M1.out q).ints k hlt)
        have i2 := Lib.hid ((mat_drewN M2.out q).ints k hlt)
        have l1 := HL1.out k hlt
        have l2 := HL2.out k hlt
        cases hE : eqN (L1 k) (L2 k) (Z1 k) (Z2 k)
        · have hf : Hid (eqMB R1 R1 L1 L2 Z1 Z2 = false) := eqMB_no fun h => by rw [h.2 k hlt] at hE; cases hE
          have HE := Lib.hid hE
          clear hE
          go_wp2_with (go_at_call 20; refine (equal_r false _ _ _ _ _ _ _ _ _ HE.out l1 l2 i1.out i2.out).mono ?_; rintro e w' ⟨rfl, q2, rfl⟩)
          go_ret
          exact ⟨by rw [hf.out]; rfl, ⟨_, rfl⟩⟩
        · have hn : Hid (∀ j, j < k + 1 → eqN (L1 j) (L2 j) (Z1 j) (Z2 j) = true) := by
            intro j hj
            by_cases e : j = k
            · subst e; exact hE
            · exact hr.out j (by omega)
          have HE := Lib.hid hE
          clear hE
          go_wp2_with (go_at_call 20; refine (equal_r true _ _ _ _ _ _ _ _ _ HE.out l1 l2 i1.out i2.out).mono ?_; rintro e w' ⟨rfl, q2, rfl⟩)
          go_roundw
          case rel => exact ⟨k + 1, by omega, by go_num, ⟨_, rfl⟩, hn⟩
          case measure => simp [intOf]; omega
      · have e : k = R1 := by omega
        subst e
        have hf : Hid (eqMB k k L1 L2 Z1 Z2 = true) := eqMB_iff.2 ⟨rfl, hr.out⟩
        go_wp2
        go_ret
        exact ⟨by rw [hf.out]; rfl, ⟨_, rfl⟩⟩
  · have hf : Hid (eqMB R1 R2 L1 L2 Z1 Z2 = false) := eqMB_no fun h => hR h.1
    have G1 : ((R1 : Int) != (R2 : Int)) = true := by simp; omega
    clear hR m1 m2 hL1 hL2
    go_enter Try.func67, Try.ntmps67
    go_wp2
    go_ret
    exact ⟨by rw [hf.out]; rfl, ⟨0, rfl⟩⟩

set_option maxHeartbeats 2000000 in
theorem equalII_r (r : Bool) (a1 a2 : Option Addr) (c1 c2 R1 R2 : Nat) (A1 A2 : Nat → Option Addr) (L1 L2 C1 C2 : Nat → Nat) (Z1 Z2 : Nat → Nat → Int) (w : World) (hr : eqMB R1 R2 L1 L2 Z1 Z2 = r) (h1 : R1 ≤ 140737488351232) (h2 : R2 ≤ 140737488351232)
    (m1 : Mat w a1 R1 A1 L1 C1 Z1) (m2 : Mat w a2 R2 A2 L2 C2 Z2) (hL1 : ∀ j, j < R1 → L1 j ≤ 140737488351232) (hL2 : ∀ j, j < R2 → L2 j ≤ 140737488351232) :
    Calls Try.prog 28 #[.slice a1 R1 c1, .slice a2 R2 c2] w fun e w' => Drawn r w e w' := by
  have H := Lib.hid (equalFunc_any a1 a2 c1 c2 R1 R2 A1 A2 L1 L2 C1 C2 Z1 Z2 w h1 h2 m1 m2 hL1 hL2)
  rw [hr] at H
  clear hr m1 m2 hL1 hL2
  go_enter Try.func28, Try.ntmps28
  go_wp2_with (go_at_call 67; refine H.out.mono ?_; rintro e w' ⟨rfl, q, rfl⟩)
  go_ret
  exact ⟨rfl, q, rfl⟩

/-- Is there one? -/
def someP (R : Nat) (p : Nat → Bool) : Bool := decide (∃ j, j < R ∧ p j = true)
theorem someP_iff {R : Nat} {p : Nat → Bool} : someP R p = true ↔ ∃ j, j < R ∧ p j = true := by simp [someP]
theorem someP_no {R : Nat} {p : Nat → Bool} (h : ∀ j, j < R → p j = false) : someP R p = false := by
  simp only [someP, decide_eq_false_iff_not]
  rintro ⟨j, hj, h'⟩
  rw [h j hj] at h'; cases h'

def IdxOut (r : Bool) (w : World) (e : Ending) (w' : World) : Prop := ∃ i : Int, (if r then 0 ≤ i else i = -1) ∧ e = .returned (.int .i64 i) ∧ ∃ q, w' = w.drewN q

set_option maxHeartbeats 4000000 in
set_option maxRecDepth 100000 in
theorem indexII_any (g : Nat) (cb : Array Value) (p : Nat → Bool) (a : Option Addr) (c R : Nat) (A : Nat → Option Addr) (L C : Nat → Nat) (Z : Nat → Nat → Int) (w : World) (hR : R ≤ 140737488351232) (hm : Mat w a R A L C Z)
    (eg : ∀ args w, (callFunc g args).run Try.prog w = .ok (.enter g args) w) (Hc : ∀ j, j < R → ∀ q, Calls Try.prog g (#[.slice (A j) (L j) (C j)] ++ cb) (w.drewN q) fun e w' => Drawn (p j) w e w') :
    Calls Try.prog 91 #[.slice a R c, .func (.func g) #[] cb] w fun e w' => IdxOut (someP R p) w e w' := by
  have M := Lib.hid hm
  have HC := Lib.hid Hc
  clear hm Hc
  go_enter Try.func91, Try.ntmps91
  go_wp2
  go_loopw [8] (fun i wr => ∃ k : Nat, k ≤ R ∧ i = .int .i64 k ∧ (∃ q, wr = w.drewN q) ∧ Hid (∀ j, j < k → p j = false)) (fun i _ => R - (intOf i).toNat)
  case atStart => exact ⟨0, Nat.zero_le _, rfl, ⟨0, rfl⟩, fun j hj => absurd hj (Nat.not_lt_zero _)⟩
  case round =>
    obtain ⟨k, hk, rfl, ⟨q, rfl⟩, hr⟩ := hrel
    by_cases hlt : k < R
    · obtain ⟨b, o, rfl, hck⟩ := M.out.row k hlt
      have Hk := Lib.hid (HC.out k hlt q)
      cases hE : p k
      · have hn : Hid (∀ j, j < k + 1 → p j = false) := by
          intro j hj
          by_cases e : j = k
          · subst e; exact hE
          · exact hr.out j (by omega)
        have HE := Lib.hid hE
        rw [hE] at Hk
        clear hE
        go_wp2_with (go_at_fn g; refine Hk.out.mono ?_; rintro e w' ⟨rfl, q2, rfl⟩)
        go_roundw
        case rel => exact ⟨k + 1, by omega, by go_num, ⟨_, rfl⟩, hn⟩
        case measure => simp [intOf]; omega
      · have hf : Hid (someP R p = true) := someP_iff.2 ⟨k, hlt, hE⟩
        rw [hE] at Hk
        clear hE
        go_wp2_with (go_at_fn g; refine Hk.out.mono ?_; rintro e w' ⟨rfl, q2, rfl⟩)
        go_ret
        exact ⟨(k : Int), by rw [hf.out]; simp, rfl, ⟨_, rfl⟩⟩
    · have e : k = R := by omega
      subst e
      have hf := Lib.hid (someP_no hr.out)
      go_wp2
      go_ret
      exact ⟨-1, by rw [hf.out]; simp, rfl, ⟨_, rfl⟩⟩

set_option maxHeartbeats 4000000 in
set_option maxRecDepth 100000 in
theorem containsII_r (r : Bool) (g : Nat) (cb : Array Value) (p : Nat → Bool) (a : Option Addr) (c R : Nat) (A : Nat → Option Addr) (L C : Nat → Nat) (Z : Nat → Nat → Int) (w : World) (hp : someP R p = r) (hR : R ≤ 140737488351232) (hm : Mat w a R A L C Z)
    (eg : ∀ args w, (callFunc g args).run Try.prog w = .ok (.enter g args) w) (Hc : ∀ j, j < R → ∀ q, Calls Try.prog g (#[.slice (A j) (L j) (C j)] ++ cb) (w.drewN q) fun e w' => Drawn (p j) w e w') :
    Calls Try.prog 50 #[.slice a R c, .func (.func g) #[] cb] w fun e w' => Drawn r w e w' := by
  have H := Lib.hid (indexII_any g cb p a c R A L C Z w hR hm eg Hc)
  rw [hp] at H
  clear hp hm eg Hc
  cases r
  · go_enter Try.func50, Try.ntmps50
    go_wp2_with (go_at_call 91; refine H.out.mono ?_; rintro e w' ⟨i, rfl, rfl, q, rfl⟩)
    go_ret
    exact ⟨rfl, q, rfl⟩
  · go_enter Try.func50, Try.ntmps50
    go_wp2_with (go_at_call 91; refine H.out.mono ?_; rintro e w' ⟨i, hi, rfl, q, rfl⟩; simp only [if_true] at hi)
    go_ret
    exact ⟨rfl, q, rfl⟩
end Go.Proofs.Ytaglbnblfhfkeaa
