import Derived.Test.YtaglbnblfhfkeaaE4
import Derived.Test.YtaglbnblfhfkeaaE5
namespace Go.Proofs.Ytaglbnblfhfkeaa
open Go.RowKit

/-- A vector of four numbers; the matrix that was read. -/
def vecOf (z : Nat → Int) : Vec := ⟨z 0, z 1, z 2, z 3⟩
def mxOf (R : Nat) (L : Nat → Nat) (Z : Nat → Nat → Int) : Mx := ⟨vecOf (rowN R L Z 0), vecOf (rowN R L Z 1), L 0⟩

theorem rowN_low {R : Nat} {L : Nat → Nat} {Z : Nat → Nat → Int} (h : isMat R L Z = true) (j i : Nat) : low (rowN R L Z j i) := by
  have h := (isMat_iff.1 h).2.2
  unfold rowN
  by_cases hj : j < R
  · simp only [hj, if_true, padN]
    by_cases hi : i < L j
    · simp only [hi, if_true]; exact (h j hj).2.2.2 i hi
    · simp only [hi, if_false]; simp [low]
  · simp only [hj, if_false]; simp [low]
theorem mxOf_ok {R : Nat} {L : Nat → Nat} {Z : Nat → Nat → Int} (h : isMat R L Z = true) : (mxOf R L Z).ok := by
  have h1 := isMat_iff.1 h
  have h2 := h1.2.2 0 (by omega)
  exact ⟨h2.2.1, h2.2.2.1, ⟨rowN_low h 0 0, rowN_low h 0 1, rowN_low h 0 2, rowN_low h 0 3⟩, ⟨rowN_low h 1 0, rowN_low h 1 1, rowN_low h 1 2, rowN_low h 1 3⟩⟩

def ReadsMx (m : Mx) (w : World) (e : Ending) (w' : World) : Prop := e = .returned (.tuple #[.agg #[.int .i64 (m).r0.a, .int .i64 (m).r0.b, .int .i64 (m).r0.c, .int .i64 (m).r0.d, .int .i64 (m).r1.a, .int .i64 (m).r1.b, .int .i64 (m).r1.c, .int .i64 (m).r1.d, .int .i64 ((m).n : Int)], .bool true]) ∧ Below w.heap.size w w'
theorem readMatrix_mx (a : Option Addr) (cap R : Nat) (A : Nat → Option Addr) (L C : Nat → Nat) (Z : Nat → Nat → Int) (w : World) (hm : Mat w a R A L C Z) (hr : isMat R L Z = true) :
    Calls Try.prog 62 #[.slice a R cap] w fun e w' => ReadsMx (mxOf R L Z) w e w' :=
  (readMatrix_true a cap R A L C Z w hm hr).mono fun _ _ h => h

def BasicOut (m : Mx) (w : World) (e : Ending) (w' : World) : Prop := ∃ a' c' F, e = .returned (.tuple #[.slice a' F.length c', .int .i64 0]) ∧ VL w' a' m.n F ∧ AllBasic m F ∧ Below w.heap.size w w'
def Fails (w : World) (e : Ending) (w' : World) : Prop := e = .returned (.tuple #[.slice none 0 0, .int .i64 2]) ∧ Below w.heap.size w w'

theorem below3 {w W1 wc wd : World} (h1 : Below w.heap.size w W1) (h2 : Below W1.heap.size W1 wc) (h3 : Below wc.heap.size wc wd) : Below w.heap.size w wd :=
  h1.trans ((h2.mono h1.size).trans (h3.mono (Nat.le_trans h1.size h2.size)))

set_option maxHeartbeats 4000000 in
set_option maxRecDepth 100000 in
theorem fBasic_core (m : Mx) (arg : Value) (w : World) (hm : m.ok) (Hr : Calls Try.prog 62 #[arg] w fun e w' => ReadsMx m w e w') :
    Calls Try.prog 25 #[arg] w fun e w' => BasicOut m w e w' := by
  have hn4 := hm.n4
  have HM := Lib.hid hm
  have HR := Lib.hid Hr
  clear hm Hr
  go_enter Try.func25, Try.ntmps25
  go_wp2_with fail
  refine HR.out.mono ?_
  rintro e w1 ⟨rfl, hb⟩
  have HB := Lib.hid hb
  have hsz := hb.size
  clear hb HR
  go_wp2
  go_region_with (first
    | (go_at_call 64; refine (mbasic_any m _ HM.out).mono ?_; rintro e wc ⟨val, F, rfl, hO, hA, hb1⟩; obtain ⟨a1, c1, rfl, hV, hv1, hv2⟩ := hO.read; have HA := Lib.hid hA; have HV := Lib.hid hV; have HB1 := Lib.hid hb1; have q := matS_cells ((hb1.block w1.heap.size (by simp)).trans (heap_alloc_new w1 (.cells #[.int .i64 (m).r0.a, .int .i64 (m).r0.b, .int .i64 (m).r0.c, .int .i64 (m).r0.d, .int .i64 (m).r1.a, .int .i64 (m).r1.b, .int .i64 (m).r1.c, .int .i64 (m).r1.d, .int .i64 ((m).n : Int)] 64))); clear hO hA hV hv1 hv2 hb1)
    | (go_at_call 63; refine (lists_any m _ _ _ _ hn4 HV.out (Nat.le_trans (HA.out.few HM.out) (by omega))).mono ?_; rintro e wd ⟨a2, c2, rfl, hVL, hb2⟩; have HVL := Lib.hid hVL; have HB2 := Lib.hid hb2; clear hVL hb2))
  all_goals (go_wp2; go_ret2; exact ⟨a2, c2, F, rfl, HVL.out, HA.out, below3 ((HB.out.alloc hsz _).drew) HB1.out HB2.out⟩)

set_option maxHeartbeats 4000000 in
set_option maxRecDepth 100000 in
theorem fBasic_fails (arg : Value) (w : World) (Hr : Calls Try.prog 62 #[arg] w fun e w' => SomeMat w e w') : Calls Try.prog 25 #[arg] w fun e w' => Fails w e w' := by
  have HR := Lib.hid Hr
  clear Hr
  go_enter Try.func25, Try.ntmps25
  go_wp2_with fail
  refine HR.out.mono ?_
  rintro e w1 ⟨r0, r1, c, rfl, hb⟩
  have HB := Lib.hid (hb.alloc hb.size (.cells #[.int .i64 (r0 0), .int .i64 (r0 1), .int .i64 (r0 2), .int .i64 (r0 3), .int .i64 (r1 0), .int .i64 (r1 1), .int .i64 (r1 2), .int .i64 (r1 3), .int .i64 c] 64))
  clear hb
  go_wp2
  go_ret2
  exact ⟨rfl, HB.out⟩

theorem fBasic_yes (a : Option Addr) (cap R : Nat) (A : Nat → Option Addr) (L C : Nat → Nat) (Z : Nat → Nat → Int) (w : World) (hm : Mat w a R A L C Z) (hr : isMat R L Z = true) :
    Calls Try.prog 25 #[.slice a R cap] w fun e w' => BasicOut (mxOf R L Z) w e w' := fBasic_core _ _ w (mxOf_ok hr) (readMatrix_mx a cap R A L C Z w hm hr)
theorem fBasic_no (a : Option Addr) (cap R : Nat) (A : Nat → Option Addr) (L C : Nat → Nat) (Z : Nat → Nat → Int) (w : World) (hs : R ≤ 140737488351232) (hm : Mat w a R A L C Z) (hr : isMat R L Z = false) :
    Calls Try.prog 25 #[.slice a R cap] w fun e w' => Fails w e w' := fBasic_fails _ w (readMatrix_false a cap R A L C Z w hs hm hr)
end Go.Proofs.Ytaglbnblfhfkeaa
