import Derived.Test.YtlmjddlpenmpkaaG3
import Derived.Test.YtlmjddlpenmpkaaL3
namespace Go.Proofs.Ytlmjddlpenmpkaa
open Go.RowKit Go.Shelf

theorem mgB_cut (n : Nat) (z : Nat → Int) (x y : Int) : mgB (min n 8) z x y = mgB n z x y := by
  by_cases h : n ≤ 8
  · rw [show min n 8 = n by omega]
  · have h1 : ∀ m : Nat, 6 < m → mgB m z x y = false := fun m hm => mgB_no (fun g => by have := isW_iff.1 g.1; omega)
    rw [h1 _ (by omega), h1 _ (by omega)]

set_option maxHeartbeats 2000000 in
set_option maxRecDepth 100000 in
theorem merge_bad (a : Option Addr) (n cap : Nat) (z : Nat → Int) (x y : Int) (w : World) (h : mgB n z x y = false) (hcap : n ≤ cap) (h8 : n * 8 ≤ 140737488355328) (hz : Ints w a n z) :
    Calls Try.prog 9 #[.slice a n cap, .int .i64 x, .int .i64 y] w fun e w' => SomeB true w e w' := by
  have H2 : mgB (min n 8) z x y = false := by rw [mgB_cut]; exact h
  have HL := Lib.hid (list_any a cap n z w hcap h8 hz)
  have HD := Lib.hid (fun a1 c1 W (hI : Ints W a1 (min n 8) z) => fMerge_bad a1 (min n 8) c1 z x y W H2 (by have := Nat.min_le_right n 8; omega) hI)
  have hm := fun W (hW : Below w.heap.size w W) => rmerged_any a n cap z x y W (by omega) (hz.keep (Nat.le_refl _) hW)
  rw [h] at hm
  have HR := Lib.hid hm
  clear hz h H2 hm
  go_enter Try.func9, Try.ntmps9
  go_wp2_with fail
  refine HL.out.mono ?_
  rintro e w1 ⟨a1, c1, rfl, hO, hb⟩
  have HI1 := Lib.hid hO.ints
  have HB1 := Lib.hid hb
  clear hO hb
  go_wp2_with fail
  refine (HD.out a1 c1 w1 HI1.out).mono ?_
  rintro e w2 ⟨rfl, hb⟩
  have HB2 := Lib.hid (band HB1.out hb)
  clear hb
  go_wp2_with fail
  refine (HR.out w2 HB2.out).mono ?_
  rintro e w3 ⟨rfl, hb⟩
  have HB3 := Lib.hid (band HB2.out hb)
  clear hb
  go_wp2_with fail
  refine (awake_any _).mono ?_
  rintro e w4 ⟨rfl, hb⟩
  have HB4 := Lib.hid (band HB3.out hb)
  clear hb
  go_wp2
  go_ret
  exact ⟨rfl, HB4.out⟩

set_option maxHeartbeats 2000000 in
set_option maxRecDepth 100000 in
theorem merge_good (a : Option Addr) (n cap : Nat) (z : Nat → Int) (i j : Nat) (w : World) (h : mgB n z i j = true) (hcap : n ≤ cap) (h8 : n * 8 ≤ 140737488355328) (hz : Ints w a n z) :
    Calls Try.prog 9 #[.slice a n cap, .int .i64 i, .int .i64 j] w fun e w' => SomeB true w e w' := by
  have hn6 := (isW_iff.1 (mgB_iff.1 h).1).2.1
  have hmn : min n 8 = n := by omega
  have hl := list_any a cap n z w hcap h8 hz
  rw [hmn] at hl
  have HL := Lib.hid hl
  have HD := Lib.hid (fun a1 c1 W (hI : Ints W a1 n z) => fMerge_good a1 n c1 z i j W h (by omega) hI)
  have hm := fun W (hW : Below w.heap.size w W) => rmerged_any a n cap z i j W (by omega) (hz.keep (Nat.le_refl _) hW)
  rw [h] at hm
  have HR := Lib.hid hm
  have HG := Lib.hid (fun W (hW : Below w.heap.size w W) => rmerge_any a n cap z i j W h (hz.keep (Nat.le_refl _) hW))
  clear hz h hm hl hmn
  go_enter Try.func9, Try.ntmps9
  go_wp2_with fail
  refine HL.out.mono ?_
  rintro e w1 ⟨a1, c1, rfl, hO, hb⟩
  have HI1 := Lib.hid hO.ints
  have HB1 := Lib.hid hb
  clear hO hb
  go_wp2_with fail
  refine (HD.out a1 c1 w1 HI1.out).mono ?_
  rintro e w2 ⟨a2, c2, rfl, hI2, hb⟩
  have HB2 := Lib.hid (band HB1.out hb)
  have HI2 := Lib.hid hI2
  clear hb hI2
  go_wp2_with fail
  refine (HR.out w2 HB2.out).mono ?_
  rintro e w3 ⟨rfl, hb⟩
  have HB3 := Lib.hid (band HB2.out hb)
  have HI3 := Lib.hid (HI2.out.keep (Nat.le_refl _) hb)
  clear hb
  go_wp2_with fail
  refine (HG.out w3 HB3.out).mono ?_
  rintro e w4 ⟨a4, c4, rfl, hI4, hb⟩
  have HB4 := Lib.hid (band HB3.out hb)
  have he := equal_any a2 a4 c2 c4 (n - 1) (n - 1) (mgZ z i j) (mgZ z i j) w4 (by omega) (by omega) (HI3.out.keep (Nat.le_refl _) hb) hI4
  rw [show eqN (n - 1) (n - 1) (mgZ z i j) (mgZ z i j) = true from eqN_iff.2 ⟨rfl, fun _ _ => rfl⟩] at he
  have HE := Lib.hid he
  clear hb hI4 he
  go_wp2_with fail
  refine HE.out.mono ?_
  rintro e w' ⟨rfl, q, rfl⟩
  go_wp2_with fail
  refine (awake_any _).mono ?_
  rintro e w6 ⟨rfl, hb⟩
  have HB6 := Lib.hid (band (below_drewN HB4.out _) hb)
  clear hb
  go_wp2
  go_ret
  exact ⟨rfl, HB6.out⟩

theorem merge_row (w : World) (a : Option Addr) (n cap : Nat) (z : Nat → Int) (hcap : n ≤ cap) (h8 : n * 8 ≤ 140737488355328) (hz : Ints w a n z) (x : Int) (_ : -9223372036854775808 ≤ x ∧ x ≤ 9223372036854775807) (y : Int) (_ : -9223372036854775808 ≤ y ∧ y ≤ 9223372036854775807) :
    Calls Try.prog 9 #[.slice a n cap, .int .i64 x, .int .i64 y] w fun e w' => SomeB true w e w' := by
  cases h : mgB n z x y
  · exact merge_bad a n cap z x y w h hcap h8 hz
  · have h2 := mgB_iff.1 h
    obtain ⟨i, rfl⟩ : ∃ i : Nat, x = i := ⟨x.toNat, by omega⟩
    obtain ⟨j, rfl⟩ : ∃ j : Nat, y = j := ⟨y.toNat, by omega⟩
    exact merge_good a n cap z i j w h hcap h8 hz
end Go.Proofs.Ytlmjddlpenmpkaa
