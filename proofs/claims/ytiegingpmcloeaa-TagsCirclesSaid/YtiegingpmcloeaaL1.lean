import Derived.Test.YtiegingpmcloeaaL0
namespace Go.Proofs.Ytiegingpmcloeaa
open Go.RowKit

/-- The contracts of the program's functions, with what must be kept. -/
theorem i_go_bad {W : World} {l : List (Nat × Value × Value)} {a : Option Addr} {n cap : Nat} {M : Nat → Q} (hn : n ≤ 1000) (x y m : Int) (h : (isM n M && decide ((0 ≤ x ∧ x ≤ 100) ∧ 0 ≤ y ∧ y ≤ 100)) = false) (w : World) (hM : Ords w a n M) (hI : Inv W l w) :
    Calls Try.prog 10 #[.slice a n cap, .agg #[.int .i64 x, .int .i64 y], .int .i64 m] w fun r w' => r = .returned (.tuple #[.int .i64 0, .agg #[.int .i64 0, .int .i64 0], .int .i64 0, .int .i64 2]) ∧ Inv W l w' :=
  (tgo_bad M n cap a x y m w hn h hM).mono fun _ _ ⟨h1, h2⟩ => ⟨h1, hI.call h2⟩
theorem i_go_off {W : World} {l : List (Nat × Value × Value)} {a : Option Addr} {n cap : Nat} {M : Nat → Q} (hn : n ≤ 1000) (x y m : Int) (h : (isM n M && decide ((0 ≤ x ∧ x ≤ 100) ∧ 0 ≤ y ∧ y ≤ 100)) = true) (hm : ¬ (0 ≤ m ∧ m ≤ 1000)) (w : World) (hM : Ords w a n M) (hI : Inv W l w) :
    Calls Try.prog 10 #[.slice a n cap, .agg #[.int .i64 x, .int .i64 y], .int .i64 m] w fun r w' => r = .returned (.tuple #[.int .i64 0, .agg #[.int .i64 0, .int .i64 0], .int .i64 0, .int .i64 2]) ∧ Inv W l w' :=
  (tgo_off M n cap a x y m w hn h hm hM).mono fun _ _ ⟨h1, h2⟩ => ⟨h1, hI.call h2⟩
theorem i_go {W : World} {l : List (Nat × Value × Value)} {a : Option Addr} {n cap : Nat} {N : Nat → QN} (hN : okN n N) (x y m : Nat) (hx : x ≤ 100) (hy : y ≤ 100) (hm : m ≤ 1000) (w : World) (hM : Ords w a n (fun k => (N k).z)) (hI : Inv W l w) :
    Calls Try.prog 10 #[.slice a n cap, .agg #[.int .i64 x, .int .i64 y], .int .i64 m] w fun r w' =>
      r = .returned (.tuple #[.int .i64 (pl N ⟨0, x, y⟩ m).o, .agg #[.int .i64 (pl N ⟨0, x, y⟩ m).x, .int .i64 (pl N ⟨0, x, y⟩ m).y], .int .i64 (dn N ⟨0, x, y⟩ m), .int .i64 0]) ∧ Inv W l w' :=
  (tgo_good N n cap a x y m w hN hx hy hm hM).mono fun _ _ ⟨h1, h2⟩ => ⟨h1, hI.call h2⟩
theorem i_ends_bad {W : World} {l : List (Nat × Value × Value)} {a : Option Addr} {n cap : Nat} {M : Nat → Q} (hn : n ≤ 1000) (x y : Int) (h : (isM n M && decide ((0 ≤ x ∧ x ≤ 100) ∧ 0 ≤ y ∧ y ≤ 100)) = false) (w : World) (hM : Ords w a n M) (hI : Inv W l w) :
    Calls Try.prog 16 #[.slice a n cap, .agg #[.int .i64 x, .int .i64 y]] w fun r w' => r = .returned (.tuple #[.int .i64 0, .int .i64 2]) ∧ Inv W l w' :=
  (ends_bad M n cap a x y w hn h hM).mono fun _ _ ⟨h1, h2⟩ => ⟨h1, hI.call h2⟩
theorem i_ends {W : World} {l : List (Nat × Value × Value)} {a : Option Addr} {n cap : Nat} {N : Nat → QN} (hN : okN n N) (x y : Nat) (hx : x ≤ 100) (hy : y ≤ 100) (w : World) (hM : Ords w a n (fun k => (N k).z)) (hI : Inv W l w) :
    Calls Try.prog 16 #[.slice a n cap, .agg #[.int .i64 x, .int .i64 y]] w fun r w' => r = .returned (.tuple #[.int .i64 (endsK N ⟨0, x, y⟩), .int .i64 (endsE N ⟨0, x, y⟩)]) ∧ Inv W l w' :=
  (ends_good N n cap a x y w hN hx hy hM).mono fun _ _ ⟨h1, h2⟩ => ⟨h1, hI.call h2⟩

set_option maxHeartbeats 4000000 in
set_option maxRecDepth 100000 in
theorem more_bad1 (W : World) (a : Option Addr) (n cap : Nat) (M : Nat → Q) (hn8 : n ≤ 140737488351232) (hM : Ords W a n M) (x y : Int) (j mo st : Int) (h : isM n M = false) :
    Calls Try.prog 7 #[.slice a n cap, .agg #[.int .i64 x, .int .i64 y], .int .i64 j, .int .i64 mo, .int .i64 st] W fun e W' => SomeB true W e W' := by
  have I0 : Hid (Inv W [(W.heap.size, .int .i64 x, .int .i64 y)] (W.alloc (.cells #[.int .i64 x, .int .i64 y] 23))) := (Inv.refl W).new _ _ _
  have H1 := Lib.hid (fun w hI => i_machine (l := [(W.heap.size, .int .i64 x, .int .i64 y)]) (cap := cap) hn8 hM false h w hI)
  have H3 := Lib.hid (fun w hI => i_of (l := [(W.heap.size, .int .i64 x, .int .i64 y)]) (cap := cap) hn8 hM w hI)
  have hr : (isM (min n 11) M && decide ((0 ≤ x ∧ x ≤ 100) ∧ 0 ≤ y ∧ y ≤ 100)) = false := by rw [isM_min]; simp [h]
  have H4 := Lib.hid (fun a' cap' w hO hI => i_ends_bad (W := W) (l := [(W.heap.size, .int .i64 x, .int .i64 y)]) (a := a') (cap := cap') (show min n 11 ≤ 1000 by omega) x y hr w hO hI)
  have H5 := Lib.hid (fun w hI => i_awake (W := W) (l := [(W.heap.size, .int .i64 x, .int .i64 y)]) w hI)
  clear hM hr h
  go_enter Try.func7, Try.ntmps7
  go_wp2_with fail
  refine (H1.out _ ?_).mono ?_
  · repeat' (first | exact I0.out | with_reducible refine Inv.alloc ?_ _)
  rintro r w1 ⟨rfl, hI⟩
  have I1 := Lib.hid hI
  clear hI
  have l0 := ((I1.out).at).lt
  obtain ⟨c0_0, c0_1, f0_0, f0_1⟩ := (I1.out).at
  go_wp2_with fail
  have J1 := Lib.hid (Inv.drew I1.out)
  go_region_held3 (fun w' => w'.cell? ⟨W.heap.size, 0, none⟩ = some (.int .i64 x) ∧ w'.cell? ⟨W.heap.size, 1, none⟩ = some (.int .i64 y))
    (first
        | (go_split_ands; exact HC3.out)
        | (go_split_ands; exact HC2.out)
        | go_keep)
    ((first
        | ((with_reducible refine (H3.out _ J1.out).mono ?_); rintro r w2 ⟨⟨a', cap', rfl, hO⟩, hI⟩; have HO := Lib.hid hO; clear hO; have I2 := Lib.hid hI; have HC2 := Lib.hid (And.intro ((I2.out).at.c0) ((I2.out).at.c1)); clear hI)
        | ((with_reducible refine (H4.out _ _ _ HO.out I2.out).mono ?_); rintro r w3 ⟨rfl, hI⟩; have I3 := Lib.hid hI; have HC3 := Lib.hid (And.intro ((I3.out).at.c0) ((I3.out).at.c1)); clear hI)))
  clear c0_0 c0_1 f0_0 f0_1 l0
  have l0 := ((I3.out).at).lt
  obtain ⟨c0_0, c0_1, f0_0, f0_1⟩ := (I3.out).at
  go_wp2_with fail
  refine (H5.out _ ?_).mono ?_
  · repeat' (first | exact I3.out | with_reducible refine Inv.alloc ?_ _)
  rintro r w4 ⟨rfl, hI⟩
  have I4 := Lib.hid hI
  clear hI
  clear c0_0 c0_1 f0_0 f0_1 l0
  have l0 := ((I4.out).at).lt
  obtain ⟨c0_0, c0_1, f0_0, f0_1⟩ := (I4.out).at
  go_wp2
  go_ret
  exact ⟨rfl, I4.out.1⟩

set_option maxHeartbeats 4000000 in
set_option maxRecDepth 100000 in
theorem more_bad2 (W : World) (a : Option Addr) (n cap : Nat) (M : Nat → Q) (hn8 : n ≤ 140737488351232) (hM : Ords W a n M) (x y : Int) (j mo st : Int) (h : isM n M = true) (h2 : jB x y = false) :
    Calls Try.prog 7 #[.slice a n cap, .agg #[.int .i64 x, .int .i64 y], .int .i64 j, .int .i64 mo, .int .i64 st] W fun e W' => SomeB true W e W' := by
  have I0 : Hid (Inv W [(W.heap.size, .int .i64 x, .int .i64 y)] (W.alloc (.cells #[.int .i64 x, .int .i64 y] 23))) := (Inv.refl W).new _ _ _
  have H1 := Lib.hid (fun w hI => i_machine (l := [(W.heap.size, .int .i64 x, .int .i64 y)]) (cap := cap) hn8 hM true h w hI)
  have H2 := Lib.hid (fun w hI => i_jars (W := W) (l := [(W.heap.size, .int .i64 x, .int .i64 y)]) x y false h2 w hI)
  have H3 := Lib.hid (fun w hI => i_of (l := [(W.heap.size, .int .i64 x, .int .i64 y)]) (cap := cap) hn8 hM w hI)
  have hr : (isM (min n 11) M && decide ((0 ≤ x ∧ x ≤ 100) ∧ 0 ≤ y ∧ y ≤ 100)) = false := by rw [isM_min]; unfold jB at h2; simp [h]; simpa using h2
  have H4 := Lib.hid (fun a' cap' w hO hI => i_ends_bad (W := W) (l := [(W.heap.size, .int .i64 x, .int .i64 y)]) (a := a') (cap := cap') (show min n 11 ≤ 1000 by omega) x y hr w hO hI)
  have H5 := Lib.hid (fun w hI => i_awake (W := W) (l := [(W.heap.size, .int .i64 x, .int .i64 y)]) w hI)
  clear hM hr h h2
  go_enter Try.func7, Try.ntmps7
  go_wp2_with fail
  refine (H1.out _ ?_).mono ?_
  · repeat' (first | exact I0.out | with_reducible refine Inv.alloc ?_ _)
  rintro r w1 ⟨rfl, hI⟩
  have I1 := Lib.hid hI
  clear hI
  have l0 := ((I1.out).at).lt
  obtain ⟨c0_0, c0_1, f0_0, f0_1⟩ := (I1.out).at
  go_wp2_with fail
  refine (H2.out _ ?_).mono ?_
  · repeat' (first | exact I1.out | with_reducible refine Inv.alloc ?_ _)
  rintro r w2 ⟨rfl, hI⟩
  have I2 := Lib.hid hI
  clear hI
  clear c0_0 c0_1 f0_0 f0_1 l0
  have l0 := ((I2.out).at).lt
  obtain ⟨c0_0, c0_1, f0_0, f0_1⟩ := (I2.out).at
  go_wp2_with fail
  have J2 := Lib.hid (Inv.drew I2.out)
  go_region_held3 (fun w' => w'.cell? ⟨W.heap.size, 0, none⟩ = some (.int .i64 x) ∧ w'.cell? ⟨W.heap.size, 1, none⟩ = some (.int .i64 y))
    (first
        | (go_split_ands; exact HC4.out)
        | (go_split_ands; exact HC3.out)
        | go_keep)
    ((first
        | ((with_reducible refine (H3.out _ J2.out).mono ?_); rintro r w3 ⟨⟨a', cap', rfl, hO⟩, hI⟩; have HO := Lib.hid hO; clear hO; have I3 := Lib.hid hI; have HC3 := Lib.hid (And.intro ((I3.out).at.c0) ((I3.out).at.c1)); clear hI)
        | ((with_reducible refine (H4.out _ _ _ HO.out I3.out).mono ?_); rintro r w4 ⟨rfl, hI⟩; have I4 := Lib.hid hI; have HC4 := Lib.hid (And.intro ((I4.out).at.c0) ((I4.out).at.c1)); clear hI)))
  clear c0_0 c0_1 f0_0 f0_1 l0
  have l0 := ((I4.out).at).lt
  obtain ⟨c0_0, c0_1, f0_0, f0_1⟩ := (I4.out).at
  go_wp2_with fail
  refine (H5.out _ ?_).mono ?_
  · repeat' (first | exact I4.out | with_reducible refine Inv.alloc ?_ _)
  rintro r w5 ⟨rfl, hI⟩
  have I5 := Lib.hid hI
  clear hI
  clear c0_0 c0_1 f0_0 f0_1 l0
  have l0 := ((I5.out).at).lt
  obtain ⟨c0_0, c0_1, f0_0, f0_1⟩ := (I5.out).at
  go_wp2
  go_ret
  exact ⟨rfl, I5.out.1⟩


end Go.Proofs.Ytiegingpmcloeaa
