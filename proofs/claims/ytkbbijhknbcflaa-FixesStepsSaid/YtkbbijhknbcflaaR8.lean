import Derived.Test.YtkbbijhknbcflaaR7
import Derived.Test.YtkbbijhknbcflaaG6
/-
  Where the document says that any formula holds; its Is, Holds and Steps.
-/
namespace Go.Proofs.Ytkbbijhknbcflaa
open Go.RowKit Go.Shelf

set_option maxHeartbeats 4000000 in
set_option maxRecDepth 100000 in
theorem hr_m0 (F : Fm) (ih : HR F) : HR (.fix false 0 F) := by
  intro m l a z e aN n cN aM cM nx mk W hl hA hk hE
  obtain ⟨ha, hx⟩ := at_head hA (x := 109) (t := 120 :: str F) rfl
  obtain ⟨k, hkn, hF⟩ := (den_step (nx := nx) (mk := mk) F 0 hE).first false
  have HO : Hid (iter (fun X => den n nx mk F (upd e 0 X)) (beg false n) k = den n nx mk (.fix false 0 F) e) := (hF.stay hkn).symm
  have H1 := Lib.hid (fun w (hb : Below W.heap.size W w) => rf_m0 F ih m l a z e aN n cN aM cM nx mk k w hl hA (hk.keep (Nat.le_refl _) hb) hE hkn hF)
  have h6 := hk.n6
  have HB := Lib.hid (below_two W (.cells #[.slice aN n cN, .slice aM n cM] 24) (.cells #[.int .i64 (e 0 : Nat), .int .i64 (e 1 : Nat), .int .i64 (e 2 : Nat)] 55))
  have hs : (st l).size = l.length := st_size l
  have hg : ∀ h : a < (st l).size, (st l)[a] = 109 := fun h => hx
  have hsz : (st l).size ≤ 5000 := by omega
  have has : a < (st l).size := by omega
  generalize st l = L at *
  have hg' := hg has
  have HI0 := Lib.hid (HInv.start (aN := aN) (n := n) (cN := cN) (aM := aM) (cM := cM) (e := e) (W := W))
  generalize iter (fun X => den n nx mk F (upd e 0 X)) (beg false n) k = Z at *
  clear hx hs hl hA hk hE ih hF hkn
  obtain ⟨q0, q1, q2, q3, q4⟩ := HI0.out.cells
  go_enter Try.func39, Try.ntmps39
  go_wp2_with (first | (go_at_call 42; refine (H1.out _ HI0.out.bel).mono ?_) | go_in)
  rintro r w1 ⟨rfl, hb⟩
  have HI1 := Lib.hid (HI0.out.keep hb)
  clear hb q0 q1 q2 q3 q4
  go_wp2
  exact bodyPost_ret (v := .tuple #[.int .i64 (Z : Int), .int .i64 (z : Nat)]) (by simp [results, Try.results39, go_sem]) rfl ⟨by rw [HO.out], HI1.out.bel⟩

set_option maxHeartbeats 4000000 in
set_option maxRecDepth 100000 in
theorem hr_m1 (F : Fm) (ih : HR F) : HR (.fix false 1 F) := by
  intro m l a z e aN n cN aM cM nx mk W hl hA hk hE
  obtain ⟨ha, hx⟩ := at_head hA (x := 109) (t := 121 :: str F) rfl
  obtain ⟨k, hkn, hF⟩ := (den_step (nx := nx) (mk := mk) F 1 hE).first false
  have HO : Hid (iter (fun X => den n nx mk F (upd e 1 X)) (beg false n) k = den n nx mk (.fix false 1 F) e) := (hF.stay hkn).symm
  have H1 := Lib.hid (fun w (hb : Below W.heap.size W w) => rf_m1 F ih m l a z e aN n cN aM cM nx mk k w hl hA (hk.keep (Nat.le_refl _) hb) hE hkn hF)
  have h6 := hk.n6
  have HB := Lib.hid (below_two W (.cells #[.slice aN n cN, .slice aM n cM] 24) (.cells #[.int .i64 (e 0 : Nat), .int .i64 (e 1 : Nat), .int .i64 (e 2 : Nat)] 55))
  have hs : (st l).size = l.length := st_size l
  have hg : ∀ h : a < (st l).size, (st l)[a] = 109 := fun h => hx
  have hsz : (st l).size ≤ 5000 := by omega
  have has : a < (st l).size := by omega
  generalize st l = L at *
  have hg' := hg has
  have HI0 := Lib.hid (HInv.start (aN := aN) (n := n) (cN := cN) (aM := aM) (cM := cM) (e := e) (W := W))
  generalize iter (fun X => den n nx mk F (upd e 1 X)) (beg false n) k = Z at *
  clear hx hs hl hA hk hE ih hF hkn
  obtain ⟨q0, q1, q2, q3, q4⟩ := HI0.out.cells
  go_enter Try.func39, Try.ntmps39
  go_wp2_with (first | (go_at_call 42; refine (H1.out _ HI0.out.bel).mono ?_) | go_in)
  rintro r w1 ⟨rfl, hb⟩
  have HI1 := Lib.hid (HI0.out.keep hb)
  clear hb q0 q1 q2 q3 q4
  go_wp2
  exact bodyPost_ret (v := .tuple #[.int .i64 (Z : Int), .int .i64 (z : Nat)]) (by simp [results, Try.results39, go_sem]) rfl ⟨by rw [HO.out], HI1.out.bel⟩

set_option maxHeartbeats 4000000 in
set_option maxRecDepth 100000 in
theorem hr_m2 (F : Fm) (ih : HR F) : HR (.fix false 2 F) := by
  intro m l a z e aN n cN aM cM nx mk W hl hA hk hE
  obtain ⟨ha, hx⟩ := at_head hA (x := 109) (t := 122 :: str F) rfl
  obtain ⟨k, hkn, hF⟩ := (den_step (nx := nx) (mk := mk) F 2 hE).first false
  have HO : Hid (iter (fun X => den n nx mk F (upd e 2 X)) (beg false n) k = den n nx mk (.fix false 2 F) e) := (hF.stay hkn).symm
  have H1 := Lib.hid (fun w (hb : Below W.heap.size W w) => rf_m2 F ih m l a z e aN n cN aM cM nx mk k w hl hA (hk.keep (Nat.le_refl _) hb) hE hkn hF)
  have h6 := hk.n6
  have HB := Lib.hid (below_two W (.cells #[.slice aN n cN, .slice aM n cM] 24) (.cells #[.int .i64 (e 0 : Nat), .int .i64 (e 1 : Nat), .int .i64 (e 2 : Nat)] 55))
  have hs : (st l).size = l.length := st_size l
  have hg : ∀ h : a < (st l).size, (st l)[a] = 109 := fun h => hx
  have hsz : (st l).size ≤ 5000 := by omega
  have has : a < (st l).size := by omega
  generalize st l = L at *
  have hg' := hg has
  have HI0 := Lib.hid (HInv.start (aN := aN) (n := n) (cN := cN) (aM := aM) (cM := cM) (e := e) (W := W))
  generalize iter (fun X => den n nx mk F (upd e 2 X)) (beg false n) k = Z at *
  clear hx hs hl hA hk hE ih hF hkn
  obtain ⟨q0, q1, q2, q3, q4⟩ := HI0.out.cells
  go_enter Try.func39, Try.ntmps39
  go_wp2_with (first | (go_at_call 42; refine (H1.out _ HI0.out.bel).mono ?_) | go_in)
  rintro r w1 ⟨rfl, hb⟩
  have HI1 := Lib.hid (HI0.out.keep hb)
  clear hb q0 q1 q2 q3 q4
  go_wp2
  exact bodyPost_ret (v := .tuple #[.int .i64 (Z : Int), .int .i64 (z : Nat)]) (by simp [results, Try.results39, go_sem]) rfl ⟨by rw [HO.out], HI1.out.bel⟩

set_option maxHeartbeats 4000000 in
set_option maxRecDepth 100000 in
theorem hr_g0 (F : Fm) (ih : HR F) : HR (.fix true 0 F) := by
  intro m l a z e aN n cN aM cM nx mk W hl hA hk hE
  obtain ⟨ha, hx⟩ := at_head hA (x := 103) (t := 120 :: str F) rfl
  obtain ⟨k, hkn, hF⟩ := (den_step (nx := nx) (mk := mk) F 0 hE).first true
  have HO : Hid (iter (fun X => den n nx mk F (upd e 0 X)) (beg true n) k = den n nx mk (.fix true 0 F) e) := (hF.stay hkn).symm
  have H1 := Lib.hid (fun w (hb : Below W.heap.size W w) => rf_g0 F ih m l a z e aN n cN aM cM nx mk k w hl hA (hk.keep (Nat.le_refl _) hb) hE hkn hF)
  have h6 := hk.n6
  have HB := Lib.hid (below_two W (.cells #[.slice aN n cN, .slice aM n cM] 24) (.cells #[.int .i64 (e 0 : Nat), .int .i64 (e 1 : Nat), .int .i64 (e 2 : Nat)] 55))
  have hs : (st l).size = l.length := st_size l
  have hg : ∀ h : a < (st l).size, (st l)[a] = 103 := fun h => hx
  have hsz : (st l).size ≤ 5000 := by omega
  have has : a < (st l).size := by omega
  generalize st l = L at *
  have hg' := hg has
  have HI0 := Lib.hid (HInv.start (aN := aN) (n := n) (cN := cN) (aM := aM) (cM := cM) (e := e) (W := W))
  generalize iter (fun X => den n nx mk F (upd e 0 X)) (beg true n) k = Z at *
  clear hx hs hl hA hk hE ih hF hkn
  obtain ⟨q0, q1, q2, q3, q4⟩ := HI0.out.cells
  go_enter Try.func39, Try.ntmps39
  go_wp2_with (first | (go_at_call 42; refine (H1.out _ HI0.out.bel).mono ?_) | go_in)
  rintro r w1 ⟨rfl, hb⟩
  have HI1 := Lib.hid (HI0.out.keep hb)
  clear hb q0 q1 q2 q3 q4
  go_wp2
  exact bodyPost_ret (v := .tuple #[.int .i64 (Z : Int), .int .i64 (z : Nat)]) (by simp [results, Try.results39, go_sem]) rfl ⟨by rw [HO.out], HI1.out.bel⟩

set_option maxHeartbeats 4000000 in
set_option maxRecDepth 100000 in
theorem hr_g1 (F : Fm) (ih : HR F) : HR (.fix true 1 F) := by
  intro m l a z e aN n cN aM cM nx mk W hl hA hk hE
  obtain ⟨ha, hx⟩ := at_head hA (x := 103) (t := 121 :: str F) rfl
  obtain ⟨k, hkn, hF⟩ := (den_step (nx := nx) (mk := mk) F 1 hE).first true
  have HO : Hid (iter (fun X => den n nx mk F (upd e 1 X)) (beg true n) k = den n nx mk (.fix true 1 F) e) := (hF.stay hkn).symm
  have H1 := Lib.hid (fun w (hb : Below W.heap.size W w) => rf_g1 F ih m l a z e aN n cN aM cM nx mk k w hl hA (hk.keep (Nat.le_refl _) hb) hE hkn hF)
  have h6 := hk.n6
  have HB := Lib.hid (below_two W (.cells #[.slice aN n cN, .slice aM n cM] 24) (.cells #[.int .i64 (e 0 : Nat), .int .i64 (e 1 : Nat), .int .i64 (e 2 : Nat)] 55))
  have hs : (st l).size = l.length := st_size l
  have hg : ∀ h : a < (st l).size, (st l)[a] = 103 := fun h => hx
  have hsz : (st l).size ≤ 5000 := by omega
  have has : a < (st l).size := by omega
  generalize st l = L at *
  have hg' := hg has
  have HI0 := Lib.hid (HInv.start (aN := aN) (n := n) (cN := cN) (aM := aM) (cM := cM) (e := e) (W := W))
  generalize iter (fun X => den n nx mk F (upd e 1 X)) (beg true n) k = Z at *
  clear hx hs hl hA hk hE ih hF hkn
  obtain ⟨q0, q1, q2, q3, q4⟩ := HI0.out.cells
  go_enter Try.func39, Try.ntmps39
  go_wp2_with (first | (go_at_call 42; refine (H1.out _ HI0.out.bel).mono ?_) | go_in)
  rintro r w1 ⟨rfl, hb⟩
  have HI1 := Lib.hid (HI0.out.keep hb)
  clear hb q0 q1 q2 q3 q4
  go_wp2
  exact bodyPost_ret (v := .tuple #[.int .i64 (Z : Int), .int .i64 (z : Nat)]) (by simp [results, Try.results39, go_sem]) rfl ⟨by rw [HO.out], HI1.out.bel⟩

set_option maxHeartbeats 4000000 in
set_option maxRecDepth 100000 in
theorem hr_g2 (F : Fm) (ih : HR F) : HR (.fix true 2 F) := by
  intro m l a z e aN n cN aM cM nx mk W hl hA hk hE
  obtain ⟨ha, hx⟩ := at_head hA (x := 103) (t := 122 :: str F) rfl
  obtain ⟨k, hkn, hF⟩ := (den_step (nx := nx) (mk := mk) F 2 hE).first true
  have HO : Hid (iter (fun X => den n nx mk F (upd e 2 X)) (beg true n) k = den n nx mk (.fix true 2 F) e) := (hF.stay hkn).symm
  have H1 := Lib.hid (fun w (hb : Below W.heap.size W w) => rf_g2 F ih m l a z e aN n cN aM cM nx mk k w hl hA (hk.keep (Nat.le_refl _) hb) hE hkn hF)
  have h6 := hk.n6
  have HB := Lib.hid (below_two W (.cells #[.slice aN n cN, .slice aM n cM] 24) (.cells #[.int .i64 (e 0 : Nat), .int .i64 (e 1 : Nat), .int .i64 (e 2 : Nat)] 55))
  have hs : (st l).size = l.length := st_size l
  have hg : ∀ h : a < (st l).size, (st l)[a] = 103 := fun h => hx
  have hsz : (st l).size ≤ 5000 := by omega
  have has : a < (st l).size := by omega
  generalize st l = L at *
  have hg' := hg has
  have HI0 := Lib.hid (HInv.start (aN := aN) (n := n) (cN := cN) (aM := aM) (cM := cM) (e := e) (W := W))
  generalize iter (fun X => den n nx mk F (upd e 2 X)) (beg true n) k = Z at *
  clear hx hs hl hA hk hE ih hF hkn
  obtain ⟨q0, q1, q2, q3, q4⟩ := HI0.out.cells
  go_enter Try.func39, Try.ntmps39
  go_wp2_with (first | (go_at_call 42; refine (H1.out _ HI0.out.bel).mono ?_) | go_in)
  rintro r w1 ⟨rfl, hb⟩
  have HI1 := Lib.hid (HI0.out.keep hb)
  clear hb q0 q1 q2 q3 q4
  go_wp2
  exact bodyPost_ret (v := .tuple #[.int .i64 (Z : Int), .int .i64 (z : Nat)]) (by simp [results, Try.results39, go_sem]) rfl ⟨by rw [HO.out], HI1.out.bel⟩

theorem hr_all : ∀ F : Fm, (∃ m, wf m F) → HR F := by
  intro F
  induction F with
  | mark k =>
    rintro ⟨m, h⟩
    have hk : k < 4 := h
    rcases cases4 hk with rfl | rfl | rfl | rfl
    · exact hr_d0
    · exact hr_d1
    · exact hr_d2
    · exact hr_d3
  | unm k =>
    rintro ⟨m, h⟩
    have hk : k < 4 := h
    rcases cases4 hk with rfl | rfl | rfl | rfl
    · exact hr_u0
    · exact hr_u1
    · exact hr_u2
    · exact hr_u3
  | tt => intro _; exact hr_tt
  | ff => intro _; exact hr_ff
  | two a l r ih1 ih2 =>
    rintro ⟨m, h⟩
    cases a
    · exact hr_or l r (ih1 ⟨m, h.1⟩) (ih2 ⟨m, h.2⟩)
    · exact hr_and l r (ih1 ⟨m, h.1⟩) (ih2 ⟨m, h.2⟩)
  | ahead d l ih =>
    rintro ⟨m, h⟩
    cases d
    · exact hr_box l (ih ⟨m, h⟩)
    · exact hr_dia l (ih ⟨m, h⟩)
  | var c =>
    rintro ⟨m, h⟩
    rcases cases3 h.1 with rfl | rfl | rfl
    · exact hr_v0
    · exact hr_v1
    · exact hr_v2
  | fix g c l ih =>
    rintro ⟨m, h⟩
    have ih' := ih ⟨_, h.2⟩
    cases g
    · rcases cases3 h.1.1 with rfl | rfl | rfl
      · exact hr_m0 l ih'
      · exact hr_m1 l ih'
      · exact hr_m2 l ih'
    · rcases cases3 h.1.1 with rfl | rfl | rfl
      · exact hr_g0 l ih'
      · exact hr_g1 l ih'
      · exact hr_g2 l ih'

set_option maxHeartbeats 4000000 in
set_option maxRecDepth 100000 in
theorem rholds_any (l : List UInt8) (F : Fm) (hF : isF (fun _ => false) l F) (hl : l.length ≤ 5000) (aN : Option Addr) (n cN : Nat) (aM : Option Addr) (cM : Nat) (nx mk : Nat → Nat) (w : World) (hk : Wk w aN n aM nx mk) :
    Calls Try.prog 22 #[wkV aN n cN aM n cM, .string (st l)] w fun e w' => e = .returned (.int .i64 (holds n nx mk F : Nat)) ∧ Below w.heap.size w w' := by
  have H0 := hr_all F ⟨_, hF.2⟩ (fun _ => false) l 0 l.length (fun _ => 0) aN n cN aM cM nx mk
  have H1 : Hid (∀ w', Below w.heap.size w w' → Calls Try.prog 39 #[wkV aN n cN aM n cM, .string (st l), .int .i64 0, .agg #[.int .i64 0, .int .i64 0, .int .i64 0]] w' fun r w'' => r = .returned (.tuple #[.int .i64 (holds n nx mk F : Nat), .int .i64 (l.length : Nat)]) ∧ Below w'.heap.size w' w'') :=
    fun w' hb => H0 w' hl (isF_iff.1 hF) (hk.keep (Nat.le_refl _) hb) (EnvOk.zero n)
  generalize st l = L at *
  generalize holds n nx mk F = Z at *
  clear hF hl hk H0
  go_enter Try.func22, Try.ntmps22
  go_wp2_with fail
  refine (H1.out _ (below_one _ _)).mono ?_
  rintro r w1 ⟨rfl, hb⟩
  have HB1 := Lib.hid (band (below_one _ _) hb)
  clear hb
  go_wp2
  go_ret
  exact ⟨rfl, HB1.out⟩

set_option maxHeartbeats 4000000 in
set_option maxRecDepth 100000 in
theorem ris_any (r : Bool) (l : List UInt8) (w : World) (hl : l.length ≤ 140737488355328 * 65536) (hr : isB l ↔ r = true) : Calls Try.prog 18 #[.string (st l)] w fun e w' => SomeB r w e w' := by
  have hs : (st l).size = l.length := st_size l
  by_cases h40 : l.length ≤ 40
  · have H0 := rc_all l.length l 0 0 w (by omega) (Nat.zero_le _) (by omega) (by decide)
    have HR := Lib.hid hr
    have HL : Hid ((st l).size = l.length) := hs
    have h1 : (st l).size ≤ 40 := by omega
    generalize st l = L at *
    have H1 : Hid (Calls Try.prog 34 #[.string L, .int .i64 0, .int .i64 0] w fun e w' => RdOut l 0 0 w e w') := H0
    clear hr hs H0 h40
    go_enter Try.func18, Try.ntmps18
    go_wp2_with fail
    refine H1.out.mono ?_
    rintro e w1 ⟨z, d, rfl, hb, ⟨_, _⟩, hz⟩
    have HB := Lib.hid hb
    rcases hz with ⟨F, z', hA, rfl, rfl⟩ | ⟨rfl, hno⟩
    · have hA' := hA
      rw [bm_zero] at hA'
      by_cases he : z' = l.length
      · obtain rfl : r = true := HR.out.1 ⟨by have := HL.out; omega, F, isF_iff.2 (by rw [← he]; exact hA')⟩
        have hzz : ((z' : Nat) : Int) = (L.size : Int) := by have := HL.out; omega
        clear hA hA' he hb
        go_wp2
        go_ret
        exact ⟨rfl, HB.out⟩
      · obtain rfl : r = false := by
          cases hrr : r
          · rfl
          · obtain ⟨_, G, hG⟩ := HR.out.2 hrr
            exact absurd (hA'.uniq (isF_iff.1 hG)).2 he
        have hzz : (((z' : Nat) : Int) == (L.size : Int)) = false := by have := HL.out; rw [beq_eq_false_iff_ne]; omega
        clear hA hA' he hb
        go_wp2
        go_ret
        exact ⟨rfl, HB.out⟩
    · obtain rfl : r = false := by
        cases hrr : r
        · rfl
        · obtain ⟨_, G, hG⟩ := HR.out.2 hrr
          have := isF_iff.1 hG
          rw [← bm_zero] at this
          exact absurd this (hno _ _)
      have hzz : ((-1 : Int) == (L.size : Int)) = false := by rw [beq_eq_false_iff_ne]; omega
      clear hno hb
      go_wp2
      go_ret
      exact ⟨rfl, HB.out⟩
  · obtain rfl : r = false := by
      cases hrr : r
      · rfl
      · exact absurd (hr.2 hrr).1 h40
    have h1 : 40 < (st l).size := by omega
    have h2 : (st l).size ≤ 140737488355328 * 65536 := by omega
    generalize st l = L at *
    clear hr hs hl h40
    go_enter Try.func18, Try.ntmps18
    go_wp2
    go_ret
    exact ⟨rfl, Below.refl _ _⟩
end Go.Proofs.Ytkbbijhknbcflaa
