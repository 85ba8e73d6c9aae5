import Derived.Test.YtkbbijhknbcflabR4
import Derived.Test.YtkbbijhknbcflabG6
/-
  The document's Is.
-/
namespace Go.Proofs.Ytkbbijhknbcflab
open Go.RowKit Go.Shelf

set_option maxHeartbeats 4000000 in
set_option maxRecDepth 100000 in
theorem ris_any (r : Bool) (l : List UInt8) (w : World) (hl : l.length ≤ 140737488355328 * 65536) (hr : isB l ↔ r = true) : Calls Try.prog 8 #[.string (st l)] w fun e w' => SomeB r w e w' := by
  have hs : (st l).size = l.length := st_size l
  by_cases h40 : l.length ≤ 40
  · have H0 := rc_all l.length l 0 0 w (by omega) (Nat.zero_le _) (by omega) (by decide)
    have HR := Lib.hid hr
    have HL : Hid ((st l).size = l.length) := hs
    have h1 : (st l).size ≤ 40 := by omega
    generalize st l = L at *
    have H1 : Hid (Calls Try.prog 17 #[.string L, .int .i64 0, .int .i64 0] w fun e w' => RdOut l 0 0 w e w') := H0
    clear hr hs H0 h40
    go_enter Try.func8, Try.ntmps8
    go_wp2_with fail
    refine H1.out.mono ?_
    rintro e w1 ⟨z, d, rfl, hb, ⟨_, _⟩, hz⟩
    have HB := Lib.hid hb
    rcases hz with ⟨F, z', hA, rfl, rfl⟩ | ⟨rfl, hno⟩
    · have hA' := hA
      rw [bm_zero] at hA'
      by_cases he : z' = l.length
      · obtain rfl : r = true := HR.out.1 ⟨by have := HL.out; omega, F, isF_iff.2 (by rw [← he]; exact hA')⟩
        have hzz : ((z' : Nat) : Int) = (L.size : Int) := by have := HL.out; omega
        clear hA hA' he hb
        go_wp2
        go_ret
        exact ⟨rfl, HB.out⟩
      · obtain rfl : r = false := by
          cases hrr : r
          · rfl
          · obtain ⟨_, G, hG⟩ := HR.out.2 hrr
            exact absurd (hA'.uniq (isF_iff.1 hG)).2 he
        have hzz : (((z' : Nat) : Int) == (L.size : Int)) = false := by have := HL.out; rw [beq_eq_false_iff_ne]; omega
        clear hA hA' he hb
        go_wp2
        go_ret
        exact ⟨rfl, HB.out⟩
    · obtain rfl : r = false := by
        cases hrr : r
        · rfl
        · obtain ⟨_, G, hG⟩ := HR.out.2 hrr
          have := isF_iff.1 hG
          rw [← bm_zero] at this
          exact absurd this (hno _ _)
      have hzz : ((-1 : Int) == (L.size : Int)) = false := by rw [beq_eq_false_iff_ne]; omega
      clear hno hb
      go_wp2
      go_ret
      exact ⟨rfl, HB.out⟩
  · obtain rfl : r = false := by
      cases hrr : r
      · rfl
      · exact absurd (hr.2 hrr).1 h40
    have h1 : 40 < (st l).size := by omega
    have h2 : (st l).size ≤ 140737488355328 * 65536 := by omega
    generalize st l = L at *
    clear hr hs hl h40
    go_enter Try.func8, Try.ntmps8
    go_wp2
    go_ret
    exact ⟨rfl, Below.refl _ _⟩
end Go.Proofs.Ytkbbijhknbcflab
