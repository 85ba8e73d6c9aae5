import Derived.Test.YtmbccdjoliegiaaC4
namespace Go.Proofs.Ytmbccdjoliegiaa
open Go.RowKit

/-- No pair at all. -/
def noXB (m : Nat) (X : Nat → Nat → Bool) : Bool := (List.range m).all fun i => (List.range m).all fun j => !(decide (i < j) && X i j)
theorem noXB_iff {m : Nat} {X : Nat → Nat → Bool} : noXB m X = true ↔ NoX m X := by
  simp only [noXB, List.all_eq_true, List.mem_range, Bool.not_eq_true', Bool.and_eq_false_iff, decide_eq_false_iff_not]
  constructor
  · intro h i j h1 h2
    rcases h i (by omega) j h2 with h3 | h3
    · exact absurd h1 h3
    · exact h3
  · intro h i _ j h2
    by_cases h1 : i < j
    · exact Or.inr (h i j h1 h2)
    · exact Or.inl h1
theorem FindX.no {m : Nat} {X : Nat → Nat → Bool} {p q : Int} {r : Bool} (h : FindX m X p q r) : noXB m X = !r := by
  rcases h with ⟨rfl, i, j, _, _, h⟩ | ⟨rfl, _, _, h⟩
  · cases e : noXB m X
    · rfl
    · exact absurd (noXB_iff.1 e) h.not
  · exact noXB_iff.2 h

/-- Is a pile of a wrapper with these creases possible? -/
def posB (n : Nat) (z : Nat → Int) (l : List Tri) : Bool := noXB l.length (crossAt n z l)

set_option maxHeartbeats 1000000 in
set_option maxRecDepth 100000 in
theorem possible_any (nn : Int) (ca : Option Addr) (m cc : Nat) (l : List Tri) (a : Option Addr) (cap n : Nat) (z : Nat → Int) (w : World) (hs : n ≤ 140737488351232) (hm : m ≤ 1000) (hl : l.length = m) (ht : TriAt w ca l) (hc : Ints w a n z) :
    Calls Try.prog 50 #[.agg #[.int .i64 nn, .slice ca m cc], .slice a n cap] w fun e w' => e = .returned (.bool (posB n z l)) ∧ Below w.heap.size w w' := by
  have hb : Below w.heap.size w (w.alloc (.cells #[.int .i64 nn, .slice ca m cc] 62)) := (Below.refl _ _).alloc (Nat.le_refl _) _
  have hx := crossing_any nn ca m cc l a cap n z (w.alloc (.cells #[.int .i64 nn, .slice ca m cc] 62)) hs hm hl (ht.keep (Nat.le_refl _) hb) (hc.keep (Nat.le_refl _) hb)
  have HL := Lib.hid hl
  have HB := Lib.hid hb
  clear hl hb ht hc
  go_enter Try.func50, Try.ntmps50
  go_wp2_with fail
  refine hx.mono ?_
  clear hx
  rintro e w2 ⟨p, q, r, rfl, hf, hb⟩
  have HR : Hid (posB n z l = !r) := by rw [Hid, posB, HL.out]; exact hf.no
  have HB2 : Hid (Below w.heap.size w w2) := HB.out.trans (hb.mono HB.out.size)
  clear hf hb
  have HF : Hid (Below w.heap.size w (((w2.alloc (.cells #[.int .i64 0, .int .i64 0] 27)).setCell ⟨w2.heap.size, 0, none⟩ (.int .i64 p)).setCell ⟨w2.heap.size, 1, none⟩ (.int .i64 q))) :=
    (((HB2.out.alloc HB2.out.size _).setCell (HB2.out.size) _).setCell (HB2.out.size) _)
  have HF2 : Hid (Below w.heap.size w (w2.alloc (.cells #[.int .i64 p, .int .i64 q] 27))) := HB2.out.alloc HB2.out.size _
  go_wp2
  go_ret
  first
    | exact ⟨by rw [HR.out]; rfl, HF.out⟩
    | exact ⟨by rw [HR.out]; rfl, HF2.out⟩

theorem possible_r (r : Bool) (nn : Int) (ca : Option Addr) (m cc : Nat) (l : List Tri) (a : Option Addr) (cap n : Nat) (z : Nat → Int) (w : World) (hr : posB n z l = r) (hs : n ≤ 140737488351232) (hm : m ≤ 1000) (hl : l.length = m) (ht : TriAt w ca l) (hc : Ints w a n z) :
    Calls Try.prog 50 #[.agg #[.int .i64 nn, .slice ca m cc], .slice a n cap] w fun e w' => e = .returned (.bool r) ∧ Below w.heap.size w w' := by
  subst hr; exact possible_any nn ca m cc l a cap n z w hs hm hl ht hc

end Go.Proofs.Ytmbccdjoliegiaa
