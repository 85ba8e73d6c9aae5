import Derived.Test.YtmbccdjoliegiaaR4
import Derived.Test.YtmbccdjoliegiaaC5
namespace Go.Proofs.Ytmbccdjoliegiaa
open Go.RowKit

theorem FindX.congr {m : Nat} {X Y : Nat → Nat → Bool} (h : ∀ i j, i < j → j < m → X i j = Y i j) {p q : Int} {r : Bool} (hf : FindX m X p q r) : FindX m Y p q r := by
  rcases hf with ⟨hr, i, j, hp, hq, h1, h2, h3, h4, h5⟩ | ⟨hr, hp, hq, hn⟩
  · exact Or.inl ⟨hr, i, j, hp, hq, h1, h2, by rw [← h i j h1 h2]; exact h3, fun j' a b => by rw [← h i j' a (by omega)]; exact h4 j' a b, fun i' j' a b c => by rw [← h i' j' b c]; exact h5 i' j' a b c⟩
  · exact Or.inr ⟨hr, hp, hq, fun i j a b => by rw [← h i j a b]; exact hn i j a b⟩

/-- The reference's creases of a strip cross just where the program's do. -/
theorem strip_same (n : Nat) (z : Nat → Int) (i j : Nat) (hi : i < n - 1) (hj : j < n - 1) : crossTAt (fun x => ix n z x) (rstripN (n - 1)) i j = crossAt n z (rowN 0 (n - 1)) i j := by
  unfold crossTAt crossAt crossT crossR crossB
  rw [rstripN_at _ _ hi, rstripN_at _ _ hj, rowN_at _ _ _ hi, rowN_at _ _ _ hj]
  have e : ∀ k : Nat, ((((k : Int) + 1).toNat : Nat) : Int) = ((k + 1 : Nat) : Int) := fun k => by omega
  simp only [around, Nat.zero_add, Int.toNat_natCast, e]
  rfl

theorem rstrip_in {n : Nat} : ∀ t ∈ rstripN (n - 1), TriIn n t := by
  intro t ht
  obtain ⟨i, hi, rfl⟩ := List.mem_map.1 ht
  have := List.mem_range.1 hi
  exact ⟨by simp, by show (i : Int) < n; omega, by show (0 : Int) ≤ (i : Int) + 1; omega, by show (i : Int) + 1 < n; omega⟩

/-- The first creases of a pile of a strip that cross. -/
def FindP (n : Nat) (z : Nat → Int) (p q : Int) (r : Bool) : Prop := FindX (n - 1) (crossAt n z (rowN 0 (n - 1))) p q r
/-- Is a pile of a strip possible? -/
def poss (n : Nat) (z : Nat → Int) : Bool := posB n z (rowN 0 (n - 1))
theorem FindP.poss {n : Nat} {z : Nat → Int} {p q : Int} {r : Bool} (h : FindP n z p q r) : poss n z = !r := by
  unfold Go.Proofs.Ytmbccdjoliegiaa.poss posB
  rw [rowN_len]
  exact FindX.no h

set_option maxHeartbeats 2000000 in
set_option maxRecDepth 100000 in
/-- Both functions of the reference search in the same way. -/
theorem rsearch (a : Option Addr) (cap n : Nat) (z : Nat → Int) (w : World) (hP : isP n z = true) (hc : Ints w a n z) :
    ∃ (R : Value → World → Prop), (Calls Try.prog 53 #[.int .i64 n] w fun e w' => ∃ v, e = .returned v ∧ R v w' ∧ Below w.heap.size w w') ∧
      ∀ v w', R v w' → Below w.heap.size w w' → Calls Try.prog 52 #[.slice a n cap, v] w' fun e w'' => ∃ p q r, e = .returned (.tuple #[.agg #[.int .i64 p, .int .i64 q], .bool r]) ∧ FindP n z p q r ∧ Below w'.heap.size w' w'' := by
  have hp := isP_iff.1 hP
  refine ⟨fun v w' => OwnT 80 w' w.heap.size v (rstripN (n - 1)), (rstrip_any n w (by omega) hp.1).mono fun e w' ⟨v, h1, h2, h3⟩ => ⟨v, h1, h2, h3⟩, ?_⟩
  intro v w' hO hb
  obtain ⟨ca, cc, rfl, hT, h1, h2, _⟩ := hO.read
  refine (first_any ca _ cc (rstripN (n - 1)) a cap n z w' (by omega) (by rw [rstripN_len]; omega) rfl rstrip_in (all_good (by omega) hp.2.2) hT (hc.keep (Nat.le_refl _) hb)).mono ?_
  rintro e w2 ⟨p, q, r, rfl, hf, hb2⟩
  refine ⟨p, q, r, rfl, ?_, hb2⟩
  rw [rstripN_len] at hf
  exact hf.congr (fun i j a b => strip_same n z i j (by omega) b)

set_option maxHeartbeats 2000000 in
set_option maxRecDepth 100000 in
theorem rpossible_any (a : Option Addr) (cap n : Nat) (z : Nat → Int) (w : World) (hP : isP n z = true) (hc : Ints w a n z) :
    Calls Try.prog 21 #[.slice a n cap] w fun e w' => e = .returned (.bool (poss n z)) ∧ Below w.heap.size w w' := by
  obtain ⟨R, h1, h2⟩ := rsearch a cap n z w hP hc
  have H1 := Lib.hid h1
  have H2 := Lib.hid h2
  clear h1 h2 hP hc
  go_enter Try.func21, Try.ntmps21
  go_wp2_with fail
  refine H1.out.mono ?_
  rintro e w2 ⟨v, rfl, hR, hb2⟩
  have H3 := Lib.hid (H2.out v w2 hR hb2)
  have HB2 := Lib.hid hb2
  clear hR hb2
  go_wp2_with fail
  refine H3.out.mono ?_
  rintro e w3 ⟨p, q, r, rfl, hf, hb3⟩
  have HR : Hid (poss n z = !r) := hf.poss
  have HB3 : Hid (Below w.heap.size w w3) := HB2.out.trans (hb3.mono HB2.out.size)
  have HF2 : Hid (Below w.heap.size w (w3.alloc (.cells #[.int .i64 p, .int .i64 q] 27))) := HB3.out.alloc HB3.out.size _
  clear hf hb3
  go_wp2
  go_ret
  exact ⟨by rw [HR.out]; rfl, HF2.out⟩

end Go.Proofs.Ytmbccdjoliegiaa
