import Derived.Test.YtcedhcpjnoppmaaR3
import Derived.Test.YtcedhcpjnoppmaaT3
import Derived.Test.YtcedhcpjnoppmaaV4
import Derived.Deep.DeepCutAuto
import Derived.Deep.RegionWith
namespace Go.Proofs.Ytcedhcpjnoppmaa
open Go.RowKit

theorem PlAt.drew {aT : Option Addr} {nT cT : Nat} {aL : Option Addr} {nL cL : Nat} {P : TypeId} {w wr : World} (h : PlAt aT nT cT aL nL cL P w wr) : PlAt aT nT cT aL nL cL P w wr.drew := ⟨h.pl, h.bel.drew⟩

theorem sliceB_run (a : Option Addr) (n cap k : Nat) (h : k ≤ cap) (w : World) : (Instr.slice 42 (.slice a n cap) none (some (.int .i64 (k : Int))) none).run Try.prog w = .ok (.slice a k cap) w := by
  rw [run_slice_h w 42 a n cap (by kernel_rfl) .i64 k (by omega) (by omega)]
  have e : (sizeOf (Try.prog.elem 42)).run Try.prog w = .ok 1 w := by kernel_rfl
  rw [e]
  have e2 : a.map (fun x => x.add 0) = a := by cases a <;> simp [Addr.add]
  simp [Result.andThen, sliced, e2]

def OfSmall (n m : Nat) (T L : Nat → Int) (w : World) (e : Ending) (w' : World) : Prop :=
  ∃ a1 c1 a2 c2, e = .returned (plV a1 n c1 a2 m c2) ∧ Ints w' a1 n T ∧ Ints w' a2 m L ∧ Below w.heap.size w w'
theorem of_small (aT : Option Addr) (n cT : Nat) (aL : Option Addr) (m cL : Nat) (T L : Nat → Int) (w : World) (hn : n ≤ cT) (hn8 : n ≤ 15) (hm : m ≤ cL) (hm8 : m ≤ 15) (hT : Ints w aT n T) (hL : Ints w aL m L) :
    Calls Try.prog 20 #[plV aT n cT aL m cL] w fun e w' => OfSmall n m T L w e w' := by
  refine (of_any aT n cT aL m cL T L w hn (by omega) hm (by omega) hT hL).mono ?_
  rintro e w1 ⟨a1, c1, a2, c2, rfl, h1, h2, h3⟩
  rw [show min n 15 = n by omega] at h1 ⊢
  rw [show min m 15 = m by omega] at h2 ⊢
  exact ⟨a1, c1, a2, c2, rfl, h1, h2, h3⟩

/-- How Run ran, whatever it was given. -/
def RunAll (ok : Bool) (T L : Nat → Int) (x : Nat → Bool) (n : Nat) (w : World) (e : Ending) (w' : World) : Prop :=
  ∃ (k : Nat) (r : Bool) (z : Int), e = .returned (.tuple #[.int .i64 (k : Int), .bool r, .int .i64 z]) ∧ Below w.heap.size w w' ∧
    (ok = true → Ends T L x k ∧ k ≤ n ∧ r = decide (av T L (k - 1) (bc x k) = 1) ∧ z = 0) ∧ (ok = false → k = 0 ∧ r = false ∧ z = 2)

theorem run_all (ok : Bool) (aT : Option Addr) (n cT : Nat) (aL : Option Addr) (m cL : Nat) (T L : Nat → Int) (aX : Option Addr) (nX cX : Nat) (x : Nat → Bool) (w : World) (hok : (isPlan n m T L && decide (nX = n)) = ok) (hn : n ≤ 140737488351232) (hm : m ≤ 140737488351232) (hT : Ints w aT n T) (hL : Ints w aL m L) (hX : Bools w aX nX x) :
    Calls Try.prog 29 #[plV aT n cT aL m cL, .slice aX nX cX] w fun e w' => RunAll ok T L x n w e w' := by
  cases ok with
  | true =>
    simp only [Bool.and_eq_true, decide_eq_true_eq] at hok
    obtain ⟨h1, rfl⟩ := hok
    exact (run_yes aT nX cT aL m cL T L aX cX x w h1 hT hL hX).mono fun e w' ⟨k, h2, h3, h4, h5⟩ => ⟨k, _, 0, h4, h5, fun _ => ⟨h2, h3, rfl, rfl⟩, fun h => by cases h⟩
  | false =>
    refine (run_no aT n cT aL m cL T L aX nX cX w ?_ hn hm hT hL).mono fun e w' ⟨h4, h5⟩ => ⟨0, false, 2, h4, h5, fun h => (by cases h), fun _ => ⟨rfl, rfl, rfl⟩⟩
    cases h : isPlan n m T L
    · exact Or.inl rfl
    · rw [h] at hok; simpa using hok

end Go.Proofs.Ytcedhcpjnoppmaa
