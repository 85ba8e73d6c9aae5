import Derived.Test.YtkbbijhknbcflabB1
/-
  A works in memory, in plain numbers.
-/
namespace Go.Proofs.Ytkbbijhknbcflab
open Go.RowKit Go.Shelf

/-- A works in memory: its next states and its marks. -/
structure Wk (W : World) (aN : Option Addr) (n : Nat) (aM : Option Addr) (nx mk : Nat → Nat) : Prop where
  n6 : n ≤ 6
  N : Ints W aN n (fun i => (nx i : Int))
  M : Ints W aM n (fun i => (mk i : Int))
  nx_lt : ∀ i, i < n → nx i < 2 ^ n
  mk_lt : ∀ i, i < n → mk i < 16
theorem Wk.keep {W W' : World} {aN : Option Addr} {n : Nat} {aM : Option Addr} {nx mk : Nat → Nat} (h : Wk W aN n aM nx mk) {B : Nat} (hB : W.heap.size ≤ B) (hb : Below B W W') : Wk W' aN n aM nx mk :=
  ⟨h.n6, h.N.keep hB hb, h.M.keep hB hb, h.nx_lt, h.mk_lt⟩
theorem Wk.before {W : World} {aN : Option Addr} {n : Nat} {aM : Option Addr} {nx mk : Nat → Nat} (h : Wk W aN n aM nx mk) (cN cM : Nat) (X : Nat) (hX : X < 2 ^ n) :
    Calls Try.prog 55 #[wkV aN n cN aM n cM, .int .i64 (X : Int)] W fun e w' => e = .returned (.int .i64 ((bef nx X n : Nat) : Int)) ∧ Below W.heap.size W w' :=
  before_any aN n cN aM n cM nx X W h.n6 h.N (fun i hi => lt64 (h.nx_lt i hi) h.n6) (lt64 hX h.n6)
theorem Wk.marked {W : World} {aN : Option Addr} {n : Nat} {aM : Option Addr} {nx mk : Nat → Nat} (h : Wk W aN n aM nx mk) (cN cM : Nat) (j : Nat) (hj : j ≤ 3) :
    Calls Try.prog 40 #[wkV aN n cN aM n cM, .int .i64 (j : Int)] W fun e w' => e = .returned (.int .i64 ((mkd mk j n : Nat) : Int)) ∧ Below W.heap.size W w' :=
  marked_any aN n cN aM n cM mk j W h.n6 h.M (fun i hi => by have := h.mk_lt i hi; omega) hj

theorem valid_r (r : Bool) (aN : Option Addr) (n cN : Nat) (aM : Option Addr) (m cM : Nat) (T L : Nat → Int) (w : World) (hr : isWk n m T L = r) (hn : n ≤ 9) (hm : m ≤ 9) (hT : Ints w aN n T) (hL : Ints w aM m L) :
    Calls Try.prog 18 #[wkV aN n cN aM m cM] w fun e w' => SomeB r w e w' := by
  subst hr; exact valid_any aN n cN aM m cM T L w hn hm hT hL
/-- A valid works, in plain numbers. -/
def nat (T : Nat → Int) : Nat → Nat := fun i => (T i).toNat
theorem ints_congr {w : World} {a : Option Addr} {n : Nat} {z z' : Nat → Int} (h : Ints w a n z) (e : ∀ j, j < n → z j = z' j) : Ints w a n z' := fun j hj => by
  obtain ⟨b, o, ha, hc⟩ := h j hj; exact ⟨b, o, ha, by rw [← e j hj]; exact hc⟩
theorem wk_of {n m : Nat} {T L : Nat → Int} (h : isWk n m T L = true) {W : World} {aN aM : Option Addr} (hT : Ints W aN n T) (hL : Ints W aM m L) : Wk W aN n aM (nat T) (nat L) := by
  obtain ⟨h1, h2, h3, h4⟩ := isWk_iff.1 h
  subst h3
  have hp : 1 ≤ 2 ^ m := Nat.one_le_two_pow
  exact ⟨h2, ints_congr hT (fun j hj => by have := h4 j hj; unfold nat; omega), ints_congr hL (fun j hj => by have := h4 j hj; unfold nat; omega),
    fun i hi => by have := h4 i hi; unfold nat; omega, fun i hi => by have := h4 i hi; unfold nat; omega⟩

/-- A number and that all is well; or 0 and an error. -/
def NumOut (x : Int) (er : Int) (w : World) (e : Ending) (w' : World) : Prop := e = .returned (.tuple #[.int .i64 x, .int .i64 er]) ∧ Below w.heap.size w w'
end Go.Proofs.Ytkbbijhknbcflab
