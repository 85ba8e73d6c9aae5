import Derived.Test.YtcedhcpjnoppmaaFi4
import Derived.Test.YtcedhcpjnoppmaaT3
import Derived.Test.YtcedhcpjnoppmaaEn1
import Derived.Deep.DeepCutAuto
import Derived.Deep.RegionWith
namespace Go.Proofs.Ytcedhcpjnoppmaa
open Go.RowKit

set_option maxHeartbeats 1000000 in
theorem unit_yes (A B : Int) (w : World) (h1 : 1 ≤ B) (h2 : B ≤ 17592186044416) (h3 : 0 ≤ A) (h4 : A ≤ B) :
    Calls Try.prog 51 #[.agg #[.int .i64 A, .int .i64 B]] w fun e w' => SomeB true w e w' := by
  have G : decide (A ≤ B) = true := by simpa using h4
  go_enter Try.func51, Try.ntmps51
  go_wp2
  go_ret
  first
    | exact ⟨rfl, below_one _ _⟩
    | exact ⟨by simp [h4], below_one _ _⟩

/-- What is known of a finite lot's chance. -/
structure FinIs (S C : Nat) (A B G : Int) : Prop where
  frv : frV S C = .agg #[.int .i64 A, .int .i64 B]
  b1 : 1 ≤ B
  b2 : B ≤ 1099511627776
  a0 : 0 ≤ A
  ab : A ≤ B
  rem : (C : Int).tmod B = 0
  quo : (C : Int).tdiv B = G
  prod : A * G = (S : Int)
  g0 : 0 ≤ G
  g1 : G ≤ 1099511627776

theorem fin_is {S C : Nat} (h0 : 1 ≤ C) (hC : C ≤ 1099511627776) (h : S ≤ C) : ∃ A B G, FinIs S C A B G := by
  have hp := low_parts (a := S) (b := C) h0
  have hl := low_le h
  have hle := Nat.div_le_self C (Nat.gcd S C)
  refine ⟨((S / Nat.gcd S C : Nat) : Int), ((C / Nat.gcd S C : Nat) : Int), ((C / (C / Nat.gcd S C) : Nat) : Int), rfl, Int.ofNat_le.2 hp.1, ?_, Int.natCast_nonneg _, Int.ofNat_le.2 hl, ?_, ?_, ?_, Int.natCast_nonneg _, Int.ofNat_le.2 (Nat.le_trans (Nat.div_le_self _ _) hC)⟩
  · have := Nat.le_trans hle hC
    exact Int.ofNat_le.2 this
  · rw [Int.tmod_eq_emod_of_nonneg (Int.natCast_nonneg _), ← Int.natCast_emod, hp.2.2.2.1]; rfl
  · rw [Int.tdiv_eq_ediv_of_nonneg (Int.natCast_nonneg _), ← Int.natCast_ediv]
  · rw [← Int.natCast_mul, hp.2.2.2.2]

/-- A fraction's cells, in the call's own memory. -/
structure FrAt (b : Nat) (A B : Int) (w wr : World) : Prop where
  blk : wr.heap[b]? = some (.cells #[.int .i64 A, .int .i64 B] 28)
  bel : Below w.heap.size w wr
theorem FrAt.keep {b : Nat} {A B : Int} {w wr wr' : World} (h : FrAt b A B w wr) (hb : Below wr.heap.size wr wr') : FrAt b A B w wr' := ⟨by rw [hb.block _ (Array.getElem?_eq_some_iff.1 h.blk).1]; exact h.blk, band h.bel hb⟩
theorem FrAt.cells {b : Nat} {A B : Int} {w wr : World} (h : FrAt b A B w wr) : wr.cell? ⟨b, 0, none⟩ = some (.int .i64 A) ∧ wr.cell? ⟨b, 1, none⟩ = some (.int .i64 B) ∧ b < wr.heap.size := ⟨block_cell h.blk 0, block_cell h.blk 1, (Array.getElem?_eq_some_iff.1 h.blk).1⟩
theorem FrAt.made {A B : Int} {w wr : World} (hb : Below w.heap.size w wr) : FrAt wr.heap.size A B w (wr.alloc (.cells #[.int .i64 A, .int .i64 B] 28)) := ⟨heap_alloc_new _ _, band hb (below_one _ _)⟩
theorem FrAt.drew {b : Nat} {A B : Int} {w wr : World} (h : FrAt b A B w wr) : FrAt b A B w wr.drew := ⟨h.blk, h.bel.drew⟩

end Go.Proofs.Ytcedhcpjnoppmaa
