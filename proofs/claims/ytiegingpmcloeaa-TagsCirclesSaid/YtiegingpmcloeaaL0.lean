import Derived.Test.YtiegingpmcloeaaA6
import Derived.Deep.DeepCutAuto
import Derived.Test.YtiegingpmcloeaaB1
namespace Go.Proofs.Ytiegingpmcloeaa
open Go.RowKit

theorem isM_min (n : Nat) (M : Nat → Q) : isM (min n 11) M = isM n M := by
  by_cases h : n ≤ 11
  · rw [Nat.min_eq_left h]
  · have e : min n 11 = 11 := by omega
    rw [e, isM_no (fun hh => by omega), isM_no (fun hh => by omega)]

/-- The program's copy of a machine. -/
theorem of_ords {w w' : World} {v : Value} {n : Nat} {M : Nat → Q} (h : OwnC w' w.heap.size 57 4 v n (fun k => qcell (M k))) : ∃ a cap, v = .slice a n cap ∧ Ords w' a n M := by
  obtain ⟨a, cap, rfl, hc, _, _⟩ := OwnC.read (c := fun k => qcell (M k)) (fun k => qcell_len _) h
  exact ⟨a, cap, rfl, hc.ords⟩

/-- Two cells of a block that may be written. -/
structure At2 (w : World) (b : Nat) (v0 v1 : Value) : Prop where
  c0 : w.cell? ⟨b, 0, none⟩ = some v0
  c1 : w.cell? ⟨b, 1, none⟩ = some v1
  f0 : w.frozen? ⟨b, 0, none⟩ = false
  f1 : w.frozen? ⟨b, 1, none⟩ = false
theorem At2.of {w : World} {b : Nat} {v0 v1 : Value} {T : TypeId} (h : w.heap[b]? = some (.cells #[v0, v1] T)) : At2 w b v0 v1 :=
  ⟨block_cell h 0, block_cell h 1, block_free h 0, block_free h 1⟩
theorem At2.lt {w : World} {b : Nat} {v0 v1 : Value} (h : At2 w b v0 v1) : b < w.heap.size := World.block_lt_of_cell? _ _ h.c0
theorem At2.keep {w w' : World} {b : Nat} {v0 v1 : Value} (h : At2 w b v0 v1) (hb : Below w.heap.size w w') : At2 w' b v0 v1 := by
  have e : w'.heap[b]? = w.heap[b]? := hb.block b h.lt
  have k : ∀ j, w'.cell? ⟨b, j, none⟩ = w.cell? ⟨b, j, none⟩ := fun j => World.cell?_of_block e
  have f : ∀ j, w'.frozen? ⟨b, j, none⟩ = w.frozen? ⟨b, j, none⟩ := fun j => by unfold World.frozen?; simp only [e]
  exact ⟨by rw [k]; exact h.c0, by rw [k]; exact h.c1, by rw [f]; exact h.f0, by rw [f]; exact h.f1⟩
theorem At2.set0 {w : World} {b : Nat} {u0 u1 : Value} (h : At2 w b u0 u1) (v : Value) : At2 (w.setCell ⟨b, 0, none⟩ v) b v u1 := by
  obtain ⟨c0, c1, f0, f1⟩ := h
  constructor <;> go_simp
theorem At2.set1 {w : World} {b : Nat} {u0 u1 : Value} (h : At2 w b u0 u1) (v : Value) : At2 (w.setCell ⟨b, 1, none⟩ v) b u0 v := by
  obtain ⟨c0, c1, f0, f1⟩ := h
  constructor <;> go_simp
theorem At2.far {w : World} {b b' j : Nat} {u0 u1 : Value} (h : At2 w b u0 u1) (hn : b' ≠ b) (v : Value) : At2 (w.setCell ⟨b', j, none⟩ v) b u0 u1 := by
  have e : (w.setCell ⟨b', j, none⟩ v).heap[b]? = w.heap[b]? := Below.heap_setCell _ _ _ _ (by simpa using hn.symm)
  have k : ∀ i, (w.setCell ⟨b', j, none⟩ v).cell? ⟨b, i, none⟩ = w.cell? ⟨b, i, none⟩ := fun i => World.cell?_of_block e
  have f : ∀ i, (w.setCell ⟨b', j, none⟩ v).frozen? ⟨b, i, none⟩ = w.frozen? ⟨b, i, none⟩ := fun i => by unfold World.frozen?; simp only [e]
  exact ⟨by rw [k]; exact h.c0, by rw [k]; exact h.c1, by rw [f]; exact h.f0, by rw [f]; exact h.f1⟩

/-- Nothing that was there has turned, and these blocks of two cells hold these values. -/
def Inv (W : World) (l : List (Nat × Value × Value)) (w : World) : Prop := Below W.heap.size W w ∧ ∀ p ∈ l, At2 w p.1 p.2.1 p.2.2
theorem Inv.refl (W : World) : Inv W [] W := ⟨Below.refl _ _, fun _ h => by cases h⟩
theorem Inv.call {W w w' : World} {l : List (Nat × Value × Value)} (h : Inv W l w) (hb : Below w.heap.size w w') : Inv W l w' := ⟨band h.1 hb, fun p hp => (h.2 p hp).keep hb⟩
theorem Inv.alloc {W w : World} {l : List (Nat × Value × Value)} (h : Inv W l w) (o : Obj) : Inv W l (w.alloc o) := h.call (one_le _ _)
theorem Inv.drew {W w : World} {l : List (Nat × Value × Value)} (h : Inv W l w) : Inv W l w.drew := ⟨h.1.drew, fun p hp => ⟨(h.2 p hp).c0, (h.2 p hp).c1, (h.2 p hp).f0, (h.2 p hp).f1⟩⟩
theorem Inv.new {W w : World} {l : List (Nat × Value × Value)} (h : Inv W l w) (v0 v1 : Value) (T : TypeId) : Inv W ((w.heap.size, v0, v1) :: l) (w.alloc (.cells #[v0, v1] T)) :=
  ⟨(h.alloc _).1, fun p hp => by
    rcases List.mem_cons.1 hp with rfl | hp
    · exact At2.of (heap_alloc_new w _)
    · exact (h.alloc _).2 p hp⟩
theorem Inv.drop {W w : World} {p : Nat × Value × Value} {l : List (Nat × Value × Value)} (h : Inv W (p :: l) w) : Inv W l w := ⟨h.1, fun q hq => h.2 q (List.mem_cons_of_mem _ hq)⟩
theorem Inv.at {W w : World} {b : Nat} {v0 v1 : Value} {l : List (Nat × Value × Value)} (h : Inv W ((b, v0, v1) :: l) w) : At2 w b v0 v1 := h.2 _ (List.mem_cons_self ..)
theorem Inv.set0 {W w : World} {b : Nat} {v0 v1 : Value} {l : List (Nat × Value × Value)} (h : Inv W ((b, v0, v1) :: l) w) (hb : W.heap.size ≤ b) (hn : ∀ p ∈ l, b ≠ p.1) (v : Value) : Inv W ((b, v, v1) :: l) (w.setCell ⟨b, 0, none⟩ v) :=
  ⟨h.1.setCell hb _, fun p hp => by
    rcases List.mem_cons.1 hp with rfl | hp
    · exact h.at.set0 v
    · exact (h.2 p (List.mem_cons_of_mem _ hp)).far (hn p hp) v⟩
theorem Inv.set1 {W w : World} {b : Nat} {v0 v1 : Value} {l : List (Nat × Value × Value)} (h : Inv W ((b, v0, v1) :: l) w) (hb : W.heap.size ≤ b) (hn : ∀ p ∈ l, b ≠ p.1) (v : Value) : Inv W ((b, v0, v) :: l) (w.setCell ⟨b, 1, none⟩ v) :=
  ⟨h.1.setCell hb _, fun p hp => by
    rcases List.mem_cons.1 hp with rfl | hp
    · exact h.at.set1 v
    · exact (h.2 p (List.mem_cons_of_mem _ hp)).far (hn p hp) v⟩
theorem Inv.fresh {W w : World} {l : List (Nat × Value × Value)} (h : Inv W l w) : W.heap.size ≤ w.heap.size ∧ ∀ p ∈ l, w.heap.size ≠ p.1 :=
  ⟨h.1.size, fun p hp => Nat.ne_of_gt (h.2 p hp).lt⟩
theorem Inv.setFar {W w : World} {b j : Nat} {l l' : List (Nat × Value × Value)} (h : Inv W l w) (hb : W.heap.size ≤ b) (hs : ∀ p ∈ l', p ∈ l ∧ b ≠ p.1) (v : Value) : Inv W l' (w.setCell ⟨b, j, none⟩ v) :=
  ⟨h.1.setCell hb _, fun p hp => (h.2 p (hs p hp).1).far (hs p hp).2 v⟩
/-- A new block of two cells beside the others. -/
def NewBox (W : World) (l : List (Nat × Value × Value)) (v0 v1 : Value) (w : World) (b : Nat) : Prop := Inv W ((b, v0, v1) :: l) w ∧ W.heap.size ≤ b ∧ ∀ p ∈ l, b ≠ p.1
theorem NewBox.last {W w : World} {l : List (Nat × Value × Value)} (h : Inv W l w) (v0 v1 : Value) (T : TypeId) : NewBox W l v0 v1 (w.alloc (.cells #[v0, v1] T)) w.heap.size := ⟨h.new _ _ _, h.fresh⟩
theorem NewBox.put {W w : World} {b : Nat} {u0 u1 : Value} {l : List (Nat × Value × Value)} (h : Inv W ((b, u0, u1) :: l) w) (hb : W.heap.size ≤ b) (hn : ∀ p ∈ l, b ≠ p.1) (v0 v1 : Value) :
    NewBox W l v0 v1 ((w.setCell ⟨b, 0, none⟩ v0).setCell ⟨b, 1, none⟩ v1) b := ⟨(h.set0 hb hn v0).set1 hb hn v1, hb, hn⟩
/-- A contract, under what must be kept. -/
theorem inv_calls {P : Program} {f : Nat} {args : Array Value} {W w : World} {l : List (Nat × Value × Value)} {R : Ending → World → Prop} (hI : Inv W l w) (h : Calls P f args w fun e w' => R e w' ∧ Below w.heap.size w w') :
    Calls P f args w fun e w' => R e w' ∧ Below w.heap.size w w' ∧ Inv W l w' := h.mono fun _ _ ⟨h1, h2⟩ => ⟨h1, h2, hI.call h2⟩

/-- The contracts of the law's own functions, with what must be kept. -/
theorem i_machine {W : World} {l : List (Nat × Value × Value)} {a : Option Addr} {n cap : Nat} {M : Nat → Q} (hn8 : n ≤ 140737488351232) (hM : Ords W a n M) (r : Bool) (hr : isM n M = r) (w : World) (hI : Inv W l w) :
    Calls Try.prog 12 #[.slice a n cap] w fun e w' => e = .returned (.bool r) ∧ Inv W l w' := by
  refine (inv_calls hI (rmachine_any a n cap M w hn8 (hM.keep (Nat.le_refl _) hI.1))).mono ?_
  rintro e w' ⟨h1, h2, h3⟩
  rw [hr] at h1
  exact ⟨h1, h3⟩
theorem i_jars {W : World} {l : List (Nat × Value × Value)} (x y : Int) (r : Bool) (hr : jB x y = r) (w : World) (hI : Inv W l w) :
    Calls Try.prog 13 #[.agg #[.int .i64 x, .int .i64 y]] w fun e w' => e = .returned (.bool r) ∧ Inv W l w' := by
  refine (inv_calls hI (rjars_any x y w)).mono ?_
  rintro e w' ⟨h1, h2, h3⟩
  rw [hr] at h1
  exact ⟨h1, h3⟩
theorem i_of {W : World} {l : List (Nat × Value × Value)} {a : Option Addr} {n cap : Nat} {M : Nat → Q} (hn8 : n ≤ 140737488351232) (hM : Ords W a n M) (w : World) (hI : Inv W l w) :
    Calls Try.prog 11 #[.slice a n cap] w fun e w' => (∃ a' cap', e = .returned (.slice a' (min n 11) cap') ∧ Ords w' a' (min n 11) M) ∧ Inv W l w' := by
  refine (of_any M n cap a w hn8 (hM.keep (Nat.le_refl _) hI.1)).mono ?_
  rintro e w' ⟨v, rfl, h1, h2⟩
  obtain ⟨a', cap', rfl, h3⟩ := of_ords h1
  exact ⟨⟨a', cap', rfl, h3⟩, hI.call h2⟩
theorem i_awake {W : World} {l : List (Nat × Value × Value)} (w : World) (hI : Inv W l w) : Calls Try.prog 14 #[] w fun e w' => e = .returned (.bool true) ∧ Inv W l w' := by
  refine (inv_calls hI (awake_any w)).mono ?_
  rintro e w' ⟨h1, h2, h3⟩
  exact ⟨h1, h3⟩

end Go.Proofs.Ytiegingpmcloeaa
