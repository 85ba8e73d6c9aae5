/-
  Plain words for what lies in memory: a slice of ints, a slice of slices of ints; that they stay while the call makes memory of its own.
-/
import Derived.WalkKit
import Derived.Lib.Hide
namespace Go.Proofs.Ytkbbijhknbcflab
open Go.RowKit

theorem add_at (b o j : Nat) : (⟨b, o, none⟩ : Addr).add j = ⟨b, o + j, none⟩ := by
  unfold Addr.add; split <;> simp_all

/-- One value in a new block of one cell: what 'append' asks of it. -/
theorem one_new (w : World) (v : Value) (T : TypeId) : ∀ j u, [v][j]? = some u → (w.alloc (.cells #[v] T)).cell? ((⟨w.heap.size, 0, none⟩ : Addr).add j) = some u := by
  intro j u hj
  match j, hj with
  | 0, hj => simp at hj; subst hj; simp [Addr.add]
theorem one_ok (v : Value) (h : v.oneCell' = true) : ∀ u ∈ [v], u.oneCell' = true := by
  intro u hu
  simp at hu
  subst hu; exact h

theorem heap_two2 (w : World) (o1 o2 : Obj) : ((w.alloc o1).alloc o2).heap[w.heap.size + 1]? = some o2 := by
  have := heap_alloc_new (w.alloc o1) o2
  simpa using this
theorem heap_two1 (w : World) (o1 o2 : Obj) : ((w.alloc o1).alloc o2).heap[w.heap.size]? = some o1 := by
  rw [Below.heap_alloc _ _ _ (by simp)]
  exact heap_alloc_new w o1
/-- What a block of cells gives. -/
theorem block_cell {w : World} {b : Nat} {cs : Array Value} {T : TypeId} (h : w.heap[b]? = some (.cells cs T)) (j : Nat) : w.cell? ⟨b, j, none⟩ = cs[j]? := by simp [World.cell?, h]
theorem block_free {w : World} {b : Nat} {cs : Array Value} {T : TypeId} (h : w.heap[b]? = some (.cells cs T)) (j : Nat) : w.frozen? ⟨b, j, none⟩ = false := by simp [World.frozen?, h]

/-- A vector, a matrix written into one of the call's own blocks. -/
theorem below_set4 {B b o : Nat} {a w : World} (h : Below B a w) (hb : B ≤ b) (v0 v1 v2 v3 : Value) :
    Below B a ((((w.setCell ⟨b, o, none⟩ v0).setCell ⟨b, o + 1, none⟩ v1).setCell ⟨b, o + 2, none⟩ v2).setCell ⟨b, o + 3, none⟩ v3) :=
  (((h.setCell hb _).setCell hb _).setCell hb _).setCell hb _
theorem below_set9 {B b : Nat} {a w : World} (h : Below B a w) (hb : B ≤ b) (v0 v1 v2 v3 v4 v5 v6 v7 v8 : Value) :
    Below B a (((((((((w.setCell ⟨b, 0, none⟩ v0).setCell ⟨b, 1, none⟩ v1).setCell ⟨b, 2, none⟩ v2).setCell ⟨b, 3, none⟩ v3).setCell ⟨b, 4, none⟩ v4).setCell ⟨b, 5, none⟩ v5).setCell ⟨b, 6, none⟩ v6).setCell ⟨b, 7, none⟩ v7).setCell ⟨b, 8, none⟩ v8) :=
  ((((((((h.setCell hb _).setCell hb _).setCell hb _).setCell hb _).setCell hb _).setCell hb _).setCell hb _).setCell hb _).setCell hb _

/-- The slice that begins at 'a' holds the numbers 'z 0', 'z 1', .. up to n. -/
def Ints (w : World) (a : Option Addr) (n : Nat) (z : Nat → Int) : Prop :=
  ∀ j, j < n → ∃ b o, a = some ⟨b, o, none⟩ ∧ w.cell? ⟨b, o + j, none⟩ = some (.int .i64 (z j))

/-- The slice of slices that begins at 'a'. -/
structure Mat (w : World) (a : Option Addr) (R : Nat) (A : Nat → Option Addr) (L C : Nat → Nat) (Z : Nat → Nat → Int) : Prop where
  row : ∀ j, j < R → ∃ b o, a = some ⟨b, o, none⟩ ∧ w.cell? ⟨b, o + j, none⟩ = some (.slice (A j) (L j) (C j))
  cap : ∀ j, j < R → L j ≤ C j ∧ L j * 8 ≤ 140737488355328
  ints : ∀ j, j < R → Ints w (A j) (L j) (Z j)

theorem Ints.keep {w w' : World} {a : Option Addr} {n : Nat} {z : Nat → Int} (h : Ints w a n z) {B : Nat} (hB : w.heap.size ≤ B) (hb : Below B w w') : Ints w' a n z := by
  intro j hj
  obtain ⟨b, o, ha, hc⟩ := h j hj
  exact ⟨b, o, ha, by rw [hb.cell (p := ⟨b, o + j, none⟩) (Nat.lt_of_lt_of_le (World.block_lt_of_cell? _ _ hc) hB)]; exact hc⟩

theorem Mat.keep {w w' : World} {a : Option Addr} {R : Nat} {A : Nat → Option Addr} {L C : Nat → Nat} {Z : Nat → Nat → Int} (h : Mat w a R A L C Z) {B : Nat} (hB : w.heap.size ≤ B) (hb : Below B w w') : Mat w' a R A L C Z := by
  refine ⟨fun j hj => ?_, h.cap, fun j hj => (h.ints j hj).keep hB hb⟩
  obtain ⟨b, o, ha, hc⟩ := h.row j hj
  exact ⟨b, o, ha, by rw [hb.cell (p := ⟨b, o + j, none⟩) (Nat.lt_of_lt_of_le (World.block_lt_of_cell? _ _ hc) hB)]; exact hc⟩

/-- Are all numbers from one to another one? -/
def allIn (z : Nat → Int) (n : Nat) (lo hi : Int) : Bool := decide (∀ j, j < n → lo ≤ z j ∧ z j ≤ hi)

theorem allIn_yes {z : Nat → Int} {n : Nat} {lo hi : Int} (h : ∀ j, j < n → lo ≤ z j ∧ z j ≤ hi) : allIn z n lo hi = true := by simpa [allIn] using h
theorem allIn_no {z : Nat → Int} {n : Nat} {lo hi : Int} (j : Nat) (hj : j < n) (h : z j < lo ∨ hi < z j) : allIn z n lo hi = false := by
  simp only [allIn, decide_eq_false_iff_not]; intro hh; have := hh j hj; omega
theorem allIn_iff {z : Nat → Int} {n : Nat} {lo hi : Int} : allIn z n lo hi = true ↔ ∀ j, j < n → lo ≤ z j ∧ z j ≤ hi := by simp [allIn]

/-- Is it a matrix? -/
def isMat (R : Nat) (L : Nat → Nat) (Z : Nat → Nat → Int) : Bool :=
  decide (1 ≤ R ∧ R ≤ 2 ∧ ∀ j, j < R → L j = L 0 ∧ 1 ≤ L j ∧ L j ≤ 4 ∧ ∀ i, i < L j → -2 ≤ Z j i ∧ Z j i ≤ 2)

theorem isMat_iff {R : Nat} {L : Nat → Nat} {Z : Nat → Nat → Int} : isMat R L Z = true ↔ (1 ≤ R ∧ R ≤ 2 ∧ ∀ j, j < R → L j = L 0 ∧ 1 ≤ L j ∧ L j ≤ 4 ∧ ∀ i, i < L j → -2 ≤ Z j i ∧ Z j i ≤ 2) := by simp [isMat]
theorem isMat_no {R : Nat} {L : Nat → Nat} {Z : Nat → Nat → Int} (h : ¬ (1 ≤ R ∧ R ≤ 2 ∧ ∀ j, j < R → L j = L 0 ∧ 1 ≤ L j ∧ L j ≤ 4 ∧ ∀ i, i < L j → -2 ≤ Z j i ∧ Z j i ≤ 2)) : isMat R L Z = false := by
  simp only [isMat, decide_eq_false_iff_not]; exact h

/-- Does one vector fit into another one? -/
def fitsN (x y : Nat → Int) (n : Nat) : Bool := decide (∀ j, j < n → ¬ (0 < x j ∧ y j < x j) ∧ ¬ (x j < 0 ∧ x j < y j))
theorem fitsN_iff {x y : Nat → Int} {n : Nat} : fitsN x y n = true ↔ ∀ j, j < n → ¬ (0 < x j ∧ y j < x j) ∧ ¬ (x j < 0 ∧ x j < y j) := by simp [fitsN]
theorem fitsN_no {x y : Nat → Int} {n : Nat} (j : Nat) (hj : j < n) (h : (0 < x j ∧ y j < x j) ∨ (x j < 0 ∧ x j < y j)) : fitsN x y n = false := by
  simp only [fitsN, decide_eq_false_iff_not]; intro hh; have := hh j hj; omega

/-- Are they the same? -/
def sameN (x y : Nat → Int) (n : Nat) : Bool := decide (∀ j, j < n → x j = y j)
theorem sameN_iff {x y : Nat → Int} {n : Nat} : sameN x y n = true ↔ ∀ j, j < n → x j = y j := by simp [sameN]
theorem sameN_no {x y : Nat → Int} {n : Nat} (j : Nat) (hj : j < n) (h : x j ≠ y j) : sameN x y n = false := by
  simp only [sameN, decide_eq_false_iff_not]; intro hh; exact h (hh j hj)

/-- Are two slices of numbers equal? -/
def eqN (n m : Nat) (x y : Nat → Int) : Bool := decide (n = m) && sameN x y n
theorem eqN_iff {n m : Nat} {x y : Nat → Int} : eqN n m x y = true ↔ n = m ∧ ∀ j, j < n → x j = y j := by simp [eqN, sameN]
theorem eqN_no {n m : Nat} {x y : Nat → Int} (h : ¬ (n = m ∧ ∀ j, j < n → x j = y j)) : eqN n m x y = false := by
  cases e : eqN n m x y
  · rfl
  · exact absurd (eqN_iff.1 e) h

/-- The sum of the products of the first k numbers. -/
def dotN (f g : Nat → Int) : Nat → Int
  | 0 => 0
  | k + 1 => dotN f g k + f k * g k

theorem mul_two {x y M : Int} (h1 : -2 ≤ x) (h2 : x ≤ 2) (h3 : -M ≤ y) (h4 : y ≤ M) : -(2 * M) ≤ x * y ∧ x * y ≤ 2 * M := by
  have : x = -2 ∨ x = -1 ∨ x = 0 ∨ x = 1 ∨ x = 2 := by omega
  rcases this with rfl | rfl | rfl | rfl | rfl <;> omega

theorem dotN_bd {f g : Nat → Int} {M : Int} (k : Nat) (hf : ∀ j, j < k → -2 ≤ f j ∧ f j ≤ 2) (hg : ∀ j, j < k → -M ≤ g j ∧ g j ≤ M) (hk : k ≤ 4) (hM : 0 ≤ M) :
    -(8 * M) ≤ dotN f g k ∧ dotN f g k ≤ 8 * M := by
  have gen : ∀ m, m ≤ k → -(2 * M * m) ≤ dotN f g m ∧ dotN f g m ≤ 2 * M * m := by
    intro m
    induction m with
    | zero => intro _; simp [dotN]
    | succ m ih =>
      intro hm
      have h1 := ih (by omega)
      have h2 := mul_two (hf m (by omega)).1 (hf m (by omega)).2 (hg m (by omega)).1 (hg m (by omega)).2
      have e : 2 * M * ((m + 1 : Nat) : Int) = 2 * M * m + 2 * M := by rw [Int.natCast_add, Int.mul_add]; simp
      rw [e]
      simp only [dotN]
      omega
  have h := gen k (Nat.le_refl _)
  have hm : k = 0 ∨ k = 1 ∨ k = 2 ∨ k = 3 ∨ k = 4 := by omega
  rcases hm with rfl | rfl | rfl | rfl | rfl <;> simp at h <;> omega

/-- The first of a slice's numbers. -/
theorem Ints.take {w : World} {a : Option Addr} {n k : Nat} {z : Nat → Int} (h : Ints w a n z) (hk : k ≤ n) : Ints w a k z := fun j hj => h j (Nat.lt_of_lt_of_le hj hk)

theorem Ints.none {w : World} {a : Option Addr} {z : Nat → Int} : Ints w a 0 z := fun _ hj => absurd hj (Nat.not_lt_zero _)

theorem Ints.nil {w : World} {n : Nat} {z : Nat → Int} (h : Ints w Option.none n z) : n = 0 := by
  cases n with
  | zero => rfl
  | succ n => obtain ⟨b, o, he, _⟩ := h 0 (Nat.succ_pos _); cases he

/-- A row of numbers that the call itself made, from block 'base' on. -/
def Own (w : World) (base : Nat) (a : Option Addr) (n cap : Nat) (z : Nat → Int) : Prop :=
  w.ownsRow base 3 1 (.slice a n cap) n ((List.range n).map fun j => .int .i64 (z j))

theorem own_mk {w : World} {base n : Nat} {v : Value} {z : Nat → Int} (h : w.ownsRow base 3 1 v n ((List.range n).map fun j => .int .i64 (z j))) :
    ∃ a cap, v = .slice a n cap ∧ Own w base a n cap z := by
  rcases h.2 with ⟨rfl, hn⟩ | ⟨g, cap, cur, rfl, hb, hg, h1, h2, h3, h4⟩
  · have : n = 0 := by simpa using hn
    subst this
    exact ⟨Option.none, 0, rfl, h⟩
  · exact ⟨_, _, rfl, h⟩

/-- A row of the call's own stays while nothing that was there turns. -/
theorem ownsRow_below {w w' : World} {base n : Nat} {e : TypeId} {size : Nat} {v : Value} {xs : List Value} (h : w.ownsRow base e size v n xs) (hb : Below w.heap.size w w') : w'.ownsRow base e size v n xs := by
  refine ⟨h.1, ?_⟩
  rcases h.2 with hn | ⟨g, cap, cur, rfl, hbg, hg, r⟩
  · exact Or.inl hn
  · refine Or.inr ⟨g, cap, cur, rfl, hbg, ?_, r⟩
    rw [hb.block g (Array.getElem?_eq_some_iff.1 hg).1]
    exact hg

theorem Own.keep {w w' : World} {base n cap : Nat} {a : Option Addr} {z : Nat → Int} (h : Own w base a n cap z) (hb : Below w.heap.size w w') : Own w' base a n cap z := ownsRow_below h hb

theorem Own.cap {w : World} {base n cap : Nat} {a : Option Addr} {z : Nat → Int} (h : Own w base a n cap z) : n ≤ cap ∧ cap ≤ maxLen := by
  rcases h.2 with ⟨h1, rfl⟩ | ⟨g, cap', cur, he, hb, hg, h1, h2, h3, h4⟩
  · cases h1; exact ⟨Nat.le_refl _, Nat.zero_le _⟩
  · cases he; exact ⟨h1, h2⟩

theorem Own.ints {w : World} {base n cap : Nat} {a : Option Addr} {z : Nat → Int} (h : Own w base a n cap z) : Ints w a n z := by
  rcases h.2 with ⟨h1, rfl⟩ | ⟨g, cap', cur, he, hb, hg, h1, h2, h3, h4⟩
  · cases h1; exact Ints.none
  · cases he
    refine fun j hj => ⟨g, 0, rfl, ?_⟩
    have := World.ownsRow.cells h (g := g) rfl j (.int .i64 (z j)) (by simp [hj])
    rw [add_at] at this
    exact this

/-- A slice of slices that the call itself made. -/
structure OMat (w : World) (base : Nat) (v : Value) (R : Nat) (A : Nat → Option Addr) (L C : Nat → Nat) (Z : Nat → Nat → Int) : Prop where
  top : w.ownsRow base 22 1 v R ((List.range R).map fun j => .slice (A j) (L j) (C j))
  row : ∀ j, j < R → Own w base (A j) (L j) (C j) (Z j)

theorem OMat.keep {w w' : World} {base R : Nat} {v : Value} {A : Nat → Option Addr} {L C : Nat → Nat} {Z : Nat → Nat → Int} (h : OMat w base v R A L C Z) (hb : Below w.heap.size w w') : OMat w' base v R A L C Z :=
  ⟨ownsRow_below h.top hb, fun j hj => (h.row j hj).keep hb⟩

theorem OMat.nil (w : World) (base : Nat) (A : Nat → Option Addr) (L C : Nat → Nat) (Z : Nat → Nat → Int) : OMat w base (.slice Option.none 0 0) 0 A L C Z :=
  ⟨World.ownsRow_nil _ _ _ _, fun _ hj => absurd hj (Nat.not_lt_zero _)⟩

/-- Rows of two types lie in two blocks. -/
theorem own_apart {w : World} {base base' n n' : Nat} {e e' : TypeId} {size size' : Nat} {v v' : Value} {xs xs' : List Value} (h : w.ownsRow base e size v n xs) (h' : w.ownsRow base' e' size' v' n' xs') (he : e ≠ e') :
    v.ownBlock = Option.none ∨ v.ownBlock ≠ v'.ownBlock := by
  rcases h.2 with ⟨rfl, _⟩ | ⟨g, cap, cur, rfl, _, hg, _⟩
  · exact Or.inl rfl
  · rcases h'.2 with ⟨rfl, _⟩ | ⟨g', cap', cur', rfl, _, hg', _⟩
    · right; simp [Value.ownBlock]
    · right
      simp only [Value.ownBlock]
      intro hh
      cases hh
      rw [hg] at hg'
      cases hg'
      exact he rfl

theorem OMat.mat {w : World} {base R : Nat} {v : Value} {A : Nat → Option Addr} {L C : Nat → Nat} {Z : Nat → Nat → Int} (h : OMat w base v R A L C Z) (hL : ∀ j, j < R → L j * 8 ≤ 140737488355328) :
    ∃ a cap, v = .slice a R cap ∧ Mat w a R A L C Z ∧ R ≤ cap ∧ cap ≤ maxLen := by
  have hrow := h.row
  rcases h.top.2 with ⟨rfl, rfl⟩ | ⟨g, cap, cur, rfl, hb, hg, h1, h2, h3, h4⟩
  · exact ⟨Option.none, 0, rfl, ⟨fun _ hj => absurd hj (Nat.not_lt_zero _), fun _ hj => absurd hj (Nat.not_lt_zero _), fun _ hj => absurd hj (Nat.not_lt_zero _)⟩, Nat.le_refl _, Nat.zero_le _⟩
  · refine ⟨_, _, rfl, ⟨fun j hj => ⟨g, 0, rfl, ?_⟩, fun j hj => ⟨(hrow j hj).cap.1, hL j hj⟩, fun j hj => (hrow j hj).ints⟩, h1, h2⟩
    have := World.ownsRow.cells h.top (g := g) rfl j (.slice (A j) (L j) (C j)) (by simp [hj])
    rw [add_at] at this
    exact this

/-- Behind an append of one row. -/
theorem OMat.snoc {w w' : World} {base R : Nat} {v v' : Value} {A : Nat → Option Addr} {L C : Nat → Nat} {Z : Nat → Nat → Int} (h : OMat w base v R A L C Z) {a : Option Addr} {l c : Nat} {z : Nat → Int} (hr : Own w base a l c z)
    (hg : w.grownBy w' v.ownBlock) (ht : w'.ownsRow base 22 1 v' (R + 1) (((List.range R).map fun j => .slice (A j) (L j) (C j)) ++ [.slice a l c])) :
    OMat w' base v' (R + 1) (fun j => if j < R then A j else a) (fun j => if j < R then L j else l) (fun j => if j < R then C j else c) (fun j => if j < R then Z j else z) := by
  refine ⟨?_, fun j hj => ?_⟩
  · have e : ((List.range (R + 1)).map fun j => Value.slice (if j < R then A j else a) (if j < R then L j else l) (if j < R then C j else c)) = ((List.range R).map fun j => .slice (A j) (L j) (C j)) ++ [.slice a l c] := by
      rw [List.range_succ, List.map_append]
      congr 1
      · exact List.map_congr_left fun j hj => by have := List.mem_range.1 hj; simp [this]
      · simp
    rw [e]; exact ht
  · by_cases hlt : j < R
    · simp only [hlt, if_true]
      exact World.ownsRow.kept (h.row j hlt) hg (own_apart (h.row j hlt) h.top (by decide))
    · simp only [hlt, if_false]
      exact World.ownsRow.kept hr hg (own_apart hr h.top (by decide))

/-- The cells that 'append' asks of a slice of numbers. -/
theorem Ints.news {w : World} {ad : Addr} {n : Nat} {z : Nat → Int} (h : Ints w (some ad) n z) : ∀ j u, ((List.range n).map fun j => Value.int .i64 (z j))[j]? = some u → w.cell? (ad.add j) = some u := by
  intro j u hj
  have hjn : j < n := by
    have := (List.getElem?_eq_some_iff.1 hj).1
    simpa using this
  obtain ⟨b, o, he, hc⟩ := h j hjn
  cases he
  have e : ((List.range n).map fun j => Value.int .i64 (z j))[j]? = some (Value.int .i64 (z j)) := by simp [hjn]
  rw [e] at hj
  cases hj
  rw [add_at]; exact hc

end Go.Proofs.Ytkbbijhknbcflab
