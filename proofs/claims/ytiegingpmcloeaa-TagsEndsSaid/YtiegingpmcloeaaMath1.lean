/-
  Plain words for a machine with two jars: its orders, its places, its steps.
-/
import Derived.Test.YtiegingpmcloeaaMem
namespace Go.Proofs.Ytiegingpmcloeaa
open Go.RowKit

/-- An order: what is done, the jar, where to, where else. -/
structure Q where
  d : Int
  j : Int
  t : Int
  e : Int
structure QN where
  d : Nat
  j : Nat
  t : Nat
  e : Nat
def QN.z (q : QN) : Q := ⟨q.d, q.j, q.t, q.e⟩

def okU (q : Q) : Prop := (q.d = 0 ∧ q.j = 0 ∧ q.t = 0 ∧ q.e = 0) ∨ (q.d = 1 ∧ q.e = 0) ∨ q.d = 2
def okQ (n : Nat) (q : Q) : Prop := okU q ∧ (0 ≤ q.j ∧ q.j ≤ 1) ∧ (0 ≤ q.t ∧ q.t < n) ∧ 0 ≤ q.e ∧ q.e < n
instance (q : Q) : Decidable (okU q) := by unfold okU; exact inferInstance
instance (n : Nat) (q : Q) : Decidable (okQ n q) := by unfold okQ; exact inferInstance
def okB (n : Nat) (q : Q) : Bool := decide (okQ n q)
theorem okB_iff {n : Nat} {q : Q} : okB n q = true ↔ okQ n q := by simp [okB]
theorem okB_no {n : Nat} {q : Q} (h : ¬ okQ n q) : okB n q = false := by simp [okB, h]

/-- Is it a machine? -/
def isM (n : Nat) (M : Nat → Q) : Bool := decide (1 ≤ n ∧ n ≤ 8 ∧ ∀ k, k < n → okQ n (M k))
theorem isM_iff {n : Nat} {M : Nat → Q} : isM n M = true ↔ 1 ≤ n ∧ n ≤ 8 ∧ ∀ k, k < n → okQ n (M k) := by simp [isM]
theorem isM_no {n : Nat} {M : Nat → Q} (h : ¬ (1 ≤ n ∧ n ≤ 8 ∧ ∀ k, k < n → okQ n (M k))) : isM n M = false := by
  simp only [isM, decide_eq_false_iff_not]; exact h

/-- A machine in numbers from 0 on. -/
structure okN (n : Nat) (N : Nat → QN) : Prop where
  pos : 1 ≤ n
  few : n ≤ 8
  j : ∀ k, k < n → (N k).j ≤ 1
  t : ∀ k, k < n → (N k).t < n
  e : ∀ k, k < n → (N k).e < n
  u : ∀ k, k < n → ((N k).d = 0 ∧ (N k).j = 0 ∧ (N k).t = 0 ∧ (N k).e = 0) ∨ ((N k).d = 1 ∧ (N k).e = 0) ∨ (N k).d = 2

theorem isM_nat {n : Nat} {M : Nat → Q} (h : isM n M = true) : ∃ N : Nat → QN, okN n N ∧ ∀ k, k < n → M k = (N k).z := by
  obtain ⟨h1, h2, h3⟩ := isM_iff.1 h
  refine ⟨fun k => ⟨(M k).d.toNat, (M k).j.toNat, (M k).t.toNat, (M k).e.toNat⟩, ⟨h1, h2, ?_, ?_, ?_, ?_⟩, ?_⟩
  · intro k hk; obtain ⟨_, hj, ht, he⟩ := h3 k hk; simp only; omega
  · intro k hk; obtain ⟨_, hj, ht, he⟩ := h3 k hk; simp only; omega
  · intro k hk; obtain ⟨_, hj, ht, he⟩ := h3 k hk; simp only; omega
  · intro k hk; obtain ⟨hu, hj, ht, he⟩ := h3 k hk; unfold okU at hu; simp only; omega
  · intro k hk
    obtain ⟨hu, hj, ht, he⟩ := h3 k hk
    have hd : 0 ≤ (M k).d := by unfold okU at hu; omega
    rcases hq : M k with ⟨d, j, t, e⟩
    simp only [hq] at hj ht he hd
    simp only [QN.z, hq, Q.mk.injEq]
    omega
theorem okN_isM {n : Nat} {N : Nat → QN} (h : okN n N) : isM n (fun k => (N k).z) = true := by
  refine isM_iff.2 ⟨h.pos, h.few, fun k hk => ?_⟩
  have := h.j k hk; have := h.t k hk; have := h.e k hk; have := h.u k hk
  unfold okQ okU QN.z
  simp only
  omega

/-- A place: an order, and what is in both jars. -/
structure Pl where
  o : Nat
  x : Nat
  y : Nat
def Pl.jar (p : Pl) (j : Nat) : Nat := if j = 0 then p.x else p.y
def isEnd (N : Nat → QN) (p : Pl) : Bool := decide ((N p.o).d = 0)
/-- Is the order at p to take from an empty jar? -/
def noQ (q : QN) (p : Pl) : Bool := decide (q.d = 2 ∧ p.jar q.j = 0)
def noB (N : Nat → QN) (p : Pl) : Bool := noQ (N p.o) p
def stpQ (q : QN) (p : Pl) : Pl :=
  if noQ q p = true then ⟨q.e, p.x, p.y⟩
  else if q.d = 1 then (if q.j = 0 then ⟨q.t, p.x + 1, p.y⟩ else ⟨q.t, p.x, p.y + 1⟩)
  else (if q.j = 0 then ⟨q.t, p.x - 1, p.y⟩ else ⟨q.t, p.x, p.y - 1⟩)
def stp (N : Nat → QN) (p : Pl) : Pl := stpQ (N p.o) p
/-- The place after k steps, or at the end. -/
def pl (N : Nat → QN) (s : Pl) : Nat → Pl
  | 0 => s
  | k + 1 => if isEnd N (pl N s k) then pl N s k else stp N (pl N s k)
/-- How many steps were done. -/
def dn (N : Nat → QN) (s : Pl) : Nat → Nat
  | 0 => 0
  | k + 1 => if isEnd N (pl N s k) then dn N s k else k + 1

theorem stp_lt {n : Nat} {N : Nat → QN} (h : okN n N) {p : Pl} (hp : p.o < n) : (stp N p).o < n := by
  have := h.t p.o hp; have := h.e p.o hp
  unfold stp stpQ
  split
  · assumption
  · split <;> split <;> assumption
theorem pl_lt {n : Nat} {N : Nat → QN} (h : okN n N) {s : Pl} (hs : s.o < n) : ∀ k, (pl N s k).o < n
  | 0 => hs
  | k + 1 => by
    simp only [pl]
    split
    · exact pl_lt h hs k
    · exact stp_lt h (pl_lt h hs k)
theorem stp_le {N : Nat → QN} (p : Pl) : (stp N p).x ≤ p.x + 1 ∧ (stp N p).y ≤ p.y + 1 := by
  unfold stp stpQ
  split
  · exact ⟨Nat.le_succ _, Nat.le_succ _⟩
  · split <;> split <;> (simp only; omega)
theorem pl_le {N : Nat → QN} {s : Pl} : ∀ k, (pl N s k).x ≤ s.x + k ∧ (pl N s k).y ≤ s.y + k
  | 0 => ⟨Nat.le_refl _, Nat.le_refl _⟩
  | k + 1 => by
    have h := pl_le (N := N) (s := s) k
    simp only [pl]
    split
    · omega
    · have := stp_le (N := N) (pl N s k); omega
/-- Behind the end nothing goes on. -/
theorem pl_stay {N : Nat → QN} {s : Pl} {k : Nat} (h : isEnd N (pl N s k) = true) : ∀ i, pl N s (k + i) = pl N s k ∧ dn N s (k + i) = dn N s k
  | 0 => ⟨rfl, rfl⟩
  | i + 1 => by
    obtain ⟨h1, h2⟩ := pl_stay h i
    have : isEnd N (pl N s (k + i)) = true := by rw [h1]; exact h
    rw [← Nat.add_assoc]
    simp only [pl, dn, this, if_true]
    exact ⟨h1, h2⟩
theorem pl_at {N : Nat → QN} {s : Pl} {k m : Nat} (h : isEnd N (pl N s k) = true) (hk : k ≤ m) : pl N s m = pl N s k ∧ dn N s m = dn N s k := by
  have := pl_stay h (m - k)
  rwa [show k + (m - k) = m by omega] at this
theorem dn_go {N : Nat → QN} {s : Pl} : ∀ k, (∀ i, i < k → isEnd N (pl N s i) = false) → dn N s k = k
  | 0, _ => rfl
  | k + 1, h => by simp [dn, h k (Nat.lt_succ_self _)]
theorem dn_le {N : Nat → QN} {s : Pl} : ∀ k, dn N s k ≤ k
  | 0 => Nat.le_refl _
  | k + 1 => by
    have := dn_le (N := N) (s := s) k
    simp only [dn]; split <;> omega
theorem pl_succ {N : Nat → QN} {s : Pl} {k : Nat} (h : isEnd N (pl N s k) = false) : pl N s (k + 1) = stp N (pl N s k) := by simp [pl, h]

/-- A slice of orders. -/
def Ords (w : World) (a : Option Addr) (n : Nat) (M : Nat → Q) : Prop :=
  ∀ j, j < n → ∃ b o, a = some ⟨b, o, none⟩ ∧ w.cell? ⟨b, o + j * 4, none⟩ = some (.int .i64 (M j).d) ∧ w.cell? ⟨b, o + j * 4 + 1, none⟩ = some (.int .i64 (M j).j) ∧
    w.cell? ⟨b, o + j * 4 + 2, none⟩ = some (.int .i64 (M j).t) ∧ w.cell? ⟨b, o + j * 4 + 3, none⟩ = some (.int .i64 (M j).e)

theorem Ords.keep {w w' : World} {a : Option Addr} {n : Nat} {M : Nat → Q} (h : Ords w a n M) {B : Nat} (hB : w.heap.size ≤ B) (hb : Below B w w') : Ords w' a n M := by
  intro j hj
  obtain ⟨b, o, ha, c0, c1, c2, c3⟩ := h j hj
  have hlt := Nat.lt_of_lt_of_le (World.block_lt_of_cell? _ _ c0) hB
  exact ⟨b, o, ha, by rw [hb.cell (p := ⟨b, o + j * 4, none⟩) hlt]; exact c0, by rw [hb.cell (p := ⟨b, o + j * 4 + 1, none⟩) hlt]; exact c1,
    by rw [hb.cell (p := ⟨b, o + j * 4 + 2, none⟩) hlt]; exact c2, by rw [hb.cell (p := ⟨b, o + j * 4 + 3, none⟩) hlt]; exact c3⟩
theorem Ords.take {w : World} {a : Option Addr} {n k : Nat} {M : Nat → Q} (h : Ords w a n M) (hk : k ≤ n) : Ords w a k M := fun j hj => h j (Nat.lt_of_lt_of_le hj hk)
theorem Ords.congr {w : World} {a : Option Addr} {n : Nat} {M M' : Nat → Q} (h : Ords w a n M) (e : ∀ k, k < n → M k = M' k) : Ords w a n M' := by
  intro j hj
  obtain ⟨b, o, ha, hc⟩ := h j hj
  rw [e j hj] at hc
  exact ⟨b, o, ha, hc⟩
/-- The cells of the order k of a machine. -/
theorem Ords.at {w : World} {a : Option Addr} {n : Nat} {N : Nat → QN} (h : Ords w a n (fun k => (N k).z)) {k : Nat} (hk : k < n) : ∃ b o, a = some ⟨b, o, none⟩ ∧ w.cell? ⟨b, o + k * 4, none⟩ = some (.int .i64 ((N k).d : Int)) ∧
    w.cell? ⟨b, o + k * 4 + 1, none⟩ = some (.int .i64 ((N k).j : Int)) ∧ w.cell? ⟨b, o + k * 4 + 2, none⟩ = some (.int .i64 ((N k).t : Int)) ∧ w.cell? ⟨b, o + k * 4 + 3, none⟩ = some (.int .i64 ((N k).e : Int)) := h k hk

theorem two_le (w : World) (o1 o2 : Obj) : Below w.heap.size w ((w.alloc o1).alloc o2) := ((Below.refl _ w).alloc (Nat.le_refl _) _).alloc (by simp) _
theorem one_le (w : World) (o1 : Obj) : Below w.heap.size w (w.alloc o1) := (Below.refl _ w).alloc (Nat.le_refl _) _
theorem band {a b c : World} (h : Below a.heap.size a b) (k : Below b.heap.size b c) : Below a.heap.size a c := h.trans (k.mono h.size)
def SomeB (r : Bool) (w : World) (e : Ending) (w' : World) : Prop := e = .returned (.bool r) ∧ Below w.heap.size w w'

end Go.Proofs.Ytiegingpmcloeaa
