/-
  Plain facts on runs of a machine with two jars: more in the jars, circles, exchanging.
-/
import Derived.Test.YtiegingpmcloeaaMath1
namespace Go.Proofs.Ytiegingpmcloeaa
open Go.RowKit

/-- More in the jars. -/
def Pl.add (p : Pl) (a b : Nat) : Pl := ⟨p.o, p.x + a, p.y + b⟩
theorem add_end (N : Nat → QN) (p : Pl) (a b : Nat) : isEnd N (p.add a b) = isEnd N p := rfl
theorem stpQ_add (d j t e x y a b o : Nat) (hd : d = 1 ∨ d = 2) (h : noQ ⟨d, j, t, e⟩ ⟨o, x, y⟩ = true → (if j = 0 then a else b) = 0) :
    stpQ ⟨d, j, t, e⟩ ⟨o, x + a, y + b⟩ = (stpQ ⟨d, j, t, e⟩ ⟨o, x, y⟩).add a b := by
  unfold noQ Pl.jar at h
  unfold stpQ noQ Pl.jar Pl.add
  rcases hd with rfl | rfl
  · by_cases hj : j = 0 <;> simp [hj] <;> omega
  · by_cases hj : j = 0
    · subst hj
      by_cases hx : x = 0
      · subst hx; simp at h; simp [h]
      · simp [hx]; omega
    · by_cases hx : y = 0
      · subst hx; simp [hj] at h; simp [hj, h]
      · simp [hx, hj]; omega
theorem stp_add {N : Nat → QN} {p : Pl} {a b : Nat} (hd : (N p.o).d = 1 ∨ (N p.o).d = 2) (h : noB N p = true → (if (N p.o).j = 0 then a else b) = 0) :
    stp N (p.add a b) = (stp N p).add a b := stpQ_add _ _ _ _ _ _ _ _ _ hd h

theorem not_end {n : Nat} {N : Nat → QN} (h : okN n N) {p : Pl} (hp : p.o < n) (he : isEnd N p = false) : (N p.o).d = 1 ∨ (N p.o).d = 2 := by
  have := h.u p.o hp
  simp only [isEnd, decide_eq_false_iff_not] at he
  omega

/-- As long as the jar was never found empty, with more in it all is as before. -/
theorem pl_more {n : Nat} {N : Nat → QN} (h : okN n N) {s : Pl} (hs : s.o < n) {a b : Nat} : ∀ k, (∀ i, i < k → noB N (pl N s i) = true → (if (N (pl N s i).o).j = 0 then a else b) = 0) →
    pl N (s.add a b) k = (pl N s k).add a b ∧ dn N (s.add a b) k = dn N s k
  | 0, _ => ⟨rfl, rfl⟩
  | k + 1, hk => by
    obtain ⟨h1, h2⟩ := pl_more h hs k (fun i hi => hk i (by omega))
    simp only [pl, dn, h1, h2, add_end]
    cases e : isEnd N (pl N s k)
    · simp only [Bool.false_eq_true, if_false, and_true]
      exact stp_add (not_end h (pl_lt h hs k) e) (hk k (by omega))
    · simp

/-- A circle of a run. -/
def circ (N : Nat → QN) (P : Nat → Pl) (i j : Nat) : Prop :=
  (P i).o = (P j).o ∧ (P i).x ≤ (P j).x ∧ (P i).y ≤ (P j).y ∧ ∀ k, i ≤ k → k < j → noB N (P k) = true → (P i).jar (N (P k).o).j = (P j).jar (N (P k).o).j
def circR (N : Nat → QN) (P : Nat → Pl) (i j : Nat) : Prop :=
  (P i).o = (P j).o ∧ (P i).x ≤ (P j).x ∧ (P i).y ≤ (P j).y ∧ ∀ k, k < j - i → noB N (P (i + k)) = true → (P i).jar (N (P (i + k)).o).j = (P j).jar (N (P (i + k)).o).j
instance (N : Nat → QN) (P : Nat → Pl) (i j : Nat) : Decidable (circR N P i j) := by unfold circR; exact inferInstance
theorem circ_iff {N : Nat → QN} {P : Nat → Pl} {i j : Nat} : circR N P i j ↔ circ N P i j := by
  unfold circR circ
  refine ⟨fun ⟨h1, h2, h3, h4⟩ => ⟨h1, h2, h3, fun k hk hj hb => ?_⟩, fun ⟨h1, h2, h3, h4⟩ => ⟨h1, h2, h3, fun k hk hb => h4 (i + k) (by omega) (by omega) hb⟩⟩
  have := h4 (k - i) (by omega)
  rw [show i + (k - i) = k by omega] at this
  exact this hb
/-- Is the pair i, j a circle of the run? -/
def isC (N : Nat → QN) (s : Pl) (i j : Nat) : Bool := decide (circR N (pl N s) i j)
theorem isC_iff {N : Nat → QN} {s : Pl} {i j : Nat} : isC N s i j = true ↔ circ N (pl N s) i j := by simp [isC, circ_iff]
theorem isC_no {N : Nat → QN} {s : Pl} {i j : Nat} (h : ¬ circ N (pl N s) i j) : isC N s i j = false := by
  cases e : isC N s i j
  · rfl
  · exact absurd (isC_iff.1 e) h

/-- A run with a circle never ends. -/
theorem circ_never {n : Nat} {N : Nat → QN} (h : okN n N) {s : Pl} (hs : s.o < n) {i j : Nat} (hij : i < j) (hn : ∀ k, k < j → isEnd N (pl N s k) = false) (hc : circ N (pl N s) i j) :
    ∀ k, isEnd N (pl N s k) = false := by
  obtain ⟨c1, c2, c3, c4⟩ := hc
  obtain ⟨L, hL⟩ : ∃ L, j = i + L := ⟨j - i, by omega⟩
  obtain ⟨a, ha⟩ : ∃ a, (pl N s j).x = (pl N s i).x + a := ⟨(pl N s j).x - (pl N s i).x, by omega⟩
  obtain ⟨b, hb⟩ : ∃ b, (pl N s j).y = (pl N s i).y + b := ⟨(pl N s j).y - (pl N s i).y, by omega⟩
  have key : ∀ m t, t ≤ m → i ≤ t → pl N s (t + L) = (pl N s t).add a b ∧ isEnd N (pl N s t) = false ∧ (noB N (pl N s t) = true → (if (N (pl N s t).o).j = 0 then a else b) = 0) := by
    have base : pl N s (i + L) = (pl N s i).add a b := by
      rw [← hL]
      have : ∀ p q : Pl, p.o = q.o → q.x = p.x + a → q.y = p.y + b → q = p.add a b := by
        rintro ⟨o, x, y⟩ ⟨o', x', y'⟩ h1 h2 h3; simp only [Pl.add, Pl.mk.injEq] at *; exact ⟨h1.symm, h2, h3⟩
      exact this _ _ c1 ha hb
    have found : ∀ t, i ≤ t → t < j → noB N (pl N s t) = true → (if (N (pl N s t).o).j = 0 then a else b) = 0 := by
      intro t h1 h2 h3
      have := c4 t h1 h2 h3
      unfold Pl.jar at this
      split at this <;> rename_i hj <;> simp only [hj, if_true, if_false] <;> omega
    intro m
    induction m with
    | zero =>
      intro t ht hi
      have e : t = i := by omega
      subst e
      exact ⟨base, hn _ hij, found _ (Nat.le_refl _) hij⟩
    | succ m ih =>
      intro t ht hi
      by_cases hm : t ≤ m
      · exact ih t hm hi
      by_cases hti : t = i
      · subst hti; exact ⟨base, hn _ hij, found _ (Nat.le_refl _) hij⟩
      obtain ⟨u, rfl⟩ : ∃ u, t = u + 1 := ⟨t - 1, by omega⟩
      obtain ⟨e1, e2, e3⟩ := ih u (by omega) (by omega)
      have f1 : pl N s (u + 1 + L) = (pl N s (u + 1)).add a b := by
        rw [show u + 1 + L = u + L + 1 by omega, pl_succ (by rw [e1, add_end]; exact e2), pl_succ e2, e1]
        exact stp_add (not_end h (pl_lt h hs u) e2) e3
      by_cases hj : u + 1 < j
      · exact ⟨f1, hn _ hj, found _ (by omega) hj⟩
      · obtain ⟨g1, g2, g3⟩ := ih (u + 1 - L) (by omega) (by omega)
        rw [show u + 1 - L + L = u + 1 by omega] at g1
        refine ⟨f1, by rw [g1, add_end]; exact g2, fun hb => ?_⟩
        rw [g1] at hb ⊢
        have ho : ((pl N s (u + 1 - L)).add a b).o = (pl N s (u + 1 - L)).o := rfl
        rw [ho]
        refine g3 ?_
        generalize pl N s (u + 1 - L) = p at hb
        have hb' := of_decide_eq_true hb
        refine decide_eq_true ⟨hb'.1, ?_⟩
        have h2 := hb'.2
        unfold Pl.jar Pl.add at h2
        unfold Pl.jar
        simp only at h2
        split at h2 <;> rename_i hq <;> simp only [hq, if_true, if_false] <;> omega
  intro k
  by_cases hk : i ≤ k
  · exact (key k k (Nat.le_refl _) hk).2.1
  · exact hn k (by omega)

/-- The same place twice is a circle. -/
theorem circ_same {N : Nat → QN} {s : Pl} {i j : Nat} (h : pl N s i = pl N s j) : circ N (pl N s) i j := by
  unfold circ
  rw [h]
  exact ⟨rfl, Nat.le_refl _, Nat.le_refl _, fun _ _ _ _ => rfl⟩

/-- The jars exchanged. -/
def Pl.sw (p : Pl) : Pl := ⟨p.o, p.y, p.x⟩
def swQ (q : QN) : QN := if q.d = 0 then q else ⟨q.d, 1 - q.j, q.t, q.e⟩
def swN (N : Nat → QN) (k : Nat) : QN := swQ (N k)
theorem swN_d (N : Nat → QN) (k : Nat) : (swN N k).d = (N k).d := by unfold swN swQ; split <;> rfl
theorem sw_end (N : Nat → QN) (p : Pl) : isEnd (swN N) p.sw = isEnd N p := by unfold isEnd; rw [swN_d]; rfl
theorem sw_jar {q : QN} (p : Pl) (hj : q.j ≤ 1) (hd : q.d ≠ 0) : p.sw.jar (swQ q).j = p.jar q.j := by
  unfold swQ Pl.jar Pl.sw
  simp only [hd, if_false]
  have : q.j = 0 ∨ q.j = 1 := by omega
  rcases this with e | e <;> simp [e]
theorem sw_noB {n : Nat} {N : Nat → QN} (h : okN n N) {p : Pl} (hp : p.o < n) : noB (swN N) p.sw = noB N p := by
  unfold noB noQ
  rw [swN_d]
  by_cases hd : (N p.o).d = 2
  · have := sw_jar p (h.j p.o hp) (by omega)
    have ho : p.sw.o = p.o := rfl
    rw [ho]; unfold swN; rw [this]
  · have ho : p.sw.o = p.o := rfl
    rw [ho]; simp [hd]
theorem sw_stp {n : Nat} {N : Nat → QN} (h : okN n N) {p : Pl} (hp : p.o < n) (he : isEnd N p = false) : stp (swN N) p.sw = (stp N p).sw := by
  have hd := not_end h hp he
  have hj := h.j p.o hp
  have e : swN N p.o = ⟨(N p.o).d, 1 - (N p.o).j, (N p.o).t, (N p.o).e⟩ := by unfold swN swQ; rw [if_neg (by omega)]
  have ho : p.sw.o = p.o := rfl
  have hb := sw_noB h hp
  unfold noB at hb
  unfold stp stpQ
  rw [hb, ho, e]
  have : (N p.o).j = 0 ∨ (N p.o).j = 1 := by omega
  split
  · rfl
  · split <;> rcases this with j | j <;> simp [j, Pl.sw]
theorem sw_pl {n : Nat} {N : Nat → QN} (h : okN n N) {s : Pl} (hs : s.o < n) : ∀ k, pl (swN N) s.sw k = (pl N s k).sw ∧ dn (swN N) s.sw k = dn N s k
  | 0 => ⟨rfl, rfl⟩
  | k + 1 => by
    obtain ⟨h1, h2⟩ := sw_pl h hs k
    simp only [pl, dn, h1, h2, sw_end]
    cases e : isEnd N (pl N s k)
    · simp only [Bool.false_eq_true, if_false, and_true]; exact sw_stp h (pl_lt h hs k) e
    · simp
theorem sw_ok {n : Nat} {N : Nat → QN} (h : okN n N) : okN n (swN N) := by
  refine ⟨h.pos, h.few, ?_, ?_, ?_, ?_⟩ <;> intro k hk <;> have := h.j k hk <;> have := h.t k hk <;> have := h.e k hk <;> have := h.u k hk <;> (unfold swN swQ; split <;> (try simp only) <;> omega)
theorem sw_circ {n : Nat} {N : Nat → QN} (h : okN n N) {s : Pl} (hs : s.o < n) (i j : Nat) : isC (swN N) s.sw i j = isC N s i j := by
  have e : circ (swN N) (pl (swN N) s.sw) i j ↔ circ N (pl N s) i j := by
    unfold circ
    simp only [(sw_pl h hs _).1]
    constructor
    · rintro ⟨h1, h2, h3, h4⟩
      refine ⟨h1, h3, h2, fun k hk hkj hb => ?_⟩
      have hd : (N (pl N s k).o).d ≠ 0 := by simp only [noB, noQ, decide_eq_true_eq] at hb; omega
      have := h4 k hk hkj (by rw [sw_noB h (pl_lt h hs k)]; exact hb)
      have ho : (pl N s k).sw.o = (pl N s k).o := rfl
      rw [ho] at this; unfold swN at this
      rwa [sw_jar _ (h.j _ (pl_lt h hs k)) hd, sw_jar _ (h.j _ (pl_lt h hs k)) hd] at this
    · rintro ⟨h1, h2, h3, h4⟩
      refine ⟨h1, h3, h2, fun k hk hkj hb => ?_⟩
      rw [sw_noB h (pl_lt h hs k)] at hb
      have hd : (N (pl N s k).o).d ≠ 0 := by simp only [noB, noQ, decide_eq_true_eq] at hb; omega
      have := h4 k hk hkj hb
      have ho : (pl N s k).sw.o = (pl N s k).o := rfl
      rw [ho]; unfold swN
      rwa [sw_jar _ (h.j _ (pl_lt h hs k)) hd, sw_jar _ (h.j _ (pl_lt h hs k)) hd]
  cases e2 : isC N s i j
  · exact isC_no fun hh => by rw [isC_iff.2 (e.1 hh)] at e2; cases e2
  · exact isC_iff.2 (e.2 (isC_iff.1 e2))

end Go.Proofs.Ytiegingpmcloeaa
