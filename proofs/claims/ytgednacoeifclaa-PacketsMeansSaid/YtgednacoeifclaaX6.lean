import Derived.Test.YtgednacoeifclaaP5
import Derived.Test.YtgednacoeifclaaL2
namespace Go.Proofs.Ytgednacoeifclaa
open Go.RowKit Go.Shelf

theorem frA_dvd {a : Int} {L : Nat} (g : Nat) (h : g = Nat.gcd a.natAbs L) : frA a L * (g : Int) = a ∧ frB a L * g = L := by
  subst h; exact ⟨frA_mul a L, frB_mul a L⟩
theorem fr_lowest {a : Int} {L : Nat} (hL : 0 < L) : Nat.gcd (frA a L).natAbs (frB a L) = 1 := by
  have ha := frA_mul a L
  have hb := frB_mul a L
  have hg := fr_gpos a hL
  have h2 : Nat.gcd ((frA a L).natAbs * Nat.gcd a.natAbs L) (frB a L * Nat.gcd a.natAbs L) = Nat.gcd a.natAbs L := by
    rw [hb]
    have : (frA a L).natAbs * Nat.gcd a.natAbs L = a.natAbs := by
      have := congrArg Int.natAbs ha
      rw [Int.natAbs_mul] at this
      simpa using this
    rw [this]
  rw [Nat.gcd_mul_right] at h2
  exact Nat.eq_of_mul_eq_mul_right hg (by rw [h2, Nat.one_mul])
theorem fr_is {a : Int} {L : Nat} (h : Nat.gcd a.natAbs L = 1) : frA a L = a ∧ frB a L = L := by
  unfold frA frB; rw [h]; simp
/-- The product of two fractions, as it is worked out. -/
theorem fr_mul (X Y : Int) {K P : Nat} (hK : 0 < K) (hP : 0 < P) :
    frA (frA X K) (frB Y P) * frA (frA Y P) (frB X K) = frA (X * Y) (K * P) ∧ frB (frA X K) (frB Y P) * frB (frA Y P) (frB X K) = frB (X * Y) (K * P) := by
  have l1 := fr_lowest (a := X) hK
  have l2 := fr_lowest (a := Y) hP
  have x1 := frA_mul X K
  have x2 := frB_mul X K
  have y1 := frA_mul Y P
  have y2 := frB_mul Y P
  have pb := frB_pos X hK
  have pd := frB_pos Y hP
  generalize Nat.gcd X.natAbs K = gx at *
  generalize Nat.gcd Y.natAbs P = gy at *
  generalize frA X K = A at *
  generalize frB X K = B at *
  generalize frA Y P = C at *
  generalize frB Y P = D at *
  have m1 := fr_lowest (a := A) pd
  have m2 := fr_lowest (a := C) pb
  have u1 := frA_mul A D
  have u2 := frB_mul A D
  have v1 := frA_mul C B
  have v2 := frB_mul C B
  generalize Nat.gcd A.natAbs D = g1 at *
  generalize Nat.gcd C.natAbs B = g2 at *
  have pq := frB_pos A pd
  have pr := frB_pos C pb
  generalize frA A D = a at *
  generalize frB A D = d at *
  generalize frA C B = c at *
  generalize frB C B = b at *
  have co1 : Nat.Coprime a.natAbs b := by
    have h1 : a.natAbs ∣ A.natAbs := ⟨g1, by rw [← u1, Int.natAbs_mul, Int.natAbs_natCast]⟩
    have h2 : b ∣ B := ⟨g2, v2.symm⟩
    exact Nat.Coprime.coprime_dvd_left h1 (Nat.Coprime.coprime_dvd_right h2 l1)
  have co2 : Nat.Coprime c.natAbs d := by
    have h1 : c.natAbs ∣ C.natAbs := ⟨g2, by rw [← v1, Int.natAbs_mul, Int.natAbs_natCast]⟩
    have h2 : d ∣ D := ⟨g1, u2.symm⟩
    exact Nat.Coprime.coprime_dvd_left h1 (Nat.Coprime.coprime_dvd_right h2 l2)
  have co : Nat.gcd (a * c).natAbs (d * b) = 1 := by
    rw [Int.natAbs_mul]
    exact Nat.Coprime.mul_left (Nat.Coprime.mul_right m1 co1) (Nat.Coprime.mul_right co2 m2)
  have hs := fr_same (a := a * c) (b := X * Y) (L := d * b) (K := K * P) (Nat.mul_pos pq pr) (Nat.mul_pos hK hP) (by
    rw [← x1, ← x2, ← y1, ← y2, ← u1, ← v1, ← u2, ← v2]
    simp only [Int.natCast_mul]
    grind)
  have hi := fr_is co
  rw [hi.1, hi.2] at hs
  exact hs

/-- A later world of a region over two boxes. -/
structure Late (W W' : World) (b d : Nat) (A : Int) (B : Nat) (C : Int) (D : Nat) : Prop where
  t : TwoAt W' b d A B C D
  hb : Below W.heap.size W W'
theorem late0 {W W' : World} {b d : Nat} {A : Int} {B : Nat} {C : Int} {D : Nat} (h : TwoAt W b d A B C D) (hb : Below W.drew.heap.size W.drew W') : Late W W' b d A B C D := ⟨h.keep (below_drew1 hb), below_drew1 hb⟩
theorem late0a {W W' : World} {o : Obj} {b d : Nat} {A : Int} {B : Nat} {C : Int} {D : Nat} (h : TwoAt W b d A B C D) (hb : Below (W.alloc o).drew.heap.size (W.alloc o).drew W') : Late W W' b d A B C D := ⟨h.keep (below_al1 hb), below_al1 hb⟩
theorem late0b {W W' : World} {o o2 : Obj} {b d : Nat} {A : Int} {B : Nat} {C : Int} {D : Nat} (h : TwoAt W b d A B C D) (hb : Below ((W.alloc o).alloc o2).drew.heap.size ((W.alloc o).alloc o2).drew W') : Late W W' b d A B C D :=
  have hb' : Below W.heap.size W W' := (below_one W o).trans ((below_al1 hb).mono (by simp))
  ⟨h.keep hb', hb'⟩
theorem late1 {W W1 W' : World} {b d : Nat} {A : Int} {B : Nat} {C : Int} {D : Nat} (h : Late W W1 b d A B C D) (hb : Below W1.heap.size W1 W') : Late W W' b d A B C D := ⟨h.t.keep hb, h.hb.trans (hb.mono h.hb.size)⟩
theorem late1a {W W1 W' : World} {o : Obj} {b d : Nat} {A : Int} {B : Nat} {C : Int} {D : Nat} (h : Late W W1 b d A B C D) (hb : Below (W1.alloc o).heap.size (W1.alloc o) W') : Late W W' b d A B C D := late1 h ((below_one W1 o).trans (hb.mono (by simp)))

theorem blk_al2 {W w1 : World} {o o2 : Obj} (h : Below ((W.alloc o).alloc o2).drew.heap.size ((W.alloc o).alloc o2).drew w1) : w1.heap[W.heap.size]? = some o ∧ w1.heap[W.heap.size + 1]? = some o2 :=
  ⟨(h.block W.heap.size (by show W.heap.size < ((W.alloc o).alloc o2).heap.size; simp; omega)).trans (heap_two1 W o o2), (h.block (W.heap.size + 1) (by show W.heap.size + 1 < ((W.alloc o).alloc o2).heap.size; simp)).trans (heap_two2 W o o2)⟩
theorem blk_nl1 {W w1 : World} {o : Obj} (h : Below (W.alloc o).heap.size (W.alloc o) w1) : w1.heap[W.heap.size]? = some o ∧ Below W.heap.size W w1 :=
  ⟨(h.block W.heap.size (by simp)).trans (heap_alloc_new W o), (below_one W o).trans (h.mono (by simp))⟩
theorem blk_nl2 {W w1 : World} {o o2 : Obj} (h : Below ((W.alloc o).alloc o2).heap.size ((W.alloc o).alloc o2) w1) : w1.heap[W.heap.size]? = some o ∧ w1.heap[W.heap.size + 1]? = some o2 ∧ Below W.heap.size W w1 :=
  ⟨(h.block W.heap.size (by simp; omega)).trans (heap_two1 W o o2), (h.block (W.heap.size + 1) (by simp)).trans (heap_two2 W o o2), (below_two W o o2).trans (h.mono (by simp; omega))⟩
theorem bel_al {W V : World} (h : Below W.heap.size W V) (o : Obj) : Below W.heap.size W (V.alloc o) := h.alloc h.size o
theorem bel_st {W V : World} {p : Nat} (hp : W.heap.size ≤ p) (h : Below W.heap.size W V) (u v : Value) : Below W.heap.size W ((V.setCell ⟨p, 0, none⟩ u).setCell ⟨p, 1, none⟩ v) := (h.setCell (p := ⟨p, 0, none⟩) hp u).setCell (p := ⟨p, 1, none⟩) hp v
theorem blk_lt {W : World} {k : Nat} {o : Obj} (h : W.heap[k]? = some o) : k < W.heap.size := (Array.getElem?_eq_some_iff.1 h).1
theorem keep_blk {W W' : World} {k : Nat} {o : Obj} (h : W.heap[k]? = some o) (hb : Below W.heap.size W W') : W'.heap[k]? = some o := (hb.block k (blk_lt h)).trans h
theorem ne_size {W : World} {k : Nat} {o : Obj} (h : W.heap[k]? = some o) : W.heap.size ≠ k := by have := blk_lt h; omega
theorem set_other {W : World} {p q : Nat} {o : Obj} (h : W.heap[q]? = some o) (hne : q ≠ p) (u v : Value) : ((W.setCell ⟨p, 0, none⟩ u).setCell ⟨p, 1, none⟩ v).heap[q]? = some o :=
  ((Below.heap_setCell _ _ _ q (fun e => hne e)).trans (Below.heap_setCell _ _ _ q (fun e => hne e))).trans h

theorem set_same {W : World} {p : Nat} {a b : Value} {T : TypeId} (h : W.heap[p]? = some (.cells #[a, b] T)) (u v : Value) : ((W.setCell ⟨p, 0, none⟩ u).setCell ⟨p, 1, none⟩ v).heap[p]? = some (.cells #[u, v] T) := set_block (set_block h _) _
theorem set_else {W : World} {p q : Nat} {o : Obj} (hne : q ≠ p) (h : W.heap[q]? = some o) (u v : Value) : ((W.setCell ⟨p, 0, none⟩ u).setCell ⟨p, 1, none⟩ v).heap[q]? = some o := set_other h hne u v
theorem alloc_else {W : World} {q : Nat} {o : Obj} (h : W.heap[q]? = some o) (o2 : Obj) : (W.alloc o2).heap[q]? = some o := keep_blk h (below_one W o2)
set_option maxHeartbeats 20000000 in
set_option maxRecDepth 100000 in
theorem rtimes_any (X Y : Int) (K P : Nat) (w : World) (hK : 1 ≤ K) (hP : 1 ≤ P) (hX : X.natAbs ≤ 4611686018427387903) (hY : Y.natAbs ≤ 4611686018427387903) (hKM : K ≤ 4611686018427387903) (hPM : P ≤ 4611686018427387903)
    (h1 : (frA (X * Y) (K * P)).natAbs ≤ 9223372036854775807) (h2 : frB (X * Y) (K * P) ≤ 4611686018427387903) :
    Calls Try.prog 56 #[.agg #[.int .i64 (frA X K), .int .i64 (frB X K : Nat)], .agg #[.int .i64 (frA Y P), .int .i64 (frB Y P : Nat)]] w fun e w' => QOut (X * Y) (K * P) w e w' := by
  have hm := fr_mul X Y hK hP
  have a1 := frA_abs X hK
  have a2 := frA_abs Y hP
  have b1 := frB_le X K
  have b2 := frB_le Y P
  have p1 := frB_pos X hK
  have p2 := frB_pos Y hP
  rw [← hm.1] at h1
  rw [← hm.2] at h2
  unfold QOut
  rw [← hm.1, ← hm.2]
  generalize frA X K = A at *
  generalize frB X K = B at *
  generalize frA Y P = C at *
  generalize frB Y P = D at *
  have hf1 := fun W => rfrac_any A D W (by omega) (by omega) (by omega) p2
  have hf2 := fun W => rfrac_any C B W (by omega) (by omega) (by omega) p1
  unfold QOut at hf1 hf2
  have HF1 := Lib.hid hf1
  have HF2 := Lib.hid hf2
  generalize frA A D = a at *
  generalize frB A D = d at *
  generalize frA C B = c at *
  generalize frB C B = b at *
  obtain ⟨U, hU⟩ : ∃ U : Int, U = a * c := ⟨_, rfl⟩
  obtain ⟨V, hV⟩ : ∃ V : Nat, V = d * b := ⟨_, rfl⟩
  have hw1 : wrap64 (a * c) = U := by rw [← hU]; rw [← hU] at h1; exact IntWalk.wrap64_in _ ⟨by omega, by omega⟩
  have hw2 : wrap64 ((d : Int) * (b : Int)) = V := by rw [← Int.natCast_mul, ← hV]; rw [← hV] at h2; exact IntWalk.wrap64_in _ ⟨by omega, by omega⟩
  rw [← hU, ← hV]
  clear hf1 hf2 hm hU hV h1 h2 a1 a2 b1 b2
  go_enter Try.func56, Try.ntmps56
  go_wp2_with fail
  obtain ⟨W, hW⟩ : ∃ W, W = (((w.alloc (.cells #[.int .i64 A, .int .i64 (B : Int)] 24)).alloc (.cells #[.int .i64 C, .int .i64 (D : Int)] 24)).alloc (.cells #[.int .i64 0, .int .i64 0] 24)) := ⟨_, rfl⟩
  rw [← hW]
  have HBW : Hid (Below w.heap.size w W) := by rw [hW]; exact (below_two _ _ _).alloc (by simp; omega) _
  have hs3 : W.heap.size = w.heap.size + 3 := by rw [hW]; simp
  have e0 : W.heap[w.heap.size]? = some (.cells #[.int .i64 A, .int .i64 (B : Int)] 24) := by rw [hW]; exact heap_three0 w _ _ _
  have e1 : W.heap[w.heap.size + 1]? = some (.cells #[.int .i64 C, .int .i64 (D : Int)] 24) := by rw [hW]; exact heap_three1 w _ _ _
  have e2 : W.heap[w.heap.size + 1 + 1]? = some (.cells #[.int .i64 0, .int .i64 0] 24) := by rw [hW]; exact heap_three w _ _ _
  obtain ⟨q1, q2, _, _⟩ := fr_cells e0
  obtain ⟨q3, q4, _, _⟩ := fr_cells e1
  have HT : Hid (TwoAt W w.heap.size (w.heap.size + 1) A B C D) := ⟨e0, e1⟩
  have HE2 := Lib.hid e2
  have HS3 := Lib.hid hs3
  clear hW e0 e1 e2 hs3
  go_cut [5, 6] (fun s5 s6 wc => ∃ p5 p6, s5 = .pointer (some ⟨p5, 0, none⟩) ∧ s6 = .pointer (some ⟨p6, 0, none⟩) ∧ TwoAt wc p5 p6 a d c b ∧ Below W.heap.size W wc)
  case first =>
    go_region_held3 (fun w' => w'.cell? ⟨w.heap.size, 0, none⟩ = some (.int .i64 A) ∧ w'.cell? ⟨w.heap.size, 1, none⟩ = some (.int .i64 (B : Int)) ∧ w'.cell? ⟨w.heap.size + 1, 0, none⟩ = some (.int .i64 C) ∧ w'.cell? ⟨w.heap.size + 1, 1, none⟩ = some (.int .i64 (D : Int)))
      (first
        | (go_split_ands; with_reducible exact (HT.out).cells)
        | (go_split_ands; with_reducible exact (HT1.out).cells)
        | (go_split_ands; with_reducible exact (HT2.out).cells)
        | (go_split_ands; with_reducible exact (TwoAt.keep HT.out (by repeat' (first | with_reducible exact HL2.out.hb | with_reducible exact HL1.out.hb | with_reducible exact Below.refl _ _ | with_reducible refine Below.drew ?_ | with_reducible refine bel_al ?_ _ | (with_reducible refine bel_st ?_ ?_ _ _; omega)))).cells)
        | go_keep)
      ((first
        | ((with_reducible refine (HF1.out _).mono ?_); rintro e w1 ⟨rfl, hb1⟩; (first | have HL1 := Lib.hid (late0 HT.out hb1) | (have HL1 := Lib.hid (late0a HT.out hb1); have HY := Lib.hid (blk_al1 hb1)) | (have HL1 := Lib.hid (late0b HT.out hb1); have HY := Lib.hid (blk_al2 hb1).1; have HYb := Lib.hid (blk_al2 hb1).2)); have HT1 := Lib.hid HL1.out.t)
        | ((with_reducible refine (HF2.out _).mono ?_); rintro e w2 ⟨rfl, hb2⟩; have hz01 := HL1.out.hb.size; (first | (have HL2 := Lib.hid (late1 HL1.out hb2); have hb12 := hb2; have hz12 := hb12.size; (first | (have HY2 := Lib.hid (keep_blk HY.out hb12); have HY3 := Lib.hid (keep_blk HYb.out hb12); have k1 := fr_cells (HY2.out); obtain ⟨k1a, k1b, k1c, k1d⟩ := k1; have k2 := fr_cells (HY3.out); obtain ⟨k2a, k2b, k2c, k2d⟩ := k2; have k3 := fr_cells (set_other (W := w2) (p := W.heap.size) HY3.out (by omega) (.int .i64 a) (.int .i64 (d : Int))); obtain ⟨k3a, k3b, k3c, k3d⟩ := k3; have k4 := fr_cells (set_other (W := w2) (p := (W.heap.size + 1)) HY2.out (by omega) (.int .i64 a) (.int .i64 (d : Int))); obtain ⟨k4a, k4b, k4c, k4d⟩ := k4; have k5 := fr_cells (set_other (W := w2) (p := W.heap.size) HY3.out (by omega) (.int .i64 c) (.int .i64 (b : Int))); obtain ⟨k5a, k5b, k5c, k5d⟩ := k5; have k6 := fr_cells (set_other (W := w2) (p := (W.heap.size + 1)) HY2.out (by omega) (.int .i64 c) (.int .i64 (b : Int))); obtain ⟨k6a, k6b, k6c, k6d⟩ := k6) | (have HY2 := Lib.hid (keep_blk HY.out hb12); have hzy := blk_lt HY.out; have k7 := fr_cells (HY2.out); obtain ⟨k7a, k7b, k7c, k7d⟩ := k7; have k8 := fr_cells (frAt HY2.out (below_one w2 (.cells #[.int .i64 0, .int .i64 0] 24))); obtain ⟨k8a, k8b, k8c, k8d⟩ := k8; have k9 := fr_cells (frAt HY2.out (below_one w2 (.cells #[.int .i64 a, .int .i64 (d : Int)] 24))); obtain ⟨k9a, k9b, k9c, k9d⟩ := k9; have k10 := fr_cells (frAt HY2.out (below_one w2 (.cells #[.int .i64 c, .int .i64 (b : Int)] 24))); obtain ⟨k10a, k10b, k10c, k10d⟩ := k10; have k11 := fr_cells (set_other (W := w2.alloc (.cells #[.int .i64 0, .int .i64 0] 24)) (p := W.heap.size) (heap_alloc_new w2 (.cells #[.int .i64 0, .int .i64 0] 24)) (ne_size HY2.out) (.int .i64 a) (.int .i64 (d : Int))); obtain ⟨k11a, k11b, k11c, k11d⟩ := k11; have k12 := fr_cells (set_other (W := w2.alloc (.cells #[.int .i64 0, .int .i64 0] 24)) (p := W.heap.size) (heap_alloc_new w2 (.cells #[.int .i64 0, .int .i64 0] 24)) (ne_size HY2.out) (.int .i64 c) (.int .i64 (b : Int))); obtain ⟨k12a, k12b, k12c, k12d⟩ := k12) | (have y201 := fr_cells (heap_two1 w2 (.cells #[.int .i64 0, .int .i64 0] 24) (.cells #[.int .i64 0, .int .i64 0] 24)); obtain ⟨y201a, y201b, y201c, y201d⟩ := y201; have y202 := fr_cells (heap_two2 w2 (.cells #[.int .i64 0, .int .i64 0] 24) (.cells #[.int .i64 0, .int .i64 0] 24)); obtain ⟨y202a, y202b, y202c, y202d⟩ := y202; have y211 := fr_cells (heap_two1 w2 (.cells #[.int .i64 a, .int .i64 (d : Int)] 24) (.cells #[.int .i64 0, .int .i64 0] 24)); obtain ⟨y211a, y211b, y211c, y211d⟩ := y211; have y212 := fr_cells (heap_two2 w2 (.cells #[.int .i64 a, .int .i64 (d : Int)] 24) (.cells #[.int .i64 0, .int .i64 0] 24)); obtain ⟨y212a, y212b, y212c, y212d⟩ := y212; have y221 := fr_cells (heap_two1 w2 (.cells #[.int .i64 0, .int .i64 0] 24) (.cells #[.int .i64 c, .int .i64 (b : Int)] 24)); obtain ⟨y221a, y221b, y221c, y221d⟩ := y221; have y222 := fr_cells (heap_two2 w2 (.cells #[.int .i64 0, .int .i64 0] 24) (.cells #[.int .i64 c, .int .i64 (b : Int)] 24)); obtain ⟨y222a, y222b, y222c, y222d⟩ := y222; have y231 := fr_cells (heap_two1 w2 (.cells #[.int .i64 a, .int .i64 (d : Int)] 24) (.cells #[.int .i64 c, .int .i64 (b : Int)] 24)); obtain ⟨y231a, y231b, y231c, y231d⟩ := y231; have y232 := fr_cells (heap_two2 w2 (.cells #[.int .i64 a, .int .i64 (d : Int)] 24) (.cells #[.int .i64 c, .int .i64 (b : Int)] 24)); obtain ⟨y232a, y232b, y232c, y232d⟩ := y232; have y241 := fr_cells (heap_two1 w2 (.cells #[.int .i64 0, .int .i64 0] 24) (.cells #[.int .i64 a, .int .i64 (d : Int)] 24)); obtain ⟨y241a, y241b, y241c, y241d⟩ := y241; have y242 := fr_cells (heap_two2 w2 (.cells #[.int .i64 0, .int .i64 0] 24) (.cells #[.int .i64 a, .int .i64 (d : Int)] 24)); obtain ⟨y242a, y242b, y242c, y242d⟩ := y242; have y251 := fr_cells (heap_two1 w2 (.cells #[.int .i64 c, .int .i64 (b : Int)] 24) (.cells #[.int .i64 0, .int .i64 0] 24)); obtain ⟨y251a, y251b, y251c, y251d⟩ := y251; have y252 := fr_cells (heap_two2 w2 (.cells #[.int .i64 c, .int .i64 (b : Int)] 24) (.cells #[.int .i64 0, .int .i64 0] 24)); obtain ⟨y252a, y252b, y252c, y252d⟩ := y252; have y261 := fr_cells (heap_two1 w2 (.cells #[.int .i64 c, .int .i64 (b : Int)] 24) (.cells #[.int .i64 a, .int .i64 (d : Int)] 24)); obtain ⟨y261a, y261b, y261c, y261d⟩ := y261; have y262 := fr_cells (heap_two2 w2 (.cells #[.int .i64 c, .int .i64 (b : Int)] 24) (.cells #[.int .i64 a, .int .i64 (d : Int)] 24)); obtain ⟨y262a, y262b, y262c, y262d⟩ := y262))) | (have HL2 := Lib.hid (late1a HL1.out hb2); have HX := Lib.hid (blk_nl1 hb2).1; have hb12 := (blk_nl1 hb2).2; have hz12 := hb12.size; (first | (have HY2 := Lib.hid (keep_blk HY.out hb12); have hzy := blk_lt HY.out; have k13 := fr_cells (HY2.out); obtain ⟨k13a, k13b, k13c, k13d⟩ := k13; have k14 := fr_cells (HX.out); obtain ⟨k14a, k14b, k14c, k14d⟩ := k14; have k15 := fr_cells (set_other (W := w2) (p := W.heap.size) HX.out (by omega) (.int .i64 a) (.int .i64 (d : Int))); obtain ⟨k15a, k15b, k15c, k15d⟩ := k15; have k16 := fr_cells (set_other (W := w2) (p := w1.heap.size) HY2.out (by omega) (.int .i64 a) (.int .i64 (d : Int))); obtain ⟨k16a, k16b, k16c, k16d⟩ := k16; have k17 := fr_cells (set_other (W := w2) (p := W.heap.size) HX.out (by omega) (.int .i64 c) (.int .i64 (b : Int))); obtain ⟨k17a, k17b, k17c, k17d⟩ := k17; have k18 := fr_cells (set_other (W := w2) (p := w1.heap.size) HY2.out (by omega) (.int .i64 c) (.int .i64 (b : Int))); obtain ⟨k18a, k18b, k18c, k18d⟩ := k18) | (have k19 := fr_cells (HX.out); obtain ⟨k19a, k19b, k19c, k19d⟩ := k19; have k20 := fr_cells (frAt HX.out (below_one w2 (.cells #[.int .i64 0, .int .i64 0] 24))); obtain ⟨k20a, k20b, k20c, k20d⟩ := k20; have k21 := fr_cells (frAt HX.out (below_one w2 (.cells #[.int .i64 a, .int .i64 (d : Int)] 24))); obtain ⟨k21a, k21b, k21c, k21d⟩ := k21; have k22 := fr_cells (frAt HX.out (below_one w2 (.cells #[.int .i64 c, .int .i64 (b : Int)] 24))); obtain ⟨k22a, k22b, k22c, k22d⟩ := k22; have k23 := fr_cells (set_other (W := w2.alloc (.cells #[.int .i64 0, .int .i64 0] 24)) (p := w1.heap.size) (heap_alloc_new w2 (.cells #[.int .i64 0, .int .i64 0] 24)) (ne_size HX.out) (.int .i64 a) (.int .i64 (d : Int))); obtain ⟨k23a, k23b, k23c, k23d⟩ := k23; have k24 := fr_cells (set_other (W := w2.alloc (.cells #[.int .i64 0, .int .i64 0] 24)) (p := w1.heap.size) (heap_alloc_new w2 (.cells #[.int .i64 0, .int .i64 0] 24)) (ne_size HX.out) (.int .i64 c) (.int .i64 (b : Int))); obtain ⟨k24a, k24b, k24c, k24d⟩ := k24))) | (have HL2 := Lib.hid (late1 HL1.out (blk_nl2 hb2).2.2); have HX := Lib.hid (blk_nl2 hb2).1; have HX1 := Lib.hid (blk_nl2 hb2).2.1; have hb12 := (blk_nl2 hb2).2.2; have hz12 := hb12.size; have k25 := fr_cells (HX.out); obtain ⟨k25a, k25b, k25c, k25d⟩ := k25; have k26 := fr_cells (HX1.out); obtain ⟨k26a, k26b, k26c, k26d⟩ := k26; have k27 := fr_cells (set_other (W := w2) (p := w1.heap.size) HX1.out (by omega) (.int .i64 a) (.int .i64 (d : Int))); obtain ⟨k27a, k27b, k27c, k27d⟩ := k27; have k28 := fr_cells (set_other (W := w2) (p := (w1.heap.size + 1)) HX.out (by omega) (.int .i64 a) (.int .i64 (d : Int))); obtain ⟨k28a, k28b, k28c, k28d⟩ := k28; have k29 := fr_cells (set_other (W := w2) (p := w1.heap.size) HX1.out (by omega) (.int .i64 c) (.int .i64 (b : Int))); obtain ⟨k29a, k29b, k29c, k29d⟩ := k29; have k30 := fr_cells (set_other (W := w2) (p := (w1.heap.size + 1)) HX.out (by omega) (.int .i64 c) (.int .i64 (b : Int))); obtain ⟨k30a, k30b, k30c, k30d⟩ := k30)); have HT2 := Lib.hid HL2.out.t; clear hb2 hb12)))
    all_goals
      (first | have hlx := blk_lt HX.out | skip)
      (first | have hlx1 := blk_lt HX1.out | skip)
      (first | have hly := blk_lt HY.out | skip)
      (first | have hlyb := blk_lt HYb.out | skip)
      (first | have hly2 := blk_lt HY2.out | skip)
      (first | have hly3 := blk_lt HY3.out | skip)
      go_wp2
      go_meet
    all_goals
      first
        | exact ⟨_, _, rfl, rfl, ⟨by with_reducible exact heap_two1 w2 _ _, by with_reducible exact heap_two2 w2 _ _⟩, (by repeat' (first | with_reducible exact HL2.out.hb | with_reducible refine bel_al ?_ _ | (with_reducible refine bel_st ?_ ?_ _ _; omega)))⟩
        | exact ⟨_, _, rfl, rfl, ⟨by with_reducible exact heap_two2 w2 _ _, by with_reducible exact heap_two1 w2 _ _⟩, (by repeat' (first | with_reducible exact HL2.out.hb | with_reducible refine bel_al ?_ _ | (with_reducible refine bel_st ?_ ?_ _ _; omega)))⟩
        | exact ⟨_, _, rfl, rfl, ⟨(by repeat' (first | with_reducible exact HX.out | with_reducible exact HX1.out | with_reducible exact HY2.out | with_reducible exact HY3.out | with_reducible exact heap_alloc_new _ _ | with_reducible refine set_same (a := .int .i64 0) (b := .int .i64 0) ?_ _ _ | (with_reducible refine set_else ?_ ?_ _ _; omega) | (with_reducible refine alloc_else ?_ _))), (by repeat' (first | with_reducible exact HX.out | with_reducible exact HX1.out | with_reducible exact HY2.out | with_reducible exact HY3.out | with_reducible exact heap_alloc_new _ _ | with_reducible refine set_same (a := .int .i64 0) (b := .int .i64 0) ?_ _ _ | (with_reducible refine set_else ?_ ?_ _ _; omega) | (with_reducible refine alloc_else ?_ _)))⟩, (by repeat' (first | with_reducible exact HL2.out.hb | with_reducible refine bel_al ?_ _ | (with_reducible refine bel_st ?_ ?_ _ _; omega)))⟩
  case rest =>
    obtain ⟨p5, p6, rfl, rfl, hTT, hbl⟩ := hcut
    obtain ⟨t1, t2, t3, t4⟩ := hTT.cells
    have hs3 := HS3.out
    obtain ⟨r1, r2, r3, r4⟩ := fr_cells ((hbl.block (w.heap.size + 1 + 1) (by omega)).trans HE2.out)
    have HBF : Hid (Below w.heap.size w wc) := HBW.out.trans (hbl.mono (by omega))
    clear hs3 hbl hTT
    go_wp2
    exact bodyPost_ret (v := .agg #[.int .i64 U, .int .i64 (V : Int)]) (by simp [results, Try.results56, go_sem, r1, r2]) rfl ⟨rfl, (HBF.out.setCell (by simp; omega) _).setCell (by simp; omega) _⟩
end Go.Proofs.Ytgednacoeifclaa
