import Derived.Test.YtkbbijhknbcflabF5
import Derived.Test.YtkbbijhknbcflabMath5
import Derived.Laws.EntriesVeiled
/-
  The reader: what each of its functions hands back.
-/
namespace Go.Proofs.Ytkbbijhknbcflab
open Go.RowKit Go.Shelf

/-- A value means the formula at the front of a text, or it is nil, and there is none. -/
def Mn (m : Nat → Bool) (l r : List UInt8) (W : World) (v : Value) : Prop := (∃ F, Begins m l F r ∧ Means W F v) ∨ (v = .nilFunc ∧ ∀ F r', ¬ Begins m l F r')
/-- What reading a formula at the front of a text hands back: a function value that means it, or nil. -/
def FormOut (b : Nat) (l o : List UInt8) (w : World) (e : Ending) (w' : World) : Prop :=
  ∃ v r, e = .returned v ∧ RdAt b r o w' ∧ Kp b w w' ∧ r.length ≤ l.length ∧ Mn (mOf o) l r w' v

/-- A digit. -/
def digB (x : UInt8) : Bool := decide (48 ≤ x.toNat ∧ x.toNat < 52)
def letB (x : UInt8) : Bool := decide (120 ≤ x.toNat ∧ x.toNat ≤ 122)
theorem digB_iff {x : UInt8} : digB x = true ↔ ∃ k, k < 4 ∧ x = dig k := by
  constructor
  · intro h
    have h := of_decide_eq_true h
    exact ⟨x.toNat - 48, by omega, by unfold dig; rw [show 48 + (x.toNat - 48) = x.toNat by omega]; simp⟩
  · rintro ⟨k, hk, rfl⟩
    rcases cases4 hk with rfl | rfl | rfl | rfl <;> rfl
theorem letB_iff {x : UInt8} : letB x = true ↔ ∃ k, k < 3 ∧ x = lett k := by
  constructor
  · intro h
    have h := of_decide_eq_true h
    exact ⟨x.toNat - 120, by omega, by unfold lett; rw [show 120 + (x.toNat - 120) = x.toNat by omega]; simp⟩
  · rintro ⟨k, hk, rfl⟩
    rcases cases3 hk with rfl | rfl | rfl <;> rfl

set_option maxRecDepth 100000 in
theorem isDigit_r (r : Bool) (x : UInt8) (w : World) (hr : digB x = r) : Calls Try.prog 25 #[.int .u8 (x.toNat : Int)] w fun e w' => e = .returned (.bool r) ∧ w = w' := by
  by_cases h1 : 48 ≤ x.toNat
  · by_cases h2 : x.toNat < 52
    · obtain rfl : true = r := by rw [← hr]; exact (decide_eq_true ⟨h1, h2⟩).symm
      have g1 : (48 : Int) ≤ (x.toNat : Int) := by omega
      have g2 : (x.toNat : Int) < 52 := by omega
      clear hr h1 h2
      go_enter Try.func25, Try.ntmps25
      go_wp2
      go_ret
      exact ⟨rfl, rfl⟩
    · obtain rfl : false = r := by rw [← hr]; exact (decide_eq_false fun h => h2 h.2).symm
      have g1 : (48 : Int) ≤ (x.toNat : Int) := by omega
      have g2 : (52 : Int) ≤ (x.toNat : Int) := by omega
      have HD : Hid (decide ((x.toNat : Int) < 52) = false) := decide_eq_false (by omega)
      clear hr h1 h2
      go_enter Try.func25, Try.ntmps25
      go_wp2
      go_ret
      exact ⟨congrArg (fun b => Ending.returned (.bool b)) HD.out, rfl⟩
  · obtain rfl : false = r := by rw [← hr]; exact (decide_eq_false fun h => h1 h.1).symm
    have g1 : (x.toNat : Int) < 48 := by omega
    clear hr h1
    go_enter Try.func25, Try.ntmps25
    go_wp2
    go_ret
    exact ⟨rfl, rfl⟩
set_option maxRecDepth 100000 in
theorem isLetter_r (r : Bool) (x : UInt8) (w : World) (hr : letB x = r) : Calls Try.prog 57 #[.int .u8 (x.toNat : Int)] w fun e w' => e = .returned (.bool r) ∧ w = w' := by
  by_cases h1 : 120 ≤ x.toNat
  · by_cases h2 : x.toNat ≤ 122
    · obtain rfl : true = r := by rw [← hr]; exact (decide_eq_true ⟨h1, h2⟩).symm
      have g1 : (120 : Int) ≤ (x.toNat : Int) := by omega
      have g2 : (x.toNat : Int) ≤ 122 := by omega
      clear hr h1 h2
      go_enter Try.func57, Try.ntmps57
      go_wp2
      go_ret
      exact ⟨rfl, rfl⟩
    · obtain rfl : false = r := by rw [← hr]; exact (decide_eq_false fun h => h2 h.2).symm
      have g1 : (120 : Int) ≤ (x.toNat : Int) := by omega
      have g2 : (122 : Int) < (x.toNat : Int) := by omega
      have HD : Hid (decide ((x.toNat : Int) ≤ 122) = false) := decide_eq_false (by omega)
      clear hr h1 h2
      go_enter Try.func57, Try.ntmps57
      go_wp2
      go_ret
      exact ⟨congrArg (fun b => Ending.returned (.bool b)) HD.out, rfl⟩
  · obtain rfl : false = r := by rw [← hr]; exact (decide_eq_false fun h => h1 h.1).symm
    have g1 : (x.toNat : Int) < 120 := by omega
    clear hr h1
    go_enter Try.func57, Try.ntmps57
    go_wp2
    go_ret
    exact ⟨rfl, rfl⟩
theorem index_any (o : List UInt8) (x : UInt8) (w : World) :
    Calls Try.prog 37 #[.string (st o), .int .u8 (x.toNat : Int)] w fun e w' => e = .returned (.int .i64 (Lib.indexByte o x)) ∧ w = w' := by
  refine (Any.strings_IndexByte Try.lays137 (st o) (x.toNat : Int) w).mono ?_
  rintro e w' ⟨rfl, rfl⟩
  refine ⟨?_, rfl⟩
  rw [st_data]
  simp
theorem indexByte_neg {o : List UInt8} {x : UInt8} : o.contains x = false → Lib.indexByte o x = -1 := by
  induction o with
  | nil => intro _; rfl
  | cons y o ih =>
    intro h
    simp only [List.contains_cons, Bool.or_eq_false_iff] at h
    have h1 : (y == x) = false := by
      cases e : y == x
      · rfl
      · rw [beq_iff_eq] at e; subst e; simp at h
    have hi := ih h.2
    simp [Lib.indexByte, h1, hi]
theorem indexByte_pos {o : List UInt8} {x : UInt8} : o.contains x = true → 0 ≤ Lib.indexByte o x ∧ Lib.indexByte o x ≤ o.length := by
  induction o with
  | nil => intro h; simp at h
  | cons y o ih =>
    intro h
    simp only [Lib.indexByte]
    cases e : y == x
    · have h2 : o.contains x = true := by
        simp only [List.contains_cons, Bool.or_eq_true] at h
        rcases h with h | h
        · rw [beq_iff_eq] at h; subst h; simp at e
        · exact h
      have hi := ih h2
      have h3 : (Lib.indexByte o x == -1) = false := by simp; omega
      simp [h3]; omega
    · simp; omega

set_option maxHeartbeats 4000000 in
set_option maxRecDepth 100000 in
theorem unmarked_any (b : Nat) (t o : List UInt8) (w : World) (h : RdAt b t o w) (hz : t.length ≤ 5000) :
    Calls Try.prog 41 #[.pointer (some ⟨b, 0, none⟩)] w fun e w' => FormOut b (45 :: t) o w e w' := by
  have hb := h.lt
  have HSg := Lib.hid (fun w' (hb : Below w.heap.size w w') => sign_any b t o w' (h.keep hb) hz)
  have HLen := Lib.hid (tl_len t)
  clear h
  by_cases hdg : digB (hd t) = true
  · have HI := Lib.hid (fun W => isDigit_r true (hd t) W hdg)
    have HB : Hid (∃ k, Begins (mOf o) (45 :: t) (.unm k) (tl t) ∧ (((hd t).toNat : Int) = ((48 + k : Nat) : Int))) := by
      obtain ⟨k, hk, e⟩ := digB_iff.1 hdg
      refine ⟨k, ⟨?_, hk⟩, by rw [e]; exact dig_nat hk⟩
      cases t with
      | nil => exact absurd hdg (by decide)
      | cons x t =>
        simp only [hd] at e
        subst e; rfl
    clear hdg
    go_enter Try.func41, Try.ntmps41
    go_wp2_with fail
    refine (HSg.out _ (Below.refl _ _)).mono ?_
    rintro e w1 ⟨rfl, hr1, kp1⟩
    have HR1 := Lib.hid hr1
    have HKp1 := Lib.hid kp1
    clear hr1 kp1
    generalize hd t = x at *
    go_wp2_with fail
    refine (HI.out _).mono ?_
    rintro e w' ⟨rfl, rfl⟩
    go_wp2
    go_ret
    refine ⟨_, tl t, rfl, HR1.out.keep (below_one _ _), HKp1.out.alloc _, Nat.le_succ_of_le HLen.out, Or.inl ?_⟩
    obtain ⟨k, hB, e⟩ := HB.out
    exact ⟨_, hB, w1.heap.size, rfl, by rw [← e]; exact block_cell (heap_alloc_new w1 _) 0⟩
  · have hdg' : digB (hd t) = false := by simpa using hdg
    have HI := Lib.hid (fun W => isDigit_r false (hd t) W hdg')
    have HB : Hid (∀ F r', ¬ Begins (mOf o) (45 :: t) F r') := by
      intro F r' h
      obtain ⟨k, _, hk, rfl⟩ := begins_unm h
      exact hdg (digB_iff.2 ⟨k, hk, rfl⟩)
    clear hdg hdg'
    go_enter Try.func41, Try.ntmps41
    go_wp2_with fail
    refine (HSg.out _ (Below.refl _ _)).mono ?_
    rintro e w1 ⟨rfl, hr1, kp1⟩
    have HR1 := Lib.hid hr1
    have HKp1 := Lib.hid kp1
    clear hr1 kp1
    generalize hd t = x at *
    go_wp2_with fail
    refine (HI.out _).mono ?_
    rintro e w' ⟨rfl, rfl⟩
    go_wp2
    go_ret
    exact ⟨_, tl t, rfl, HR1.out.keep (below_one _ _), HKp1.out.alloc _, Nat.le_succ_of_le HLen.out, Or.inr ⟨rfl, HB.out⟩⟩

/-- Reading a formula, of texts of at most N bytes. -/
def FC (N : Nat) : Prop := ∀ (b : Nat) (l o : List UInt8) (w : World), l.length ≤ N → l.length + o.length ≤ 5000 → RdAt b l o w → Calls Try.prog 31 #[.pointer (some ⟨b, 0, none⟩)] w fun e w' => FormOut b l o w e w'

theorem nil_or {v : Value} {W : World} {F : Fm} (h : Means W F v) : v ≠ .nilFunc := by
  obtain ⟨f, c, rfl, _⟩ := h.fn
  intro e; cases e

theorem RdAt.kp {b c : Nat} {l o : List UInt8} {W W' : World} (h : RdAt b l o W) (hb : Kp c W W') (hne : b ≠ c) : RdAt b l o W' := by
  have e : W'.heap[b]? = W.heap[b]? := hb.block b h.lt hne
  have k : ∀ j, W'.cell? ⟨b, j, none⟩ = W.cell? ⟨b, j, none⟩ := fun j => World.cell?_of_block e
  have f : ∀ j, W'.frozen? ⟨b, j, none⟩ = W.frozen? ⟨b, j, none⟩ := fun j => by unfold World.frozen?; simp only [e]
  exact ⟨by rw [k]; exact h.c0, by rw [k]; exact h.c1, by rw [f]; exact h.f0, by rw [f]; exact h.f1⟩
/-- No block of a formula's value is a reader's: its cells hold strings. -/
theorem cell_ne {W : World} {b : Nat} {l o : List UInt8} (h : RdAt b l o W) {p : Nat} {v : Value} (hc : W.cell? ⟨p, 0, none⟩ = some v) (hv : ∀ s, v ≠ .string s) : p ≠ b := by
  rintro rfl
  rw [h.c0] at hc
  exact hv _ (Option.some.inj hc).symm
theorem Means.rd {W W' : World} {b : Nat} {l o : List UInt8} (h0 : RdAt b l o W) (hb : Kp b W W') : ∀ {F : Fm} {v : Value}, Means W F v → Means W' F v := by
  have mv : ∀ {p : Nat} {v : Value}, W.cell? ⟨p, 0, none⟩ = some v → (∀ s, v ≠ .string s) → W'.cell? ⟨p, 0, none⟩ = some v := fun hc hv => hb.cell hc (cell_ne h0 hc hv)
  have fn : ∀ {F : Fm} {v : Value}, Means W F v → ∀ s, v ≠ .string s := fun h s => by obtain ⟨f, c, rfl, _⟩ := h.fn; intro e; cases e
  have it : ∀ {k : IntKind} {x : Int} (s : ByteArray), Value.int k x ≠ .string s := fun s e => by cases e
  intro F
  induction F with
  | mark k => rintro v ⟨b, e, c⟩; exact ⟨b, e, mv c it⟩
  | unm k => rintro v ⟨b, e, c⟩; exact ⟨b, e, mv c it⟩
  | tt => intro v e; exact e
  | ff => intro v e; exact e
  | two a l r ih1 ih2 => rintro v ⟨b1, b2, b3, v1, v2, e, c1, c2, c3, m1, m2⟩; exact ⟨b1, b2, b3, v1, v2, e, mv c1 (fn m1), mv c2 (fn m2), mv c3 it, ih1 m1, ih2 m2⟩
  | ahead d l ih => rintro v ⟨b1, b2, v1, e, c1, c2, m1⟩; exact ⟨b1, b2, v1, e, mv c1 (fn m1), mv c2 it, ih m1⟩
  | var c => rintro v ⟨b, e, c⟩; exact ⟨b, e, mv c it⟩
  | fix g c l ih => rintro v ⟨b1, b2, b3, v1, e, c1, c2, c3, m1⟩; exact ⟨b1, b2, b3, v1, e, mv c1 it, mv c2 it, mv c3 (fn m1), ih m1⟩

theorem fn_or {m : Nat → Bool} {l r : List UInt8} {W : World} {v : Value} (h : Mn m l r W v) : (∃ f k, v = .func (.func f) #[] k) ∨ v = .nilFunc := by
  rcases h with ⟨F, _, h⟩ | ⟨h, _⟩
  · obtain ⟨f, c, e, _⟩ := h.fn; exact Or.inl ⟨f, c, e⟩
  · exact Or.inr h
theorem form_keep {m : Nat → Bool} {l r : List UInt8} {W W' : World} {v : Value} (h : Mn m l r W v) (hb : Below W.heap.size W W') : Mn m l r W' v := by
  rcases h with ⟨F, h1, h⟩ | h
  · exact Or.inl ⟨F, h1, h.keep hb⟩
  · exact Or.inr h
theorem form_rd {m : Nat → Bool} {l r l' o' : List UInt8} {b : Nat} {W W' W2 : World} {v : Value} (h : Mn m l r W v) (h0 : RdAt b l' o' W) (hk : Kp b W W') (hb : Below W'.heap.size W' W2) : Mn m l r W2 v := by
  rcases h with ⟨F, h1, h⟩ | h
  · exact Or.inl ⟨F, h1, (Means.rd h0 hk h).keep hb⟩
  · exact Or.inr h

theorem eql_fn (w : World) (f : Fn) (a c : Array Value) : (binOp .eql 45 (.func f a c) .nilFunc).run Try.prog w = .ok (.bool false) w := by
  simp only [binOp, Op.equal, Op.maxDepth]
  rw [show (10000 : Nat) = 9999 + 1 from rfl, Op.equalIn]
  simp only [Sem.run_bind, run_underlying Try.underlying45, Result.andThen_ok]
  go_simp
theorem eql_nf (w : World) : (binOp .eql 45 .nilFunc .nilFunc).run Try.prog w = .ok (.bool true) w := by
  simp only [binOp, Op.equal, Op.maxDepth]
  rw [show (10000 : Nat) = 9999 + 1 from rfl, Op.equalIn]
  simp only [Sem.run_bind, run_underlying Try.underlying45, Result.andThen_ok]
  go_simp
attribute [local go_sem] eql_fn eql_nf

set_option maxHeartbeats 4000000 in
set_option maxRecDepth 100000 in
theorem both_any (N : Nat) (hN : FC N) (a : Bool) (b : Nat) (t o : List UInt8) (w : World) (hl : t.length ≤ N) (hz : t.length + o.length ≤ 4999) (h : RdAt b t o w) :
    Calls Try.prog 44 #[.pointer (some ⟨b, 0, none⟩), .int .u8 (if a then 38 else 124)] w fun e w' => FormOut b ((if a then 38 else 124) :: t) o w e w' := by
  have HNo : Hid (∀ F r', Begins (mOf o) ((if a then 38 else 124) :: t) F r' → ∃ l r0, F = .two a l r0 ∧ ∃ s, Begins (mOf o) t l s ∧ Begins (mOf o) s r0 r') := by
    intro F r' h
    obtain ⟨a', l, r0, rfl, s, h1, h2⟩ := begins_two (by cases a <;> rfl) h
    have e := (List.cons.inj h.1).1
    have : a' = a := by cases a <;> cases a' <;> first | rfl | exact absurd e (by decide)
    subst this
    exact ⟨l, r0, rfl, s, h1, h2⟩
  have HYes : Hid (∀ l r0 s r', Begins (mOf o) t l s → Begins (mOf o) s r0 r' → Begins (mOf o) ((if a then 38 else 124) :: t) (.two a l r0) r') := by
    rintro l r0 s r' ⟨rfl, h1⟩ ⟨rfl, h2⟩
    exact ⟨by simp [str], h1, h2⟩
  have HLf : Hid (∀ r : List UInt8, r.length ≤ t.length → r.length ≤ ((if a then 38 else 124) :: t : List UInt8).length) := fun r h => by simp; omega
  generalize ((if a then 38 else 124) :: t : List UInt8) = full at *
  generalize hG : (if a = true then (38 : Int) else 124) = G
  have HG := Lib.hid hG
  have H1 := Lib.hid (hN b t o (w.alloc (.cells #[.int .u8 G] 5)) hl (by omega) (h.keep (below_one w _)))
  have hb := h.lt
  have HB0 := Lib.hid (below_one w (.cells #[.int .u8 G] 5))
  have HC0 : Hid ((w.alloc (.cells #[.int .u8 G] 5)).cell? ⟨w.heap.size, 0, none⟩ = some (.int .u8 G)) := block_cell (heap_alloc_new w (.cells #[.int .u8 G] 5)) 0
  have HN := Lib.hid hN
  clear hN h hG
  go_enter Try.func44, Try.ntmps44
  go_wp2_with fail
  refine H1.out.mono ?_
  rintro e w1 ⟨v1, r1, rfl, hr1, kp1, hl1, hm1⟩
  have hv1 := fn_or hm1
  rcases hv1 with ⟨f1, k1, rfl⟩ | rfl
  case' inl => obtain ⟨x1, hx1⟩ : ∃ x, x = Value.func (.func f1) #[] k1 := ⟨_, rfl⟩
  case' inr => obtain ⟨x1, hx1⟩ : ∃ x, x = Value.nilFunc := ⟨_, rfl⟩
  all_goals
    have hb1 := hr1.lt
    have hs1 := kp1.size
    simp only [World.alloc, Array.size_push] at hs1
    obtain ⟨u1, hu1⟩ : ∃ u, u = w1.alloc (.cells #[x1] 45) := ⟨_, rfl⟩
    have hbe1 : Below w1.heap.size w1 u1 := by rw [hu1]; exact below_one w1 _
    have hr1' := hr1.keep hbe1
    have H2 := Lib.hid (HN.out b r1 o u1 (by omega) (by omega) hr1')
    have c1 : u1.cell? ⟨w1.heap.size, 0, none⟩ = some (x1) := by rw [hu1]; exact block_cell (heap_alloc_new w1 _) 0
    have c0 : u1.cell? ⟨w.heap.size, 0, none⟩ = some (.int .u8 G) := (hbe1.cell (World.block_lt_of_cell? _ _ (kp1.cell HC0.out (by simp; omega)))).trans (kp1.cell HC0.out (by simp; omega))
    have HW1 := Lib.hid hu1
    have HR1 := Lib.hid hr1'
    have HK1 := Lib.hid (((Kp.of HB0.out : Kp b _ _).trans kp1).trans (Kp.of hbe1))
    have HM1 := Lib.hid (form_keep hm1 hbe1)
    have HC1 := Lib.hid c1
    have HC2 := Lib.hid c0
    have hs2 : u1.heap.size = w1.heap.size + 1 := by rw [hu1]; simp
    clear hr1 kp1 hm1 hu1 hbe1 hr1' c1 c0
    subst hx1
    go_wp2_with fail
    rw [← HW1.out]
    refine H2.out.mono ?_
    rintro e w2 ⟨v2, r2, rfl, hr2, kp2, hl2, hm2⟩
    have hv2 := fn_or hm2
    rcases hv2 with ⟨f2, k2, rfl⟩ | rfl
    case' inl => obtain ⟨x2, hx2⟩ : ∃ x, x = Value.func (.func f2) #[] k2 := ⟨_, rfl⟩
    case' inr => obtain ⟨x2, hx2⟩ : ∃ x, x = Value.nilFunc := ⟨_, rfl⟩
    all_goals
      have hsz2 := kp2.size
      have hbe2 : Below w2.heap.size w2 (w2.alloc (.cells #[x2] 45)) := below_one w2 _
      have g1 := alloc_cell (kp2.cell HC1.out (by simp; omega)) (.cells #[x2] 45)
      have g0 := alloc_cell (kp2.cell HC2.out (by simp; omega)) (.cells #[x2] 45)
      have g2 : (w2.alloc (.cells #[x2] 45)).cell? ⟨w2.heap.size, 0, none⟩ = some (x2) := block_cell (heap_alloc_new w2 _) 0
      have HG0 := Lib.hid g0
      have HG1 := Lib.hid g1
      have HG2 := Lib.hid g2
      have HRf := Lib.hid (hr2.keep hbe2)
      have HKf := Lib.hid ((HK1.out.trans kp2).trans (Kp.of hbe2))
      have HLen := Lib.hid (HLf.out r2 (by omega))
      have HM2 := Lib.hid (form_keep hm2 hbe2)
      have HM1f := Lib.hid (form_rd HM1.out HR1.out kp2 hbe2)
      clear hr2 kp2 hbe2 g0 hm2
      subst hx2
      go_wp2
      go_ret
      rcases HM1f.out with ⟨F1, hF1, hM1⟩ | ⟨hv1, hno1⟩
      · rcases HM2.out with ⟨F2, hF2, hM2⟩ | ⟨hv2, hno2⟩
        · first
            | exact ⟨_, r2, rfl, HRf.out, HKf.out, HLen.out, Or.inl ⟨_, HYes.out F1 F2 r1 r2 hF1 hF2, _, _, _, _, _, rfl, HG1.out, HG2.out, by rw [HG0.out, ← HG.out], hM1, hM2⟩⟩
            | exact absurd rfl (nil_or hM2)
            | exact absurd rfl (nil_or hM1)
        · exact ⟨_, r2, rfl, HRf.out, HKf.out, HLen.out, Or.inr ⟨(by first | rfl | cases hv2), fun F r' h => by
            obtain ⟨l, r0, _, s, h1, h2⟩ := HNo.out F r' h
            obtain ⟨_, rfl⟩ := hF1.uniq h1
            exact hno2 _ _ h2⟩⟩
      · exact ⟨_, r2, rfl, HRf.out, HKf.out, HLen.out, Or.inr ⟨(by first | rfl | cases hv1), fun F r' h => by
          obtain ⟨l, r0, _, s, h1, h2⟩ := HNo.out F r' h
          exact hno1 _ _ h1⟩⟩
end Go.Proofs.Ytkbbijhknbcflab
