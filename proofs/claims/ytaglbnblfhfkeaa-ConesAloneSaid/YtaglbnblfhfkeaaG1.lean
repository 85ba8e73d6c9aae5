import Derived.Test.YtaglbnblfhfkeaaF2
namespace Go.Proofs.Ytaglbnblfhfkeaa
open Go.RowKit

def IdxV (yes : Prop) (w : World) (e : Ending) (w' : World) : Prop := ∃ i : Int, (yes → 0 ≤ i) ∧ (¬ yes → i = -1) ∧ e = .returned (.int .i64 i) ∧ Below w.heap.size w w'

theorem vec_beq (u v : Vec) : (u.a == v.a && (u.b == v.b && (u.c == v.c && u.d == v.d))) = decide (u = v) := by
  rw [Bool.eq_iff_iff]; simp [Vec.ext_iff']

theorem eql_vec_run (u v : Vec) (w : World) : (binOp .eql 61 (.agg #[.int .i64 (u).a, .int .i64 (u).b, .int .i64 (u).c, .int .i64 (u).d]) (.agg #[.int .i64 (v).a, .int .i64 (v).b, .int .i64 (v).c, .int .i64 (v).d])).run Try.prog w = .ok (.bool (decide (u = v))) w := by
  have h := eq_vec u.a u.b u.c u.d v.a v.b v.c v.d
  simp only [binOp]
  simp only [Op.equal, Op.maxDepth, Sem.run_bind, h, Result.andThen_ok, Sem.run_pure, vec_beq]

theorem below_alloc1 (w : World) (o : Obj) : Below w.heap.size w (w.alloc o) := (Below.refl _ _).alloc (Nat.le_refl _) _

set_option maxHeartbeats 4000000 in
set_option maxRecDepth 100000 in
theorem indexV_any (a : Option Addr) (c : Nat) (F : List Vec) (v : Vec) (w : World) (hF : VecsAt w a F) (hl : F.length ≤ 20000000) :
    Calls Try.prog 130 #[.slice a F.length c, .agg #[.int .i64 (v).a, .int .i64 (v).b, .int .i64 (v).c, .int .i64 (v).d]] w fun e w' => IdxV (v ∈ F) w e w' := by
  have HB := Lib.hid (below_alloc1 w (.cells #[.int .i64 (v).a, .int .i64 (v).b, .int .i64 (v).c, .int .i64 (v).d] 61))
  have HF := Lib.hid (hF.keep (Nat.le_refl _) HB.out)
  clear hF
  go_enter Try.func130, Try.ntmps130
  go_wp2
  go_loopw [8] (fun i wr => ∃ k : Nat, k ≤ F.length ∧ i = .int .i64 k ∧ (∃ q, wr = (w.alloc (.cells #[.int .i64 (v).a, .int .i64 (v).b, .int .i64 (v).c, .int .i64 (v).d] 61)).drewN q) ∧ Hid (∀ j, j < k → F[j]? ≠ some v)) (fun i _ => F.length - (intOf i).toNat)
  case atStart => exact ⟨0, Nat.zero_le _, rfl, ⟨0, rfl⟩, fun j hj => absurd hj (Nat.not_lt_zero _)⟩
  case round =>
    obtain ⟨k, hk, rfl, ⟨q, rfl⟩, hr⟩ := hrel
    by_cases hlt : k < F.length
    · obtain ⟨x, hx⟩ : ∃ x, F[k]? = some x := ⟨_, List.getElem?_eq_getElem (by omega)⟩
      obtain ⟨bx, rfl, d0, d1, d2, d3⟩ := HF.out k x hx
      have HX := Lib.hid hx
      clear hx
      have he := eql_vec_run v x
      have hltI : (k : Int) < (F.length : Int) := by omega
      have hk0 : (0 : Int) ≤ (k : Int) := by omega
      by_cases hv : v = x
      · have hin : Hid (v ∈ F) := by rw [hv]; exact List.mem_of_getElem? HX.out
        rw [decide_eq_true hv] at he
        clear hv
        go_wp2
        go_quiet (fail)
        go_wp2
        go_ret
        exact ⟨(k : Int), fun _ => by omega, fun h => absurd hin.out h, rfl, by rw [World.drewN_drewN]; exact below_drewN HB.out _⟩
      · have hn : Hid (∀ j, j < k + 1 → F[j]? ≠ some v) := by
          intro j hj
          by_cases e : j = k
          · subst e; rw [HX.out]; intro h; cases h; exact hv rfl
          · exact hr.out j (by omega)
        rw [decide_eq_false hv] at he
        clear hv
        go_wp2
        go_quiet (fail)
        go_wp2
        go_roundw
        case rel => exact ⟨k + 1, by omega, by go_num, ⟨_, rfl⟩, hn⟩
        case measure => simp [intOf]; omega
    · have e : k = F.length := by omega
      subst e
      have hno : Hid (¬ v ∈ F) := by
        intro h
        obtain ⟨j, hj⟩ := List.getElem?_of_mem h
        exact hr.out j (List.getElem?_eq_some_iff.1 hj).1 hj
      go_wp2
      go_ret
      exact ⟨-1, fun h => absurd h hno.out, fun _ => rfl, rfl, below_drewN HB.out q⟩

set_option maxHeartbeats 4000000 in
set_option maxRecDepth 100000 in
theorem containsV_any (a : Option Addr) (c : Nat) (F : List Vec) (v : Vec) (r : Bool) (w : World) (hF : VecsAt w a F) (hl : F.length ≤ 20000000) (hr : r = true ↔ v ∈ F) :
    Calls Try.prog 114 #[.slice a F.length c, .agg #[.int .i64 (v).a, .int .i64 (v).b, .int .i64 (v).c, .int .i64 (v).d]] w fun e w' => e = .returned (.bool r) ∧ Below w.heap.size w w' := by
  have HB := Lib.hid (below_alloc1 w (.cells #[.int .i64 (v).a, .int .i64 (v).b, .int .i64 (v).c, .int .i64 (v).d] 61))
  have H := Lib.hid (indexV_any a c F v _ (hF.keep (Nat.le_refl _) HB.out) hl)
  have HR := Lib.hid hr
  clear hF hr
  cases r
  · go_enter Try.func114, Try.ntmps114
    go_wp2_with fail
    refine H.out.mono ?_
    rintro e w1 ⟨i, h1, h2, rfl, hb⟩
    have hi := h2 (fun h => by have := HR.out.2 h; cases this)
    subst hi
    have HB1 : Hid (Below w.heap.size w w1) := HB.out.trans (hb.mono (by simp))
    clear h1 h2 hb
    go_wp2
    go_ret
    exact ⟨rfl, HB1.out⟩
  · go_enter Try.func114, Try.ntmps114
    go_wp2_with fail
    refine H.out.mono ?_
    rintro e w1 ⟨i, h1, h2, rfl, hb⟩
    have hi := h1 (HR.out.1 (by simp))
    have HB1 : Hid (Below w.heap.size w w1) := HB.out.trans (hb.mono (by simp))
    clear h1 h2 hb
    go_wp2
    go_ret
    exact ⟨rfl, HB1.out⟩

set_option maxHeartbeats 4000000 in
set_option maxRecDepth 100000 in
theorem isBasic_any (m : Mx) (a : Option Addr) (c : Nat) (F : List Vec) (v : Vec) (r : Bool) (w : World) (hF : VecsAt w a F) (hl : F.length ≤ 20000000) (hr : r = true ↔ v ∈ F) :
    Calls Try.prog 99 #[.agg #[.int .i64 (m).r0.a, .int .i64 (m).r0.b, .int .i64 (m).r0.c, .int .i64 (m).r0.d, .int .i64 (m).r1.a, .int .i64 (m).r1.b, .int .i64 (m).r1.c, .int .i64 (m).r1.d, .int .i64 ((m).n : Int), .slice a F.length c], .agg #[.int .i64 (v).a, .int .i64 (v).b, .int .i64 (v).c, .int .i64 (v).d]] w fun e w' => e = .returned (.bool r) ∧ Below w.heap.size w w' := by
  have HB := Lib.hid (below_two w (.cells #[.int .i64 (m).r0.a, .int .i64 (m).r0.b, .int .i64 (m).r0.c, .int .i64 (m).r0.d, .int .i64 (m).r1.a, .int .i64 (m).r1.b, .int .i64 (m).r1.c, .int .i64 (m).r1.d, .int .i64 ((m).n : Int), .slice a F.length c] 77) (.cells #[.int .i64 (v).a, .int .i64 (v).b, .int .i64 (v).c, .int .i64 (v).d] 61))
  have H := Lib.hid (containsV_any a c F v r _ (hF.keep (Nat.le_refl _) HB.out) hl hr)
  clear hF hr
  go_enter Try.func99, Try.ntmps99
  go_wp2_with fail
  refine H.out.mono ?_
  rintro e w1 ⟨rfl, hb⟩
  have HB1 : Hid (Below w.heap.size w w1) := HB.out.trans (hb.mono (by simp; omega))
  clear hb
  go_wp2
  go_ret
  exact ⟨rfl, HB1.out⟩

/-- Is row k a vector? -/
def okRow (n : Nat) (L : Nat → Nat) (Z : Nat → Nat → Int) (k : Nat) : Bool := decide (L k = n) && allIn (Z k) n (-100) 100
theorem okRow_iff {n : Nat} {L : Nat → Nat} {Z : Nat → Nat → Int} {k : Nat} : okRow n L Z k = true ↔ L k = n ∧ allIn (Z k) n (-100) 100 = true := by simp [okRow]

/-- matrix.read. -/
def MRead (n : Nat) (z : Nat → Int) (r : Bool) (w : World) (e : Ending) (w' : World) : Prop := e = .returned (.tuple #[if r then .agg #[.int .i64 (vecN z n).a, .int .i64 (vecN z n).b, .int .i64 (vecN z n).c, .int .i64 (vecN z n).d] else .agg #[.int .i64 0, .int .i64 0, .int .i64 0, .int .i64 0], .bool r]) ∧ Below w.heap.size w w'
theorem mread_mx (m : Mx) (a : Option Addr) (cap n : Nat) (z : Nat → Int) (lo hi : Int) (r : Bool) (w : World) (hm : m.ok) (hs : n ≤ 140737488351232) (hz : Ints w a n z) (hr : (decide (n = m.n) && allIn z m.n lo hi) = r) :
    Calls Try.prog 78 #[.agg #[.int .i64 (m).r0.a, .int .i64 (m).r0.b, .int .i64 (m).r0.c, .int .i64 (m).r0.d, .int .i64 (m).r1.a, .int .i64 (m).r1.b, .int .i64 (m).r1.c, .int .i64 (m).r1.d, .int .i64 ((m).n : Int)], .slice a n cap, .int .i64 lo, .int .i64 hi] w fun e w' => MRead m.n z r w e w' := by
  have hn4 := hm.n4
  by_cases h : n = m.n
  · subst h
    have h2 := mread_yes r m.r0.at' m.r1.at' a cap m.n z lo hi w hn4 hz (by simpa using hr)
    refine Calls.mono (show Calls Try.prog 78 #[.agg #[.int .i64 (m).r0.a, .int .i64 (m).r0.b, .int .i64 (m).r0.c, .int .i64 (m).r0.d, .int .i64 (m).r1.a, .int .i64 (m).r1.b, .int .i64 (m).r1.c, .int .i64 (m).r1.d, .int .i64 ((m).n : Int)], .slice a m.n cap, .int .i64 lo, .int .i64 hi] w _ from h2) fun e w' ⟨he, hb⟩ => ⟨?_, hb⟩
    rw [he]
    cases r <;> rfl
  · have h2 := mread_no1 m.r0.at' m.r1.at' a cap n (m.n : Int) lo hi w hs (fun h' => h (by omega))
    have hrf : r = false := by rw [← hr]; simp [h]
    subst hrf
    exact Calls.mono (show Calls Try.prog 78 #[.agg #[.int .i64 (m).r0.a, .int .i64 (m).r0.b, .int .i64 (m).r0.c, .int .i64 (m).r0.d, .int .i64 (m).r1.a, .int .i64 (m).r1.b, .int .i64 (m).r1.c, .int .i64 (m).r1.d, .int .i64 ((m).n : Int)], .slice a n cap, .int .i64 lo, .int .i64 hi] w _ from h2) fun e w' ⟨he, hb⟩ => ⟨he, hb⟩

/-- What is left of x when the first k rows were taken away. -/
def runTo (F : List Vec) (n : Nat) (L : Nat → Nat) (Z : Nat → Nat → Int) (x : Vec) : Nat → Option Vec
  | 0 => some x
  | k + 1 => match runTo F n L Z x k with
    | none => none
    | some r => if okRow n L Z k = true ∧ vecN (Z k) n ∈ F ∧ fitsN (vecN (Z k) n).at' r.at' 4 = true then some (Vec.sub r (vecN (Z k) n)) else none
def chkB (F : List Vec) (n : Nat) (L : Nat → Nat) (Z : Nat → Nat → Int) (x : Vec) (R : Nat) : Bool := decide (runTo F n L Z x R = some Vec.zero)
theorem runTo_none {F : List Vec} {n : Nat} {L : Nat → Nat} {Z : Nat → Nat → Int} {x : Vec} {k : Nat} (h : runTo F n L Z x k = none) : ∀ j, k ≤ j → runTo F n L Z x j = none := by
  intro j
  induction j with
  | zero => intro hj; rw [show 0 = k by omega]; exact h
  | succ j ih =>
    intro hj
    by_cases e : k = j + 1
    · rw [← e]; exact h
    · have := ih (by omega); simp [runTo, this]
theorem runTo_step {F : List Vec} {n : Nat} {L : Nat → Nat} {Z : Nat → Nat → Int} {x r : Vec} {k : Nat} (h : runTo F n L Z x k = some r) (h1 : okRow n L Z k = true) (h2 : vecN (Z k) n ∈ F) (h3 : Vec.fits (vecN (Z k) n) r) :
    runTo F n L Z x (k + 1) = some (Vec.sub r (vecN (Z k) n)) := by
  simp only [runTo, h]; rw [if_pos ⟨h1, h2, (fitsN_fits _ _).2 h3⟩]
theorem runTo_stop {F : List Vec} {n : Nat} {L : Nat → Nat} {Z : Nat → Nat → Int} {x r : Vec} {k R : Nat} (h : runTo F n L Z x k = some r) (hk : k < R) (hno : ¬ (okRow n L Z k = true ∧ vecN (Z k) n ∈ F ∧ Vec.fits (vecN (Z k) n) r)) :
    chkB F n L Z x R = false := by
  have : runTo F n L Z x (k + 1) = none := by
    simp only [runTo, h]; rw [if_neg fun h' => hno ⟨h'.1, h'.2.1, (fitsN_fits _ _).1 h'.2.2⟩]
  simp [chkB, runTo_none this R (by omega)]

/-- What holds in isSplit. -/
structure Chk (w wr : World) (m : Mx) (sl : Value) (r : Vec) : Prop where
  task : wr.heap[w.heap.size]? = some (.cells #[.int .i64 (m).r0.a, .int .i64 (m).r0.b, .int .i64 (m).r0.c, .int .i64 (m).r0.d, .int .i64 (m).r1.a, .int .i64 (m).r1.b, .int .i64 (m).r1.c, .int .i64 (m).r1.d, .int .i64 ((m).n : Int), sl] 77)
  box : wr.heap[w.heap.size + 1]? = some (.cells #[.int .i64 (r).a, .int .i64 (r).b, .int .i64 (r).c, .int .i64 (r).d] 61)
  below : Below w.heap.size w wr
theorem Chk.lt {w wr : World} {m : Mx} {sl : Value} {r : Vec} (h : Chk w wr m sl r) : w.heap.size + 1 < wr.heap.size := (Array.getElem?_eq_some_iff.1 h.box).1
theorem Chk.keep {w wr w' : World} {m : Mx} {sl : Value} {r : Vec} (h : Chk w wr m sl r) (hb : Below wr.heap.size wr w') : Chk w w' m sl r :=
  ⟨(hb.block _ (by have := h.lt; omega)).trans h.task, (hb.block _ h.lt).trans h.box, h.below.trans (hb.mono h.below.size)⟩
theorem task_cells {w : World} {b : Nat} {m : Mx} {sl : Value} {T : TypeId} (h : w.heap[b]? = some (.cells #[.int .i64 (m).r0.a, .int .i64 (m).r0.b, .int .i64 (m).r0.c, .int .i64 (m).r0.d, .int .i64 (m).r1.a, .int .i64 (m).r1.b, .int .i64 (m).r1.c, .int .i64 (m).r1.d, .int .i64 ((m).n : Int), sl] T)) :
    w.cell? ⟨b, 0, none⟩ = some (.int .i64 m.r0.a) ∧ w.cell? ⟨b, 1, none⟩ = some (.int .i64 m.r0.b) ∧ w.cell? ⟨b, 2, none⟩ = some (.int .i64 m.r0.c) ∧ w.cell? ⟨b, 3, none⟩ = some (.int .i64 m.r0.d) ∧
    w.cell? ⟨b, 4, none⟩ = some (.int .i64 m.r1.a) ∧ w.cell? ⟨b, 5, none⟩ = some (.int .i64 m.r1.b) ∧ w.cell? ⟨b, 6, none⟩ = some (.int .i64 m.r1.c) ∧ w.cell? ⟨b, 7, none⟩ = some (.int .i64 m.r1.d) ∧
    w.cell? ⟨b, 8, none⟩ = some (.int .i64 (m.n : Int)) ∧ w.cell? ⟨b, 9, none⟩ = some sl ∧ ∀ j, w.frozen? ⟨b, j, none⟩ = false :=
  ⟨block_cell h 0, block_cell h 1, block_cell h 2, block_cell h 3, block_cell h 4, block_cell h 5, block_cell h 6, block_cell h 7, block_cell h 8, block_cell h 9, block_free h⟩
end Go.Proofs.Ytaglbnblfhfkeaa
