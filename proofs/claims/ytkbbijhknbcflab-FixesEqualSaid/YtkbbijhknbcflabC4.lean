import Derived.Test.YtkbbijhknbcflabC3
/-
  slices.Equal; rounds.
-/
namespace Go.Proofs.Ytkbbijhknbcflab
open Go.RowKit

set_option maxHeartbeats 1000000 in
theorem equalI_any (ax ay : Option Addr) (cx cy n m : Nat) (x y : Nat → Int) (w : World) (hs : n ≤ 140737488351232) (hsm : m ≤ 140737488351232) (hx : Ints w ax n x) (hy : Ints w ay m y) :
    Calls Try.prog 60 #[.slice ax n cx, .slice ay m cy] w fun e w' => e = .returned (.bool (eqN n m x y)) ∧ ∃ q, w' = w.drewN q := by
  by_cases hnm : n = m
  · subst hnm
    go_enter Try.func60, Try.ntmps60
    go_wp2
    go_loopw [13] (fun i wr => ∃ k : Nat, k ≤ n ∧ i = .int .i64 k ∧ (∃ q, wr = w.drewN q) ∧ Hid (∀ j, j < k → x j = y j)) (fun i _ => n - (intOf i).toNat)
    case atStart => exact ⟨0, Nat.zero_le _, rfl, ⟨0, rfl⟩, fun j hj => absurd hj (Nat.not_lt_zero _)⟩
    case round =>
      obtain ⟨k, hk, rfl, ⟨q, rfl⟩, hr⟩ := hrel
      by_cases hlt : k < n
      · obtain ⟨b, o, rfl, hck⟩ := hx k hlt
        obtain ⟨b', o', rfl, hcy⟩ := hy k hlt
        clear hx hy
        have hlt' : (k : Int) < (n : Int) := by omega
        by_cases h1 : x k = y k
        · have hn : Hid (∀ j, j < k + 1 → x j = y j) := by
            intro j hj
            by_cases e : j = k
            · subst e; exact h1
            · exact hr.out j (by omega)
          have G1 : (x k != y k) = false := by simp [h1]
          clear h1
          go_wp2
          go_quiet (fail)
          go_wp2
          go_roundw
          case rel => exact ⟨k + 1, by omega, by go_num, ⟨_, rfl⟩, hn⟩
          case measure => simp [intOf]; omega
        · have hf : Hid (eqN n n x y = false) := eqN_no fun h => h1 (h.2 k hlt)
          have G1 : (x k != y k) = true := by simp [h1]
          clear h1
          go_wp2
          go_quiet (fail)
          go_wp2
          go_ret
          exact ⟨by rw [hf.out]; rfl, ⟨_, by rw [World.drewN_drewN]⟩⟩
      · have e : k = n := by omega
        subst e
        have hf : Hid (eqN k k x y = true) := eqN_iff.2 ⟨rfl, hr.out⟩
        go_wp2
        go_ret
        exact ⟨by rw [hf.out]; rfl, ⟨_, rfl⟩⟩
  · have hf : Hid (eqN n m x y = false) := eqN_no fun h => hnm h.1
    have G1 : ((n : Int) != (m : Int)) = true := by simp; omega
    clear hnm
    go_enter Try.func60, Try.ntmps60
    go_wp2
    go_ret
    exact ⟨by rw [hf.out]; rfl, ⟨0, rfl⟩⟩

theorem SumAt.own {w : World} {B n base : Nat} {s : Nat → Int} (h : SumAt w B n s) (hb : base ≤ B) (hn : n ≤ maxLen) : Own w base (some ⟨B, 0, none⟩) n n s := by
  obtain ⟨cs, h1, h2, h3⟩ := h
  refine ⟨by simp, Or.inr ⟨B, n, cs, rfl, hb, h1, Nat.le_refl _, hn, by omega, ?_⟩⟩
  refine List.ext_getElem? fun j => ?_
  rw [Nat.mul_one, List.getElem?_take]
  by_cases hj : j < n
  · rw [if_pos hj, Array.getElem?_toList, h3 j hj]; simp [hj]
  · rw [if_neg hj]; simp [hj]
def lenOf : Value → Nat
  | .slice _ n _ => n
  | _ => 0

theorem row_low {w : World} {base base' n size : Nat} {e : TypeId} {v : Value} {xs : List Value} (h : w.ownsRow base e size v n xs) (hb : base' ≤ base) : w.ownsRow base' e size v n xs := by
  refine ⟨h.1, ?_⟩
  rcases h.2 with hn | ⟨g, cp, cur, e, hg, r⟩
  · exact Or.inl hn
  · exact Or.inr ⟨g, cp, cur, e, Nat.le_trans hb hg, r⟩
theorem omat_low {w : World} {base base' R : Nat} {v : Value} {A : Nat → Option Addr} {L C : Nat → Nat} {Z : Nat → Nat → Int} (h : OMat w base v R A L C Z) (hb : base' ≤ base) : OMat w base' v R A L C Z :=
  ⟨row_low h.top hb, fun j hj => row_low (h.row j hj) hb⟩
/-- What rounds returns: the classes of each round till they stay. -/
def RoundsOut (n : Nat) (nx mk : Nat → Nat) (r base : Nat) (W : World) (e : Ending) (w' : World) : Prop :=
  ∃ v A C, e = .returned v ∧ OMat w' base v r A (fun _ => n) C (fun j s => (rnd n nx mk (j + 1) s : Nat)) ∧ Below W.heap.size W w'
theorem omat_congr {w : World} {base R : Nat} {v : Value} {A A' : Nat → Option Addr} {L L' C C' : Nat → Nat} {Z Z' : Nat → Nat → Int} (h : OMat w base v R A L C Z)
    (e : ∀ j, j < R → A j = A' j ∧ L j = L' j ∧ C j = C' j ∧ Z j = Z' j) : OMat w base v R A' L' C' Z' := by
  refine ⟨?_, fun j hj => ?_⟩
  · have : ((List.range R).map fun j => Value.slice (A' j) (L' j) (C' j)) = (List.range R).map fun j => Value.slice (A j) (L j) (C j) :=
      List.map_congr_left fun j hj => by obtain ⟨h1, h2, h3, _⟩ := e j (List.mem_range.1 hj); rw [h1, h2, h3]
    rw [this]; exact h.top
  · obtain ⟨h1, h2, h3, h4⟩ := e j hj
    rw [← h1, ← h2, ← h3, ← h4]; exact h.row j hj

set_option maxHeartbeats 4000000 in
set_option maxRecDepth 100000 in
theorem rounds_any (aN : Option Addr) (cN : Nat) (aM : Option Addr) (cM : Nat) (n : Nat) (nx mk : Nat → Nat) (r : Nat) (w : World) (h1 : 1 ≤ n) (hWk : Wk w aN n aM nx mk) (hr400 : r ≤ 400) (hst : Stays n nx mk r) (hno : ∀ j, j < r → ¬ Stays n nx mk j) :
    Calls Try.prog 48 #[.agg #[.slice aN n cN, .slice aM n cM]] w fun e w' => RoundsOut n nx mk r w.heap.size w e w' := by
  have hn := hWk.n6
  have hmk : ∀ W : World, (Instr.makeSlice 22 (.int .i64 (n : Int)) (.int .i64 (n : Int))).run Try.prog W = .ok (.slice (some ⟨W.heap.size, 0, none⟩) n n) (W.alloc (.cells (madeCells #[.int .i64 0] n) 3)) := fun W => make_int n (by omega) W
  have hb1 := below_one w (.cells #[.slice aN n cN, .slice aM n cM] 33)
  have hs1 : (w.alloc (.cells #[.slice aN n cN, .slice aM n cM] 33)).heap.size = w.heap.size + 1 := by simp
  have HBox : Hid (∀ W, Below (w.heap.size + 1) (w.alloc (.cells #[.slice aN n cN, .slice aM n cM] 33)) W → W.cell? ⟨w.heap.size, 0, none⟩ = some (.slice aN n cN) ∧ W.cell? ⟨w.heap.size, 1, none⟩ = some (.slice aM n cM)) := by
    intro W hW
    have : W.heap[w.heap.size]? = some (.cells #[.slice aN n cN, .slice aM n cM] 33) := by
      rw [hW.block w.heap.size (by omega)]; exact heap_alloc_new w _
    exact ⟨block_cell this 0, block_cell this 1⟩
  have HSp : Hid (∀ W, Below (w.heap.size + 1) (w.alloc (.cells #[.slice aN n cN, .slice aM n cM] 33)) W → ∀ k a cap, Ints W a n (fun s => (rnd n nx mk k s : Nat)) →
      Calls Try.prog 59 #[.agg #[.slice aN n cN, .slice aM n cM], .slice a n cap] W fun e w' => e = .returned (.slice (some ⟨W.heap.size + 1, 0, none⟩) n n) ∧ SumAt w' (W.heap.size + 1) n (fun s => (rnd n nx mk (k + 1) s : Nat)) ∧ Below W.heap.size W w') := by
    intro W hW k a cap hI
    exact split_any aN cN aM cM a cap n nx mk (rnd n nx mk k) W h1 (hWk.keep (Nat.le_refl _) (band hb1 (by rw [hs1]; exact hW))) (fun s _ => rnd_lt k s) hI
  have HLow : Hid (∀ W, Below (w.heap.size + 1) (w.alloc (.cells #[.slice aN n cN, .slice aM n cM] 33)) W → Below w.heap.size w W) := fun W hW => band hb1 (by rw [hs1]; exact hW)
  have HM := Lib.hid (made_sum (w.alloc (.cells #[.slice aN n cN, .slice aM n cM] 33)) n)
  have hM0 := made_sum (w.alloc (.cells #[.slice aN n cN, .slice aM n cM] 33)) n
  rw [hs1] at hM0
  have HO0 : Hid (Own ((w.alloc (.cells #[.slice aN n cN, .slice aM n cM] 33)).alloc (.cells (madeCells #[.int .i64 0] n) 3)) (w.heap.size + 1) (some ⟨w.heap.size + 1, 0, none⟩) n n (fun s => (rnd n nx mk 0 s : Nat))) :=
    (hM0.congr (fun j _ => by simp [rnd])).own (Nat.le_refl _) (by unfold maxLen; omega)
  have HB0 : Hid (Below (w.heap.size + 1) (w.alloc (.cells #[.slice aN n cN, .slice aM n cM] 33)) ((w.alloc (.cells #[.slice aN n cN, .slice aM n cM] 33)).alloc (.cells (madeCells #[.int .i64 0] n) 3))) := (Below.refl _ _).alloc (by simp) _
  have HSt := Lib.hid hst
  have HNo := Lib.hid hno
  have HEq : Hid (∀ k, eqN n n (fun s => (rnd n nx mk (k + 1) s : Int)) (fun s => (rnd n nx mk k s : Int)) = true ↔ Stays n nx mk k) := by
    intro k
    rw [eqN_iff]
    constructor
    · intro h s hs; have := h.2 s hs; omega
    · intro h; exact ⟨rfl, fun j hj => by rw [h j hj]⟩
  obtain ⟨i0, hi, hz0, hz1, hz2⟩ := info_parts Try.info22
  have HS1 := Lib.hid hs1
  clear hb1 hs1 hM0 HM hst hno hWk
  generalize madeCells #[.int .i64 0] n = cs0 at hmk HO0 HB0
  go_enter Try.func48, Try.ntmps48
  go_wp2
  generalize hw1 : w.alloc (.cells #[.slice aN n cN, .slice aM n cM] 33) = w1 at *
  clear hw1
  go_loopw [3, 4] (fun s3 s4 wr => ∃ (k : Nat) (a : Option Addr) (cap : Nat) (A : Nat → Option Addr) (C : Nat → Nat), k ≤ r ∧ lenOf s3 = k ∧ s4 = .slice a n cap ∧ OMat wr (w.heap.size + 1) s3 k A (fun _ => n) C (fun j s => (rnd n nx mk (j + 1) s : Nat)) ∧ Own wr (w.heap.size + 1) a n cap (fun s => (rnd n nx mk k s : Nat)) ∧ Below (w.heap.size + 1) w1 wr) (fun s3 _ _ => r - lenOf s3)
  case atStart => exact ⟨0, _, _, fun _ => none, fun _ => 0, Nat.zero_le _, rfl, rfl, OMat.nil _ _ _ _ _ _, HO0.out, HB0.out⟩
  clear HO0 HB0
  case round =>
    obtain ⟨k, a, cap, A, C, hk, hlen, rfl, hO, hC, hB⟩ := hrel
    obtain ⟨q0, q1⟩ := HBox.out wr hB
    have HO := Lib.hid hO
    have HC := Lib.hid hC
    have HB := Lib.hid hB
    have HL := Lib.hid hlen
    clear hO hC hB hlen
    go_wp2_with fail
    refine (HSp.out wr HB.out k a cap HC.out.ints).mono ?_
    rintro e w2 ⟨rfl, hS, hb2⟩
    have hsz := HB.out.size
    rw [HS1.out] at hsz
    have HB2 : Hid (Below (w.heap.size + 1) w1 w2) := HB.out.trans (hb2.mono (by omega))
    have HO2 := Lib.hid (HO.out.keep hb2)
    have HC2 := Lib.hid (HC.out.keep hb2)
    have HF2 : Hid (Own w2 (w.heap.size + 1) (some ⟨wr.heap.size + 1, 0, none⟩) n n (fun s => (rnd n nx mk (k + 1) s : Nat))) := hS.own (by omega) (by unfold maxLen; omega)
    have HEqk := Lib.hid (HEq.out k)
    have hlt2 := Lib.hid hS.lt
    clear hS hb2 HO HC HB q0 q1
    obtain ⟨r', hr'⟩ : ∃ r' : Bool, eqN n n (fun s => (rnd n nx mk (k + 1) s : Int)) (fun s => (rnd n nx mk k s : Int)) = r' := ⟨_, rfl⟩
    have HQ := Lib.hid (equalI_any (some ⟨wr.heap.size + 1, 0, none⟩) a n cap n n (fun s => (rnd n nx mk (k + 1) s : Int)) (fun s => (rnd n nx mk k s : Int)) w2 (by omega) (by omega) HF2.out.ints HC2.out.ints)
    rw [hr'] at HQ
    cases r'
    · have hns : ¬ Stays n nx mk k := fun h => by rw [HEqk.out.2 h] at hr'; cases hr'
      have hkr : k < r := by
        refine Nat.lt_of_le_of_ne hk ?_
        rintro rfl
        exact hns HSt.out
      clear hr' hns
      go_wp2_with fail
      refine (HQ.out).mono ?_
      rintro e w3 ⟨rfl, q, rfl⟩
      have HO3 := Lib.hid (HO2.out.keep (below_drewN (Below.refl _ _) q))
      have HF3 := Lib.hid (HF2.out.keep (below_drewN (Below.refl _ _) q))
      have HB3 : Hid (Below (w.heap.size + 1) w1 (w2.drewN q)) := below_drewN HB2.out q
      clear HO2 HC2 HF2 HB2 HQ
      generalize w2.drewN q = w3 at *
      have hsz3 := HB3.out.size
      rw [HS1.out] at hsz3
      go_wp2_with (at_builtin; refine wpList_append_own _ rfl _ _ 65 rfl (w.heap.size + 1) 22 i0 (.slice none 0 0) 1 24 Try.underlying65 hi hz0 hz1 hz2 rfl (by decide) _ _ _ rfl (HO3.out.top.alloc _) ⟨w3.heap.size, 0, none⟩ 1 1 [.slice (some ⟨wr.heap.size + 1, 0, none⟩) n n] rfl rfl (one_new _ _ _) (one_ok _ rfl) (by unfold maxLen; omega) (by omega) (by simp; omega) ?_)
      intro v' w4 hown hgrow _
      have hO4 := (HO3.out.keep (below_one w3 (.cells #[.slice (some ⟨wr.heap.size + 1, 0, none⟩) n n] 22))).snoc (HF3.out.keep (below_one w3 _)) hgrow hown
      have HF4 : Hid (Own w4 (w.heap.size + 1) (some ⟨wr.heap.size + 1, 0, none⟩) n n (fun s => (rnd n nx mk (k + 1) s : Nat))) := by
        have h := hO4.row k (by omega)
        unfold Hid
        simpa using h
      have HB4 : Hid (Below (w.heap.size + 1) w1 w4) := (HB3.out.alloc (by omega) _).grown hgrow (by simp; omega) (fun j hj => (HO3.out.top.lt j hj).1)
      have HO4 := Lib.hid (omat_congr hO4 (A' := fun j => if j < k then A j else some ⟨wr.heap.size + 1, 0, none⟩) (L' := fun _ => n) (C' := fun j => if j < k then C j else n) (Z' := fun j s => (rnd n nx mk (j + 1) s : Nat)) (fun j hj => by
        by_cases h : j < k
        · simp [h]
        · obtain rfl : j = k := by omega
          simp))
      have HL4 : Hid (lenOf v' = k + 1) := by
        obtain ⟨a9, c9, rfl, _⟩ := hO4.mat (fun j hj => by split <;> omega)
        rfl
      clear hown hgrow hO4
      go_wp2
      go_roundw
      case rel => exact ⟨k + 1, _, _, _, _, by omega, HL4.out, rfl, HO4.out, HF4.out, HB4.out⟩
      case measure => simp [HL4.out, HL.out]; omega
    · have hs : Stays n nx mk k := HEqk.out.1 hr'
      obtain rfl : k = r := by
        refine Nat.le_antisymm hk (Nat.le_of_not_lt fun h => HNo.out k h hs)
      clear hr' hs
      go_wp2_with fail
      refine (HQ.out).mono ?_
      rintro e w3 ⟨rfl, q, rfl⟩
      have HO3 := Lib.hid (HO2.out.keep (below_drewN (Below.refl _ _) q))
      have HB3 : Hid (Below (w.heap.size + 1) w1 (w2.drewN q)) := below_drewN HB2.out q
      clear HO2 HC2 HF2 HB2 HQ
      generalize w2.drewN q = w3 at *
      go_wp2
      go_ret
      exact ⟨_, A, C, rfl, omat_low HO3.out (by omega), HLow.out _ HB3.out⟩
end Go.Proofs.Ytkbbijhknbcflab
