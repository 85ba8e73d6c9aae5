import Derived.Test.YtkbbijhknbcflabC2
import Derived.Test.YtkbbijhknbcflabB2
import Derived.StillTailTactics
/-
  split: the classes of a round.
-/
namespace Go.Proofs.Ytkbbijhknbcflab
open Go.RowKit

theorem spl_yes {n : Nat} {nx mk c : Nat → Nat} {s k : Nat} (h : mk s = mk k) (h2 : unc c (nx s) n = unc c (nx k) n) : spl n nx mk c s (k + 1) = spl n nx mk c s k ||| 2 ^ k := by simp [spl, h, h2]
theorem spl_no1 {n : Nat} {nx mk c : Nat → Nat} {s k : Nat} (h : ¬ mk s = mk k) : spl n nx mk c s (k + 1) = spl n nx mk c s k := by simp [spl, h]
theorem spl_no2 {n : Nat} {nx mk c : Nat → Nat} {s k : Nat} (h : ¬ unc c (nx s) n = unc c (nx k) n) : spl n nx mk c s (k + 1) = spl n nx mk c s k := by simp [spl, h]
theorem spl_ltk {n : Nat} {nx mk c : Nat → Nat} (s k : Nat) : spl n nx mk c s k < 2 ^ k := lt_of_bits fun i hi => ((bit_spl c s k i).1 hi).1

/-- The row that is built, and the box of the works. -/
structure SpI (aN : Option Addr) (n cN : Nat) (aM : Option Addr) (cM : Nat) (w wr : World) (F : Nat → Int) : Prop where
  box : wr.heap[w.heap.size]? = some (.cells #[.slice aN n cN, .slice aM n cM] 33)
  row : SumAt wr (w.heap.size + 1) n F
  bel : Below w.heap.size w wr
theorem SpI.congr {aN : Option Addr} {n cN : Nat} {aM : Option Addr} {cM : Nat} {w wr : World} {F G : Nat → Int} (h : SpI aN n cN aM cM w wr F) (e : ∀ j, j < n → F j = G j) : SpI aN n cN aM cM w wr G := ⟨h.box, h.row.congr e, h.bel⟩
theorem SpI.drewN {aN : Option Addr} {n cN : Nat} {aM : Option Addr} {cM : Nat} {w wr : World} {F : Nat → Int} (h : SpI aN n cN aM cM w wr F) (q : Nat) : SpI aN n cN aM cM w (wr.drewN q) F := ⟨h.box, h.row, below_drewN h.bel q⟩
theorem SpI.set {aN : Option Addr} {n cN : Nat} {aM : Option Addr} {cM : Nat} {w wr : World} {F : Nat → Int} (h : SpI aN n cN aM cM w wr F) {j : Nat} (hj : j < n) (v : Int) :
    SpI aN n cN aM cM w (wr.setCell ⟨w.heap.size + 1, j, none⟩ (.int .i64 v)) (fun i => if i = j then v else F i) :=
  ⟨by rw [Below.heap_setCell _ _ _ _ (by simp)]; exact h.box, h.row.set hj, h.bel.setCell (by simp) _⟩
/-- What the row holds: whole classes up to a state, and of its class what is there so far. -/
def spF (n : Nat) (nx mk c : Nat → Nat) (s t : Nat) : Nat → Int := fun i => if i < s then (spl n nx mk c i n : Nat) else if i = s then (spl n nx mk c s t : Nat) else 0

set_option maxHeartbeats 4000000 in
set_option maxRecDepth 100000 in
theorem split_any (aN : Option Addr) (cN : Nat) (aM : Option Addr) (cM : Nat) (a : Option Addr) (cap n : Nat) (nx mk c : Nat → Nat) (w : World) (h1 : 1 ≤ n) (hWk : Wk w aN n aM nx mk) (hc : ∀ s, s < n → c s < 2 ^ n) (hI : Ints w a n (fun i => (c i : Int))) :
    Calls Try.prog 59 #[.agg #[.slice aN n cN, .slice aM n cM], .slice a n cap] w fun e w' => e = .returned (.slice (some ⟨w.heap.size + 1, 0, none⟩) n n) ∧ SumAt w' (w.heap.size + 1) n (fun s => (spl n nx mk c s n : Nat)) ∧ Below w.heap.size w w' := by
  have hn := hWk.n6
  have hmk : ∀ W : World, (Instr.makeSlice 22 (.int .i64 (n : Int)) (.int .i64 (n : Int))).run Try.prog W = .ok (.slice (some ⟨W.heap.size, 0, none⟩) n n) (W.alloc (.cells (madeCells #[.int .i64 0] n) 3)) := fun W => make_int n (by omega) W
  obtain ⟨bN, oN, eN, _⟩ := hWk.N 0 (by omega)
  obtain ⟨bM, oM, eM, _⟩ := hWk.M 0 (by omega)
  have HNc : Hid (∀ W, Below w.heap.size w W → ∀ k, k < n → W.cell? ⟨bN, oN + k, none⟩ = some (.int .i64 (nx k : Int))) := by
    intro W hW k hk
    obtain ⟨b2, o2, e, c1⟩ := hWk.N k hk
    rw [eN] at e; injection e with e; injection e with e1 e2
    subst e1 e2
    rw [hW.cell (p := ⟨bN, oN + k, none⟩) (World.block_lt_of_cell? _ _ c1)]; exact c1
  have HMc : Hid (∀ W, Below w.heap.size w W → ∀ k, k < n → W.cell? ⟨bM, oM + k, none⟩ = some (.int .i64 (mk k : Int))) := by
    intro W hW k hk
    obtain ⟨b2, o2, e, c1⟩ := hWk.M k hk
    rw [eM] at e; injection e with e; injection e with e1 e2
    subst e1 e2
    rw [hW.cell (p := ⟨bM, oM + k, none⟩) (World.block_lt_of_cell? _ _ c1)]; exact c1
  have HU : Hid (∀ W, Below w.heap.size w W → ∀ k, k < n → ∀ q, Calls Try.prog 62 #[.slice a n cap, .int .i64 (nx k : Nat)] (W.drewN q) fun e w' => e = .returned (.int .i64 (unc c (nx k) n : Nat)) ∧ w' = W.drewN q) := by
    intro W hW k hk q
    exact (union_any a cap n c (nx k) (W.drewN q) hn (hWk.nx_lt k hk) hc (hI.keep (Nat.le_refl _) (below_drewN hW q))).mono fun _ _ ⟨h1, h2⟩ => ⟨h1, h2.symm⟩
  have HI0 : Hid (SpI aN n cN aM cM w ((w.alloc (.cells #[.slice aN n cN, .slice aM n cM] 33)).alloc (.cells (madeCells #[.int .i64 0] n) 3)) (fun _ => 0)) := by
    refine ⟨heap_two1 w _ _, ?_, below_two w _ _⟩
    have := made_sum (w.alloc (.cells #[.slice aN n cN, .slice aM n cM] 33)) n
    rw [show (w.alloc (.cells #[.slice aN n cN, .slice aM n cM] 33)).heap.size = w.heap.size + 1 by simp] at this
    exact this
  generalize madeCells #[.int .i64 0] n = cs0 at hmk HI0
  clear hWk hc hI
  subst eN eM
  go_enter Try.func59, Try.ntmps59
  go_wp2
  go_loopw [13] (fun s13 wr => ∃ s : Nat, s ≤ n ∧ s13 = .int .i64 s ∧ SpI (some ⟨bN, oN, none⟩) n cN (some ⟨bM, oM, none⟩) cM w wr (fun i => if i < s then (spl n nx mk c i n : Nat) else 0)) (fun s13 _ => n - (intOf s13).toNat)
  case atStart => exact ⟨0, Nat.zero_le _, rfl, HI0.out.congr (fun j _ => by simp)⟩
  clear HI0
  case round =>
    rename World => wo
    obtain ⟨s, hs, rfl, hA⟩ := hrel
    have HA := Lib.hid hA
    clear hA
    by_cases hlt : s < n
    · go_wp2
      go_loopw [18] (fun s18 wr => ∃ t : Nat, t ≤ n ∧ s18 = .int .i64 t ∧ SpI (some ⟨bN, oN, none⟩) n cN (some ⟨bM, oM, none⟩) cM w wr (spF n nx mk c s t)) (fun s18 _ => n - (intOf s18).toNat)
      case atStart => exact ⟨0, Nat.zero_le _, rfl, HA.out.congr (fun j _ => by unfold spF; by_cases h : j < s; simp [h]; by_cases h2 : j = s; simp [h2, spl]; simp [h, h2])⟩
      case round =>
        rename World => wr
        obtain ⟨t, ht, rfl, hB⟩ := hrel
        have HB := Lib.hid hB
        obtain ⟨q0, q1⟩ : wr.cell? ⟨w.heap.size, 0, none⟩ = some (.slice (some ⟨bN, oN, none⟩) n cN) ∧ wr.cell? ⟨w.heap.size, 1, none⟩ = some (.slice (some ⟨bM, oM, none⟩) n cM) := ⟨block_cell hB.box 0, block_cell hB.box 1⟩
        obtain ⟨r0, r1⟩ := hB.row.cell hlt
        clear hB
        by_cases htn : t < n
        · have n1 := HNc.out wr HB.out.bel s hlt
          have n2 := HNc.out wr HB.out.bel t htn
          have m1 := HMc.out wr HB.out.bel s hlt
          have m2 := HMc.out wr HB.out.bel t htn
          have HU1 := Lib.hid (HU.out wr HB.out.bel s hlt)
          have HU2 := Lib.hid (HU.out wr HB.out.bel t htn)
          have hlt' : (s : Int) < (n : Int) := by omega
          have htn' : (t : Int) < (n : Int) := by omega
          have hF : spF n nx mk c s t s = (spl n nx mk c s t : Nat) := by simp [spF]
          rw [hF] at r0
          by_cases hm : mk s = mk t
          · have K1 : ((mk s : Int) == (mk t : Int)) = true := by simp [hm]
            by_cases hu : unc c (nx s) n = unc c (nx t) n
            · have K2 : (((unc c (nx s) n : Nat) : Int) == ((unc c (nx t) n : Nat) : Int)) = true := by simp [hu]
              have HO := Lib.hid (or_wrap (S := spl n nx mk c s t) (k := t) (Nat.lt_of_lt_of_le (spl_ltk s t) (two_le6 (show t ≤ 6 by omega))) (show t ≤ 6 by omega))
              have HK := Lib.hid (spl_yes hm hu)
              clear hm hu
              go_wp2
              go_quiet ((first | (go_at_call 62; with_reducible exact Calls.quiet_of_same (HU1.out _)) | (go_at_call 62; with_reducible exact Calls.quiet_of_same (HU2.out _))))
              go_wp2
              have HD := Lib.hid (HB.out.drewN nq)
              clear q0 q1 r0 r1 n1 n2 m1 m2
              generalize wr.drewN nq = wD at HD ⊢
              obtain ⟨r0, r1⟩ := HD.out.row.cell hlt
              rw [hF] at r0
              go_still_tail 8, (by kernel_rfl)
              change wpList _ _ _ _ _ wD.drew
              have HD2 := Lib.hid (HD.out.drewN 1)
              have HS : Hid (SpI (some ⟨bN, oN, none⟩) n cN (some ⟨bM, oM, none⟩) cM w ((wD.drew).setCell ⟨w.heap.size + 1, s, none⟩ (.int .i64 ((spl n nx mk c s t ||| 2 ^ t : Nat) : Int))) (spF n nx mk c s (t + 1))) := by
                have h := (HD.out.drewN 1).set hlt ((spl n nx mk c s t ||| 2 ^ t : Nat) : Int)
                refine h.congr fun j _ => ?_
                unfold spF
                by_cases e : j = s
                · subst e; simp [HK.out]
                · simp [e]
              obtain ⟨r2, r3⟩ := HD2.out.row.cell hlt
              rw [show wD.drewN 1 = wD.drew from rfl] at r2 r3
              rw [hF] at r2
              have hO := HO.out
              clear r0 r1 HD HD2
              generalize wD.drew = wE at r2 r3 HS ⊢
              go_wp2
              go_roundw
              case rel => exact ⟨t + 1, by omega, by go_num, by first | exact HS.out | (rw [hO]; exact HS.out)⟩
              case measure => simp [intOf]; omega
            · have K2 : (((unc c (nx s) n : Nat) : Int) == ((unc c (nx t) n : Nat) : Int)) = false := by rw [beq_eq_false_iff_ne]; omega
              have HK := Lib.hid (spl_no2 (mk := mk) (k := t) hu)
              clear hm hu
              have HS : Hid (SpI (some ⟨bN, oN, none⟩) n cN (some ⟨bM, oM, none⟩) cM w wr (spF n nx mk c s (t + 1))) := HB.out.congr (fun j _ => by unfold spF; rw [HK.out])
              go_wp2
              go_quiet ((first | (go_at_call 62; with_reducible exact Calls.quiet_of_same (HU1.out _)) | (go_at_call 62; with_reducible exact Calls.quiet_of_same (HU2.out _))))
              clear q0 q1 r0 r1 n1 n2 m1 m2
              go_wp2
              go_roundw
              case rel => exact ⟨t + 1, by omega, by go_num, HS.out.drewN _⟩
              case measure => simp [intOf]; omega
          · have K1 : ((mk s : Int) == (mk t : Int)) = false := by rw [beq_eq_false_iff_ne]; omega
            have HK := Lib.hid (spl_no1 (nx := nx) (c := c) (n := n) hm)
            clear hm
            have HS : Hid (SpI (some ⟨bN, oN, none⟩) n cN (some ⟨bM, oM, none⟩) cM w wr (spF n nx mk c s (t + 1))) := HB.out.congr (fun j _ => by unfold spF; rw [HK.out])
            go_wp2
            go_quiet ((first | (go_at_call 62; with_reducible exact Calls.quiet_of_same (HU1.out _)) | (go_at_call 62; with_reducible exact Calls.quiet_of_same (HU2.out _))))
            clear q0 q1 r0 r1 n1 n2 m1 m2
            go_wp2
            go_roundw
            case rel => exact ⟨t + 1, by omega, by go_num, HS.out.drewN _⟩
            case measure => simp [intOf]; omega
        · obtain rfl : t = n := by omega
          have HS : Hid (SpI (some ⟨bN, oN, none⟩) t cN (some ⟨bM, oM, none⟩) cM w wr (fun i => if i < s + 1 then (spl t nx mk c i t : Nat) else 0)) := HB.out.congr (fun j _ => by
            unfold spF
            by_cases h : j < s
            · simp [h, show j < s + 1 by omega]
            · by_cases h2 : j = s
              · subst h2; simp
              · simp [h, h2, show ¬ j < s + 1 by omega])
          clear q0 q1 r0 r1
          go_wp2
          go_roundw
          case rel => exact ⟨s + 1, by omega, by go_num, HS.out⟩
          case measure => simp [intOf]; omega
    · obtain rfl : s = n := by omega
      have HS : Hid (SumAt wo (w.heap.size + 1) s (fun j => (spl s nx mk c j s : Nat))) := HA.out.row.congr (fun j hj => by simp [hj])
      go_wp2
      go_ret
      exact ⟨rfl, HS.out, HA.out.bel⟩
end Go.Proofs.Ytkbbijhknbcflab
