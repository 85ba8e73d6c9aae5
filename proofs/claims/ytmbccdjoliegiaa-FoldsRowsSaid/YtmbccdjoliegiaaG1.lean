import Derived.Test.YtmbccdjoliegiaaC5
import Derived.Test.YtmbccdjoliegiaaI1
import Derived.Test.YtmbccdjoliegiaaA2
import Derived.RangeFuncNested
import Derived.RangeFuncBound
import Derived.RangeFuncCalls
import Derived.RangeFuncLeaves
import Derived.Shelf.Abstract
import Derived.Shelf.RegionOpen
import Derived.OwnWalkIn
import Derived.TacticsInMore
import Derived.LoopNIn
import Derived.LoopIn
import Derived.Maps.AppendAt
namespace Go.Proofs.Ytmbccdjoliegiaa
open Go.RowKit Go.Shelf

attribute [local go_sem] Oper.semAt_some

/-- A list of leaves as a slice's numbers. -/
def zl (p : List Nat) : Nat → Int := fun j => ((p.getD j 0 : Nat) : Int)
theorem has_zl (p : List Nat) (x : Nat) : has p.length (zl p) x = decide (x ∈ p) := by
  rw [Bool.eq_iff_iff, has_iff, decide_eq_true_eq]
  constructor
  · rintro ⟨j, hj, h⟩
    have : x = p[j] := by simp [zl, hj] at h; omega
    rw [this]; exact List.getElem_mem hj
  · intro h
    obtain ⟨j, hj, e⟩ := List.getElem_of_mem h
    exact ⟨j, hj, by simp [zl, hj, e]⟩

/-- All orders of n leaves that begin so, rising; k leaves lack. -/
def perms (n : Nat) : Nat → List Nat → List (List Nat)
  | 0, pre => [pre]
  | k + 1, pre => (List.range n).flatMap fun x => if x ∈ pre then [] else perms n k (pre ++ [x])
/-- Those whose next leaf is less than x. -/
def permsTo (n k : Nat) (pre : List Nat) (x : Nat) : List (List Nat) := (List.range x).flatMap fun x => if x ∈ pre then [] else perms n k (pre ++ [x])
theorem permsTo_zero (n k : Nat) (pre : List Nat) : permsTo n k pre 0 = [] := rfl
theorem permsTo_all (n k : Nat) (pre : List Nat) : permsTo n k pre n = perms n (k + 1) pre := rfl
theorem permsTo_old (n k : Nat) (pre : List Nat) (x : Nat) (h : x ∈ pre) : permsTo n k pre (x + 1) = permsTo n k pre x := by simp [permsTo, List.range_succ, h]
theorem permsTo_new (n k : Nat) (pre : List Nat) (x : Nat) (h : x ∉ pre) : permsTo n k pre (x + 1) = permsTo n k pre x ++ perms n k (pre ++ [x]) := by simp [permsTo, List.range_succ, h]
theorem permsTo_le (n k : Nat) (pre : List Nat) (x m : Nat) (h : x ≤ m) : permsTo n k pre x <+: permsTo n k pre m := by
  induction m with
  | zero => have : x = 0 := by omega
            subst this; exact List.prefix_refl _
  | succ m ih =>
    by_cases e : x = m + 1
    · subst e; exact List.prefix_refl _
    · refine (ih (by omega)).trans ?_
      by_cases hm : m ∈ pre
      · rw [permsTo_old _ _ _ _ hm]; exact List.prefix_refl _
      · rw [permsTo_new _ _ _ _ hm]; exact List.prefix_append _ _

/-- A slice that holds a list of leaves. -/
def Pl (p : List Nat) (v : Value) (W : World) : Prop := ∃ a cap, v = .slice a p.length cap ∧ p.length ≤ cap ∧ cap ≤ maxLen ∧ Ints W a p.length (zl p)

/-- A slice of the iterator's own. -/
def SlAt (B : Nat) (W : World) (a : Option Addr) (n cap : Nat) (z : Nat → Int) : Prop := Ints W a n z ∧ n ≤ cap ∧ cap ≤ maxLen ∧ ∀ b o s, a = some ⟨b, o, s⟩ → B ≤ b
theorem SlAt.keep {T : Nat → Prop} {B : Nat} {W W' : World} {a : Option Addr} {n cap : Nat} {z : Nat → Int} (h : SlAt B W a n cap z) (hb : Keep T W W') (hT : ∀ k, T k → k < B) : SlAt B W' a n cap z := by
  refine ⟨fun j hj => ?_, h.2⟩
  obtain ⟨b, o, rfl, hc⟩ := h.1 j hj
  exact ⟨b, o, rfl, hb.cell hc (fun ht => by have := hT _ ht; have := h.2.2.2 b o _ rfl; simp at *; omega)⟩
theorem Own.sl {w : World} {base n cap B : Nat} {a : Option Addr} {z : Nat → Int} (h : Own w base a n cap z) (hB : B ≤ base) : SlAt B w a n cap z := by
  refine ⟨h.ints, h.cap.1, h.cap.2, ?_⟩
  rintro b o s rfl
  rcases h.2 with ⟨h1, _⟩ | ⟨g, cap', cur, he, hb, _⟩
  · cases h1
  · cases he; omega
theorem zl_snoc (p : List Nat) (x : Nat) : (List.range (p.length + 1)).map (fun j => Value.int .i64 (zl (p ++ [x]) j)) = (List.range p.length).map (fun j => Value.int .i64 (zl p j)) ++ [.int .i64 x] := by
  rw [List.range_succ, List.map_append]
  congr 1
  · refine List.map_congr_left fun j hj => ?_
    have : j < p.length := List.mem_range.1 hj
    simp [zl, List.getElem?_append_left this]
  · simp [zl]
theorem own_snoc {w1 : World} {base : Nat} {v' : Value} {p : List Nat} {x : Nat} (h : w1.ownsRow base 3 1 v' (p.length + 1) ((List.range p.length).map (fun j => Value.int .i64 (zl p j)) ++ [.int .i64 x])) :
    ∃ a cap, v' = .slice a (p.length + 1) cap ∧ Own w1 base a (p ++ [x]).length cap (zl (p ++ [x])) := by
  rw [← zl_snoc] at h
  obtain ⟨a, cap, h1, h2⟩ := own_mk h
  exact ⟨a, cap, h1, by rw [List.length_append]; exact h2⟩

set_option maxRecDepth 100000 in
set_option maxHeartbeats 4000000 in
theorem goOn_in (n : Nat) (hn : n ≤ 8) (T : Nat → Prop) (l B : Nat) (J Jx : List (List Nat) → World → Prop) (xs : List (List Nat)) (hT : ∀ k, T k → k < B) (hJ : OwnFrom B J)
    (hY : ∀ pre x v W1, pre ++ [x] <+: xs → B ≤ W1.heap.size → J pre W1 → Pl x v W1 → Avoid T v → YieldAt Fence.wide 0 Try.prog l #[v] W1 fun e W' =>
      Keep T W1 W' ∧ ((e = .returned (.bool true) ∧ J (pre ++ [x]) W') ∨ (e = .returned (.bool false) ∧ Jx (pre ++ [x]) W'))) :
    ∀ (k : Nat) (pre : List Nat) (dn : List (List Nat)) (a : Option Addr) (cap : Nat) (W : World), pre.length + k = n → dn ++ perms n k pre <+: xs → B ≤ W.heap.size → SlAt B W a pre.length cap (zl pre) → J dn W →
      CallsIn Fence.wide 0 Try.prog 83 #[.slice a pre.length cap, .int .i64 n, .func (.yield l) #[] #[]] W fun e W' =>
        Keep T W W' ∧ ((e = .returned (.bool true) ∧ J (dn ++ perms n k pre) W') ∨ (e = .returned (.bool false) ∧ ∃ q, q <+: xs ∧ Jx q W')) := by
  intro k
  induction k with
  | zero =>
    intro pre dn a cap W hk hx hB hs hj
    obtain ⟨fn, tmps, assign, body, hy, hR⟩ := hY dn pre (.slice a pre.length cap) W (by simpa [perms] using hx) hB hj ⟨a, cap, rfl, hs.2.1, hs.2.2.1, hs.1⟩ (fun b o s n c h ht => by cases h; have := hT _ ht; have := hs.2.2.2 b o s rfl; omega)
    have G : ((pre.length : Int) == (n : Int)) = true := by simp; omega
    have HX := Lib.hid hx
    clear hk hx
    refine callsIn_of_wp Try.func83 rfl trivial ?_ rfl
    simp only [Try.ntmps83, List.size_toArray, List.length_cons, List.length_nil, Nat.reduceAdd, Nat.reduceSub, Array.replicate_succ, Array.replicate_zero, List.push_toArray, List.append_toArray, List.nil_append, List.cons_append]
    have hw1 : ∀ f, Fence.wide.fn f := fun _ => trivial
    have hw2 : Fence.wide.depth = none := rfl
    gi_wp2
    refine hR.mono ?_
    rintro e W2 ⟨hb, (⟨rfl, hj2⟩ | ⟨rfl, hj2⟩)⟩
    · gi_wp2
      go_ret
      exact ⟨hb, Or.inl ⟨rfl, by simpa [perms] using hj2⟩⟩
    · gi_wp2
      go_ret
      exact ⟨hb, Or.inr ⟨rfl, _, by simpa [perms] using HX.out, hj2⟩⟩
  | succ k ih =>
    intro pre dn a cap W hk hx hB hs hj
    have hw1 : ∀ f, Fence.wide.fn f := fun _ => trivial
    have hw2 : Fence.wide.depth = none := rfl
    have hpl : pre.length ≤ 8 := by omega
    have HK := Lib.hid hk
    have G : ((pre.length : Int) == (n : Int)) = false := by simp; omega
    have HX := Lib.hid hx
    have HS := Lib.hid hs
    have HJ := Lib.hid hj
    have HIH := Lib.hid ih
    obtain ⟨i0, hi, hz0, hz1, hz2⟩ := info_parts Try.info3
    clear hk hx hs hj ih hY
    refine callsIn_of_wp Try.func83 rfl trivial ?_ rfl
    simp only [Try.ntmps83, List.size_toArray, List.length_cons, List.length_nil, Nat.reduceAdd, Nat.reduceSub, Array.replicate_succ, Array.replicate_zero, List.push_toArray, List.append_toArray, List.nil_append, List.cons_append]
    gi_wp2
    gi_loopw [16] (fun i wr => ∃ x : Nat, x ≤ n ∧ i = .int .i64 x ∧ Keep T W wr ∧ J (dn ++ permsTo n k pre x) wr) (fun i _ => n - (intOf i).toNat)
    case atStart => exact ⟨0, Nat.zero_le _, rfl, Keep.refl _ _, by rw [permsTo_zero, List.append_nil]; exact HJ.out⟩
    case round =>
      obtain ⟨x, hxn, rfl, hb, hj⟩ := hrel
      have HB := Lib.hid hb
      have HJ2 := Lib.hid hj
      have hB2 : B ≤ wr.heap.size := Nat.le_trans hB hb.size
      have HS2 := Lib.hid (HS.out.keep hb hT)
      clear hb hj
      by_cases hlt : x < n
      · by_cases hin : x ∈ pre
        · have hr : Hid (has pre.length (zl pre) x = true) := by rw [Hid, has_zl]; simp [hin]
          have hJ3 : Hid (J (dn ++ permsTo n k pre (x + 1)) wr) := by rw [Hid, permsTo_old _ _ _ _ hin]; exact HJ2.out
          clear hin
          gi_wp2_with (gi_at_call 78; refine (callsIn_wide.2 (contains_r true _ _ _ _ _ _ hr.out (by omega) HS2.out.1)).mono ?_; rintro e w' ⟨rfl, rfl⟩)
          go_roundw
          case rel => exact ⟨x + 1, by omega, by go_num, HB.out, hJ3.out⟩
          case measure => simp [intOf]; omega
        · have hr : Hid (has pre.length (zl pre) x = false) := by rw [Hid, has_zl]; simp [hin]
          have Hin := Lib.hid hin
          clear hin
          gi_wp2_with (gi_at_call 78; refine (callsIn_wide.2 (contains_r false _ _ _ _ _ _ hr.out (by omega) HS2.out.1)).mono ?_; rintro e w' ⟨rfl, rfl⟩)
          refine (callsIn_wide.2 (clone_any _ _ _ _ _ (by omega) HS2.out.1)).mono ?_
          rintro e w1 ⟨a1, cap1, rfl, hO1, hb1⟩
          have HO1 := Lib.hid hO1
          have HB1 := Lib.hid hb1
          have hs1 : wr.heap.size ≤ w1.heap.size := hb1.size
          clear hO1 hb1
          gi_wp2_with (gi_at_builtin; refine wpListIn_append_own _ rfl _ _ 22 rfl wr.heap.size 3 i0 (.int .i64 0) 1 8 Try.underlying22 hi hz0 hz1 hz2 rfl (by decide) _ _ _ rfl (HO1.out.alloc _) ⟨w1.heap.size, 0, none⟩ 1 1 [.int .i64 x] rfl rfl (one_new _ _ _) (one_ok _ rfl) (by unfold maxLen; omega) (by omega) (by simp; omega) ?_)
          intro v' w2 hown hgrow _
          have hb2 : Below wr.heap.size wr w2 := (HB1.out.alloc hs1 _).grown hgrow (by simp; omega) (fun k hk => (World.ownsRow.lt HO1.out k hk).1)
          obtain ⟨a2, cap2, rfl, hO2⟩ := own_snoc hown
          have hC := (HIH.out (pre ++ [x]) (dn ++ permsTo n k pre x) a2 cap2 w2 (by have := HK.out; simp; omega)
            (by
              refine List.IsPrefix.trans ?_ HX.out
              rw [List.append_assoc, ← permsTo_new _ _ _ _ Hin.out, ← permsTo_all]
              exact (List.prefix_append_right_inj _).2 (permsTo_le _ _ _ _ _ hlt))
            (Nat.le_trans hB2 hb2.size) (hO2.sl hB2) (ownFrom_call hJ HJ2.out hb2))
          have HB2 : Hid (Keep T W w2) := HB.out.trans (Keep.of hb2)
          rw [show (pre ++ [x]).length = pre.length + 1 by simp] at hC
          have HC := Lib.hid hC
          clear hown hgrow hb2 hO2 hC
          gi_wp2
          refine HC.out.mono ?_
          rintro e W3 ⟨hb3, (⟨rfl, hj3⟩ | ⟨rfl, q, hq, hj3⟩)⟩
          · have HB3 : Hid (Keep T W W3) := HB2.out.trans hb3
            have HJ3 : Hid (J (dn ++ permsTo n k pre (x + 1)) W3) := by rw [Hid, permsTo_new _ _ _ _ Hin.out, ← List.append_assoc]; exact hj3
            clear hb3 hj3
            gi_wp2
            go_roundw
            case rel => exact ⟨x + 1, by omega, by go_num, HB3.out, HJ3.out⟩
            case measure => simp [intOf]; omega
          · have HB3 : Hid (Keep T W W3) := HB2.out.trans hb3
            have HJ3 : Hid (q <+: xs ∧ Jx q W3) := ⟨hq, hj3⟩
            clear hb3 hj3 hq
            gi_wp2
            go_ret
            exact ⟨HB3.out, Or.inr ⟨rfl, q, HJ3.out.1, HJ3.out.2⟩⟩
      · have e : x = n := by omega
        have HF : Hid (J (dn ++ perms n (k + 1) pre) wr) := by rw [Hid, ← permsTo_all]; exact (congrArg (fun q => J (dn ++ permsTo n k pre q) wr) e).mp HJ2.out
        have hge : (n : Int) ≤ x := by omega
        clear e
        gi_wp2
        go_ret
        exact ⟨HB.out, Or.inl ⟨rfl, HF.out⟩⟩

end Go.Proofs.Ytmbccdjoliegiaa
