import Derived.Test.YtmbccdjoliegiaaMath5
import Derived.Test.YtmbccdjoliegiaaT4
namespace Go.Proofs.Ytmbccdjoliegiaa
open Go.RowKit

/-- A row that holds a list of leaves. -/
def OwnP (w : World) (base : Nat) (u : Value) (p : List Nat) : Prop := ∃ a cap, u = .slice a p.length cap ∧ Own w base a p.length cap (zl p)
/-- A slice of slices of the call's own. -/
def RowsL (w : World) (bt base : Nat) (v : Value) (L : List (List Nat)) : Prop := ∃ vs : List Value, vs.length = L.length ∧ w.ownsRow bt 22 1 v L.length vs ∧ ∀ (i : Nat) (p : List Nat) (u : Value), L[i]? = some p → vs[i]? = some u → OwnP w base u p

theorem OwnP.keep {w w' : World} {base : Nat} {u : Value} {p : List Nat} (h : OwnP w base u p) (hb : Below w.heap.size w w') : OwnP w' base u p := by
  obtain ⟨a, cap, h1, h2⟩ := h
  exact ⟨a, cap, h1, h2.keep hb⟩
theorem OwnP.kept {w w' : World} {bt base : Nat} {u v : Value} {p : List Nat} {n : Nat} {xs : List Value} (h : OwnP w base u p) (ht : w.ownsRow bt 22 1 v n xs) (hg : w.grownBy w' v.ownBlock) : OwnP w' base u p := by
  obtain ⟨a, cap, h1, h2⟩ := h
  exact ⟨a, cap, h1, World.ownsRow.kept h2 hg (own_apart h2 ht (by decide))⟩
theorem OwnP.pl {w : World} {base : Nat} {u : Value} {p : List Nat} (h : OwnP w base u p) : Pl p u w := by
  obtain ⟨a, cap, h1, h2⟩ := h
  exact ⟨a, cap, h1, h2.cap.1, h2.cap.2, h2.ints⟩
theorem RowsL.keep {w w' : World} {bt base : Nat} {v : Value} {L : List (List Nat)} (h : RowsL w bt base v L) (hb : Below w.heap.size w w') : RowsL w' bt base v L := by
  obtain ⟨vs, h1, h2, h3⟩ := h
  exact ⟨vs, h1, ownsRow_below h2 hb, fun i p u hp hu => (h3 i p u hp hu).keep hb⟩
theorem RowsL.nil (w : World) (bt base : Nat) : RowsL w bt base (.slice none 0 0) [] := ⟨[], rfl, World.ownsRow_nil _ _ _ _, fun i p u hp => by simp at hp⟩
theorem RowsL.one {w : World} {bt base : Nat} {u : Value} {p : List Nat} (h : OwnP w base u p) (hb : bt ≤ w.heap.size) : RowsL (w.alloc (.cells #[u] 22)) bt base (.slice (some ⟨w.heap.size, 0, none⟩) 1 1) [p] := by
  refine ⟨[u], rfl, ⟨rfl, .inr ⟨w.heap.size, 1, #[u], rfl, hb, heap_alloc_new w _, Nat.le_refl _, by unfold maxLen; omega, rfl, rfl⟩⟩, fun i q u' hq hu' => ?_⟩
  cases i with
  | zero => simp at hq hu'; subst hq hu'; exact h.keep ((Below.refl _ _).alloc (Nat.le_refl _) _)
  | succ i => simp at hq
/-- Behind an append of other rows. -/
theorem RowsL.cat {w w' : World} {bt base : Nat} {v v' : Value} {L M : List (List Nat)} {vs ms : List Value} (hl : vs.length = L.length) (ht : w.ownsRow bt 22 1 v L.length vs) (h3 : ∀ (i : Nat) (p : List Nat) (u : Value), L[i]? = some p → vs[i]? = some u → OwnP w base u p)
    (hm : ms.length = M.length) (hr : ∀ (i : Nat) (p : List Nat) (u : Value), M[i]? = some p → ms[i]? = some u → OwnP w base u p) (hg : w.grownBy w' v.ownBlock) (ht' : w'.ownsRow bt 22 1 v' (L.length + M.length) (vs ++ ms)) : RowsL w' bt base v' (L ++ M) := by
  refine ⟨vs ++ ms, by simp [hl, hm], by rw [List.length_append]; exact ht', fun i p u hp hu => ?_⟩
  by_cases e : i < L.length
  · rw [List.getElem?_append_left e] at hp
    rw [List.getElem?_append_left (by omega)] at hu
    exact (h3 i p u hp hu).kept ht hg
  · rw [List.getElem?_append_right (by omega)] at hp
    rw [List.getElem?_append_right (by omega), hl] at hu
    exact (hr _ p u hp hu).kept ht hg

theorem Own.weaken {w : World} {base base' n cap : Nat} {a : Option Addr} {z : Nat → Int} (h : Own w base a n cap z) (hb : base' ≤ base) : Own w base' a n cap z := by
  refine ⟨h.1, ?_⟩
  rcases h.2 with hn | ⟨g, cp, cur, hv, hg, r⟩
  · exact Or.inl hn
  · exact Or.inr ⟨g, cp, cur, hv, Nat.le_trans hb hg, r⟩

theorem perms_ne {n : Nat} : ∀ (k : Nat) (pre : List Nat), pre.Nodup → (∀ y ∈ pre, y < n) → pre.length + k = n → perms n k pre ≠ []
  | 0, pre, _, _, _ => by simp [perms]
  | k + 1, pre, hd, hx, hk => by
    obtain ⟨x, hxn, hnot⟩ : ∃ x, x < n ∧ x ∉ pre := by
      refine Decidable.byContradiction fun hno => ?_
      have := nodup_le (List.range n) pre List.nodup_range (fun x hxm => Decidable.byContradiction fun h => hno ⟨x, List.mem_range.1 hxm, h⟩)
      rw [List.length_range] at this
      omega
    have h1 := perms_ne k (pre ++ [x]) (by
      rw [List.nodup_append]
      exact ⟨hd, by simp, fun a ha b hb => by simp at hb; subst hb; exact fun e => hnot (e ▸ ha)⟩) (fun y hy => by
      simp at hy
      rcases hy with hy | rfl
      · exact hx y hy
      · exact hxn) (by simp; omega)
    intro h0
    obtain ⟨p, hp⟩ : ∃ p, p ∈ perms n k (pre ++ [x]) := List.exists_mem_of_ne_nil _ h1
    have : p ∈ perms n (k + 1) pre := by
      simp only [perms, List.mem_flatMap, List.mem_range]
      exact ⟨x, hxn, by simp only [hnot, if_false]; exact hp⟩
    rw [h0] at this
    cases this

theorem has_zl' (p : List Nat) (x : Nat) : has p.length (zl p) x = decide (x ∈ p) := has_zl p x
theorem has_step {k : Nat} {z : Nat → Int} {x : Int} : has (k + 1) z x = (has k z x || decide (z k = x)) := by
  rw [Bool.eq_iff_iff, Bool.or_eq_true, has_iff, has_iff, decide_eq_true_eq]
  constructor
  · rintro ⟨j, hj, h⟩
    by_cases e : j = k
    · right; rw [← e]; exact h
    · left; exact ⟨j, by omega, h⟩
  · rintro (⟨j, hj, h⟩ | h)
    · exact ⟨j, by omega, h⟩
    · exact ⟨k, by omega, h⟩

theorem perms_pow {n : Nat} (hn : n ≤ 7) (k : Nat) (hk : k ≤ n) (pre : List Nat) : (perms n k pre).length ≤ 1000000 := by
  refine Nat.le_trans (perms_many n k pre) ?_
  have h1 : n ^ k ≤ 7 ^ k := Nat.pow_le_pow_left hn k
  have h2 : (7 : Nat) ^ k ≤ 7 ^ 7 := Nat.pow_le_pow_right (by decide) (by omega)
  have h3 : (7 : Nat) ^ 7 = 823543 := by decide
  omega
theorem permsTo_pow {n : Nat} (hn : n ≤ 7) (k : Nat) (hk : k + 1 ≤ n) (pre : List Nat) (x : Nat) (hx : x ≤ n) : (permsTo n k pre x).length ≤ 1000000 :=
  Nat.le_trans (List.IsPrefix.length_le (permsTo_le n k pre x n hx)) (by rw [permsTo_all]; exact perms_pow hn (k + 1) hk pre)

set_option maxHeartbeats 8000000 in
set_option maxRecDepth 100000 in
theorem all_any (n : Nat) (hn : n ≤ 7) (b0 : Nat) : ∀ (k : Nat) (pre : List Nat) (a : Option Addr) (cap : Nat) (W : World), pre.length + k = n → pre.Nodup → (∀ y ∈ pre, y < n) → b0 ≤ W.heap.size → Own W b0 a pre.length cap (zl pre) →
    Calls Try.prog 58 #[.int .i64 n, .slice a pre.length cap] W fun e w' => ∃ v, e = .returned v ∧ RowsL w' W.heap.size b0 v (perms n k pre) ∧ Below W.heap.size W w' := by
  intro k
  induction k with
  | zero =>
    intro pre a cap W hk _ _ hB hO
    have G : ((pre.length : Int) == (n : Int)) = true := by simp; omega
    have HO : Hid (RowsL (W.alloc (.cells #[.slice a pre.length cap] 22)) W.heap.size b0 (.slice (some ⟨W.heap.size, 0, none⟩) 1 1) [pre]) := RowsL.one ⟨a, cap, rfl, hO⟩ (Nat.le_refl _)
    clear hk hO
    go_enter Try.func58, Try.ntmps58
    go_wp2
    go_ret
    exact ⟨_, rfl, HO.out, (Below.refl _ _).alloc (Nat.le_refl _) _⟩
  | succ k ih =>
    intro pre a cap W hk hd hx hB hO
    have HD := Lib.hid hd
    have HX := Lib.hid hx
    clear hd hx
    have hpl : pre.length ≤ 7 := by omega
    have hkn : k + 1 ≤ n := by omega
    have HK := Lib.hid hk
    have G : ((pre.length : Int) == (n : Int)) = false := by simp; omega
    have HO := Lib.hid hO
    have HIH := Lib.hid ih
    have hcap : pre.length ≤ cap ∧ cap ≤ maxLen := hO.cap
    have hc1 := hcap.1
    have hc2 : cap ≤ 9223372036854775807 := by have := hcap.2; unfold maxLen at this; omega
    obtain ⟨i0, hi, hz0, hz1, hz2⟩ := info_parts Try.info3
    obtain ⟨j0, hj, hy0, hy1, hy2⟩ := info_parts Try.info22
    clear hk hO ih hcap
    go_enter Try.func58, Try.ntmps58
    go_wp2
    go_loopw [5, 17] (fun v i wr => ∃ x : Nat, x ≤ n ∧ i = .int .i64 x ∧ RowsL wr W.heap.size b0 v (permsTo n k pre x) ∧ Below W.heap.size W wr) (fun _ i _ => n - (intOf i).toNat)
    case atStart => exact ⟨0, Nat.zero_le _, rfl, RowsL.nil _ _ _, Below.refl _ _⟩
    case round =>
      obtain ⟨x, hxn, rfl, hR, hb⟩ := hrel
      obtain ⟨wo, hwo⟩ : ∃ wo : World, wo = wr := ⟨_, rfl⟩
      subst hwo
      have HR := Lib.hid hR
      have HB := Lib.hid hb
      have hB2 : b0 ≤ wo.heap.size := Nat.le_trans hB hb.size
      have HO2 := Lib.hid (HO.out.keep hb)
      have hI := HO2.out.ints
      clear hR hb
      by_cases hlt : x < n
      · have HI := Lib.hid hI
        clear hI
        go_wp2
        go_loop [7, 22] (fun o j => ∃ q : Nat, q ≤ pre.length ∧ j = .int .i64 q ∧ o = .bool (has q (zl pre) x)) (fun _ j => pre.length - (intOf j).toNat)
        case atStart => exact ⟨0, Nat.zero_le _, rfl, by simp [has]⟩
        case round =>
          obtain ⟨q, hq, rfl, rfl⟩ := hrel
          by_cases hqlt : q < pre.length
          · obtain ⟨b, o, rfl, hcq⟩ := HI.out q hqlt
            have HS := Lib.hid (has_step (k := q) (z := zl pre) (x := (x : Int)))
            cases hh : has q (zl pre) x
            · by_cases he : zl pre q = x
              · have E : ((x : Int) == zl pre q) = true := by simp [he]
                have HN : Hid (has (q + 1) (zl pre) x = true) := by rw [Hid, HS.out]; simp [he]
                clear he hh
                go_wp2
                go_round
                case rel => exact ⟨q + 1, by omega, by go_num, by rw [HN.out]⟩
                case measure => simp [intOf]; omega
              · have E : ((x : Int) == zl pre q) = false := by simp; exact fun h => he h.symm
                have HN : Hid (has (q + 1) (zl pre) x = false) := by rw [Hid, HS.out, hh]; simp [he]
                clear he hh
                go_wp2
                go_round
                case rel => exact ⟨q + 1, by omega, by go_num, by rw [HN.out]⟩
                case measure => simp [intOf]; omega
            · have HN : Hid (has (q + 1) (zl pre) x = true) := by rw [Hid, HS.out, hh]; simp
              clear hh
              go_wp2
              go_round
              case rel => exact ⟨q + 1, by omega, by go_num, by rw [HN.out]⟩
              case measure => simp [intOf]; omega
          · have e : q = pre.length := by omega
            subst e
            by_cases hin : x ∈ pre
            · have hr : has pre.length (zl pre) x = true := by rw [has_zl]; simp [hin]
              have HR2 : Hid (RowsL wo W.heap.size b0 u5 (permsTo n k pre (x + 1))) := by rw [Hid, permsTo_old _ _ _ _ hin]; exact HR.out
              rw [hr]
              clear hin hr
              go_wp2
              go_roundw
              case rel => exact ⟨x + 1, by omega, by go_num, HR2.out, HB.out⟩
              case measure => simp [intOf]; omega
            · have hr : has pre.length (zl pre) x = false := by rw [has_zl]; simp [hin]
              rw [hr]
              have Hin := Lib.hid hin
              clear hin hr
              cases a with
              | none =>
                have h0 : Hid (pre.length = 0) := HI.out.nil
                go_wp2_with (at_builtin; refine wpList_append_grows _ rfl _ _ 22 rfl 3 i0 (.int .i64 0) 1 8 Try.underlying22 hi hz0 hz1 hz2 rfl (by decide) none pre.length pre.length ((List.range pre.length).map fun j => .int .i64 (zl pre j)) rfl (fun _ => ⟨h0.out, h0.out⟩) (by simp) (fun b hb => by cases hb) ⟨wo.heap.size, 0, none⟩ 1 1 [.int .i64 x] rfl rfl (one_new _ _ _) (one_ok _ rfl) (by omega) (by unfold maxLen; omega) (by omega) ?_)
                intro v1 w1 hown1 hgrow1
                obtain ⟨a1, cap1, rfl, hO1⟩ := own_snoc hown1
                have hb1 : Below wo.heap.size wo w1 := ((Below.refl _ wo).alloc (Nat.le_refl _) _).grown hgrow1 (by simp) (fun k hk => by cases hk)
                have HB1 := Lib.hid hb1
                have HR1 := Lib.hid (HR.out.keep hb1)
                have hc := HIH.out (pre ++ [x]) a1 cap1 w1 (by have := HK.out; simp; omega) (by
                  rw [List.nodup_append]
                  exact ⟨HD.out, by simp, fun a ha b hb => by simp at hb; subst hb; exact fun e => Hin.out (e ▸ ha)⟩) (fun y hy => by
                  simp at hy
                  rcases hy with hy | rfl
                  · exact HX.out y hy
                  · exact hlt) (Nat.le_trans hB2 hb1.size) (hO1.weaken (by omega))
                rw [show (pre ++ [x]).length = pre.length + 1 by simp] at hc
                have HC := Lib.hid hc
                clear hown1 hgrow1 hO1 hb1 hc
                go_wp2_with fail
                refine HC.out.mono ?_
                rintro e w2 ⟨v2, rfl, hR2, hb2⟩
                have HB2 : Hid (Below wo.heap.size wo w2) := HB1.out.trans (hb2.mono HB1.out.size)
                obtain ⟨ms, hm1, hm2, hm3⟩ := hR2
                obtain ⟨vs, hv1, hv2, hv3⟩ := HR1.out.keep hb2
                have HV := Lib.hid (show vs.length = (permsTo n k pre x).length ∧ _ ∧ _ from ⟨hv1, hv2, hv3⟩)
                have HM := Lib.hid (show ms.length = (perms n k (pre ++ [x])).length ∧ _ ∧ _ from ⟨hm1, hm2, hm3⟩)
                have hl1 := permsTo_pow hn k hkn pre x hxn
                have hl2 := perms_pow hn k (by omega) (pre ++ [x])
                have hsW : W.heap.size ≤ w2.heap.size := Nat.le_trans HB.out.size HB2.out.size
                have HN : Hid (permsTo n k pre (x + 1) = permsTo n k pre x ++ perms n k (pre ++ [x])) := permsTo_new _ _ _ _ Hin.out
                have HM2 := Lib.hid hm2
                clear hb2 hv1 hv2 hv3 hm1 hm3 HR1 HC HB1 hm2
                rcases HM2.out.2 with ⟨rfl, hM0⟩ | ⟨g2, cp2, cur2, rfl, hg2, hh2, hcc, hcm, hcs, htk⟩
                · exact absurd (List.length_eq_zero_iff.1 hM0) (perms_ne k (pre ++ [x]) (by
                    rw [List.nodup_append]
                    exact ⟨HD.out, by simp, fun a ha b hb => by simp at hb; subst hb; exact fun e => Hin.out (e ▸ ha)⟩) (fun y hy => by
                    simp at hy
                    rcases hy with hy | rfl
                    · exact HX.out y hy
                    · exact hlt) (by have := HK.out; simp; omega))
                · have hnews : ∀ (j : Nat) (u : Value), ms[j]? = some u → w2.cell? ((⟨g2, 0, none⟩ : Addr).add j) = some u := World.ownsRow.cells HM2.out (g := g2) rfl
                  have hone : ∀ u ∈ ms, u.oneCell' = true := fun u hu => by
                    obtain ⟨i, hi', rfl⟩ := List.getElem_of_mem hu
                    obtain ⟨a', c', e', _⟩ := HM.out.2.2 i _ _ (List.getElem?_eq_getElem (by rw [← HM.out.1]; exact hi')) (List.getElem?_eq_getElem hi')
                    rw [e']; rfl
                  have Hnews := Lib.hid hnews
                  have Hone := Lib.hid hone
                  clear hnews hone hg2 hh2 hcc hcm hcs htk
                  go_wp2_with (at_builtin; refine wpList_append_own _ rfl _ _ 34 rfl W.heap.size 22 j0 (.slice none 0 0) 1 24 Try.underlying34 hj hy0 hy1 hy2 rfl (by decide) _ _ _ rfl HV.out.2.1 ⟨g2, 0, none⟩ (perms n k (pre ++ [x])).length cp2 ms rfl (by rw [Nat.mul_one]; exact HM.out.1) Hnews.out Hone.out (by unfold maxLen; omega) (by omega) hsW ?_)
                  intro v3 w3 hown3 hgrow3 _
                  have hR3 : RowsL w3 W.heap.size b0 v3 (permsTo n k pre (x + 1)) := by
                    rw [HN.out]
                    exact RowsL.cat HV.out.1 HV.out.2.1 HV.out.2.2 HM.out.1 HM.out.2.2 hgrow3 hown3
                  have hB3 : Below W.heap.size W w3 := (HB.out.trans (HB2.out.mono HB.out.size)).grown hgrow3 hsW (fun k hk => (World.ownsRow.lt HV.out.2.1 k hk).1)
                  have HR3 := Lib.hid hR3
                  have HB3 := Lib.hid hB3
                  clear hown3 hgrow3 hR3 hB3
                  go_wp2
                  go_roundw
                  case rel => exact ⟨x + 1, by omega, by go_num, HR3.out, HB3.out⟩
                  case measure => simp [intOf]; omega
              | some ad =>
                obtain ⟨g, hg1, hg2⟩ : ∃ g, ad = ⟨g, 0, none⟩ ∧ True := by
                  rcases HO.out.2 with ⟨h1, _⟩ | ⟨g, cp, cur, he, _⟩
                  · cases h1
                  · cases he; exact ⟨g, rfl, trivial⟩
                subst hg1
                clear hg2
                have HNw := Lib.hid ((HI.out.keep (Nat.le_refl _) ((Below.refl wo.heap.size wo).alloc (Nat.le_refl _) (.cells #[.int .i64 x] 3))).news)
                go_wp2_with (at_builtin; refine wpList_append_grows _ rfl _ _ 22 rfl 3 i0 (.int .i64 0) 1 8 Try.underlying22 hi hz0 hz1 hz2 rfl (by decide) (some ⟨g, 0, none⟩) pre.length pre.length ((List.range pre.length).map fun j => .int .i64 (zl pre j)) rfl (fun h => by cases h) (by simp) (fun b hb => by cases hb; exact HNw.out) ⟨wo.heap.size, 0, none⟩ 1 1 [.int .i64 x] rfl rfl (one_new _ _ _) (one_ok _ rfl) (by omega) (by unfold maxLen; omega) (by omega) ?_)
                intro v1 w1 hown1 hgrow1
                obtain ⟨a1, cap1, rfl, hO1⟩ := own_snoc hown1
                have hb1 : Below wo.heap.size wo w1 := ((Below.refl _ wo).alloc (Nat.le_refl _) _).grown hgrow1 (by simp) (fun k hk => by cases hk)
                have HB1 := Lib.hid hb1
                have HR1 := Lib.hid (HR.out.keep hb1)
                have hc := HIH.out (pre ++ [x]) a1 cap1 w1 (by have := HK.out; simp; omega) (by
                  rw [List.nodup_append]
                  exact ⟨HD.out, by simp, fun a ha b hb => by simp at hb; subst hb; exact fun e => Hin.out (e ▸ ha)⟩) (fun y hy => by
                  simp at hy
                  rcases hy with hy | rfl
                  · exact HX.out y hy
                  · exact hlt) (Nat.le_trans hB2 hb1.size) (hO1.weaken (by omega))
                rw [show (pre ++ [x]).length = pre.length + 1 by simp] at hc
                have HC := Lib.hid hc
                clear hown1 hgrow1 hO1 hb1 hc
                go_wp2_with fail
                refine HC.out.mono ?_
                rintro e w2 ⟨v2, rfl, hR2, hb2⟩
                have HB2 : Hid (Below wo.heap.size wo w2) := HB1.out.trans (hb2.mono HB1.out.size)
                obtain ⟨ms, hm1, hm2, hm3⟩ := hR2
                obtain ⟨vs, hv1, hv2, hv3⟩ := HR1.out.keep hb2
                have HV := Lib.hid (show vs.length = (permsTo n k pre x).length ∧ _ ∧ _ from ⟨hv1, hv2, hv3⟩)
                have HM := Lib.hid (show ms.length = (perms n k (pre ++ [x])).length ∧ _ ∧ _ from ⟨hm1, hm2, hm3⟩)
                have hl1 := permsTo_pow hn k hkn pre x hxn
                have hl2 := perms_pow hn k (by omega) (pre ++ [x])
                have hsW : W.heap.size ≤ w2.heap.size := Nat.le_trans HB.out.size HB2.out.size
                have HN : Hid (permsTo n k pre (x + 1) = permsTo n k pre x ++ perms n k (pre ++ [x])) := permsTo_new _ _ _ _ Hin.out
                have HM2 := Lib.hid hm2
                clear hb2 hv1 hv2 hv3 hm1 hm3 HR1 HC HB1 hm2
                rcases HM2.out.2 with ⟨rfl, hM0⟩ | ⟨g2, cp2, cur2, rfl, hg2, hh2, hcc, hcm, hcs, htk⟩
                · exact absurd (List.length_eq_zero_iff.1 hM0) (perms_ne k (pre ++ [x]) (by
                    rw [List.nodup_append]
                    exact ⟨HD.out, by simp, fun a ha b hb => by simp at hb; subst hb; exact fun e => Hin.out (e ▸ ha)⟩) (fun y hy => by
                    simp at hy
                    rcases hy with hy | rfl
                    · exact HX.out y hy
                    · exact hlt) (by have := HK.out; simp; omega))
                · have hnews : ∀ (j : Nat) (u : Value), ms[j]? = some u → w2.cell? ((⟨g2, 0, none⟩ : Addr).add j) = some u := World.ownsRow.cells HM2.out (g := g2) rfl
                  have hone : ∀ u ∈ ms, u.oneCell' = true := fun u hu => by
                    obtain ⟨i, hi', rfl⟩ := List.getElem_of_mem hu
                    obtain ⟨a', c', e', _⟩ := HM.out.2.2 i _ _ (List.getElem?_eq_getElem (by rw [← HM.out.1]; exact hi')) (List.getElem?_eq_getElem hi')
                    rw [e']; rfl
                  have Hnews := Lib.hid hnews
                  have Hone := Lib.hid hone
                  clear hnews hone hg2 hh2 hcc hcm hcs htk
                  go_wp2_with (at_builtin; refine wpList_append_own _ rfl _ _ 34 rfl W.heap.size 22 j0 (.slice none 0 0) 1 24 Try.underlying34 hj hy0 hy1 hy2 rfl (by decide) _ _ _ rfl HV.out.2.1 ⟨g2, 0, none⟩ (perms n k (pre ++ [x])).length cp2 ms rfl (by rw [Nat.mul_one]; exact HM.out.1) Hnews.out Hone.out (by unfold maxLen; omega) (by omega) hsW ?_)
                  intro v3 w3 hown3 hgrow3 _
                  have hR3 : RowsL w3 W.heap.size b0 v3 (permsTo n k pre (x + 1)) := by
                    rw [HN.out]
                    exact RowsL.cat HV.out.1 HV.out.2.1 HV.out.2.2 HM.out.1 HM.out.2.2 hgrow3 hown3
                  have hB3 : Below W.heap.size W w3 := (HB.out.trans (HB2.out.mono HB.out.size)).grown hgrow3 hsW (fun k hk => (World.ownsRow.lt HV.out.2.1 k hk).1)
                  have HR3 := Lib.hid hR3
                  have HB3 := Lib.hid hB3
                  clear hown3 hgrow3 hR3 hB3
                  go_wp2
                  go_roundw
                  case rel => exact ⟨x + 1, by omega, by go_num, HR3.out, HB3.out⟩
                  case measure => simp [intOf]; omega

      · have e : x = n := by omega
        have HF : Hid (RowsL wo W.heap.size b0 u5 (perms n (k + 1) pre)) := by rw [Hid, ← permsTo_all]; exact (congrArg (fun q => RowsL wo W.heap.size b0 u5 (permsTo n k pre q)) e).mp HR.out
        have hge : (n : Int) ≤ x := by omega
        clear e
        go_wp2
        go_ret
        exact ⟨_, rfl, HF.out, HB.out⟩

end Go.Proofs.Ytmbccdjoliegiaa
