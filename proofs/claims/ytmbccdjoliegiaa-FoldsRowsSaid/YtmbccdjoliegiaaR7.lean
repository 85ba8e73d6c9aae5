import Derived.Test.YtmbccdjoliegiaaR6
namespace Go.Proofs.Ytmbccdjoliegiaa
open Go.RowKit

/-- The cells of a slice of slices. -/
def RowsAt (w : World) (base : Nat) (a : Option Addr) (L : List (List Nat)) : Prop :=
  ∀ (k : Nat) (p : List Nat), L[k]? = some p → ∃ b o, a = some ⟨b, o, none⟩ ∧ ∃ a' c, w.cell? ⟨b, o + k, none⟩ = some (.slice a' p.length c) ∧ Own w base a' p.length c (zl p)
theorem RowsL.at {w : World} {bt base n cap : Nat} {a : Option Addr} {L : List (List Nat)} (h : RowsL w bt base (.slice a n cap) L) : RowsAt w base a L := by
  obtain ⟨vs, h1, h2, h3⟩ := h
  intro k p hp
  have hk : k < L.length := (List.getElem?_eq_some_iff.1 hp).1
  have hu : vs[k]? = some (vs[k]'(by omega)) := List.getElem?_eq_getElem _
  obtain ⟨a', c, h4, h5⟩ := h3 k p _ hp hu
  rcases h2.2 with ⟨hn, h0⟩ | ⟨g, cp, cur, he, r⟩
  · omega
  · cases he
    refine ⟨g, 0, rfl, a', c, ?_, h5⟩
    have := World.ownsRow.cells h2 (g := g) rfl k _ hu
    rw [h4] at this
    have e : (⟨g, 0, none⟩ : Addr).add k = ⟨g, 0 + k, none⟩ := by
      unfold Addr.add
      by_cases h : k = 0 <;> simp [h]
    rw [e] at this
    exact this
theorem RowsL.form {w : World} {bt base : Nat} {v : Value} {L : List (List Nat)} (h : RowsL w bt base v L) : ∃ a cap, v = .slice a L.length cap ∧ L.length ≤ cap ∧ cap ≤ maxLen := by
  obtain ⟨vs, h1, h2, h3⟩ := h
  rcases h2.2 with ⟨rfl, h0⟩ | ⟨g, cp, cur, rfl, hg, hh, hcc, hcm, _⟩
  · exact ⟨none, 0, by rw [h0], by omega, by unfold maxLen; omega⟩
  · exact ⟨_, cp, rfl, hcc, hcm⟩
/-- Behind an append of one row. -/
theorem RowsL.snoc {w w' : World} {bt base : Nat} {v v' u : Value} {L : List (List Nat)} {p : List Nat} {vs : List Value} (hl : vs.length = L.length) (ht : w.ownsRow bt 22 1 v L.length vs) (h3 : ∀ (i : Nat) (p : List Nat) (u : Value), L[i]? = some p → vs[i]? = some u → OwnP w base u p)
    (hu : OwnP w base u p) (hg : w.grownBy w' v.ownBlock) (ht' : w'.ownsRow bt 22 1 v' (L.length + 1) (vs ++ [u])) : RowsL w' bt base v' (L ++ [p]) :=
  RowsL.cat (M := [p]) (ms := [u]) hl ht h3 rfl (fun i q u' hq hu' => by
    cases i with
    | zero => simp at hq hu'; subst hq hu'; exact hu
    | succ i => simp at hq) hg ht'

theorem filter_step {L : List (List Nat)} {k : Nat} {p : List Nat} (h : L[k]? = some p) (f : List Nat → Bool) :
    (f p = true → (L.take (k + 1)).filter f = (L.take k).filter f ++ [p]) ∧ (f p = false → (L.take (k + 1)).filter f = (L.take k).filter f) := by
  rw [List.take_add_one, h]
  constructor <;> intro hf <;> simp [List.filter_append, hf]
theorem filter_first {L : List (List Nat)} {k : Nat} {p x : List Nat} {r : List (List Nat)} (h : L[k]? = some p) (f : List Nat → Bool) (hf : f p = true) (h0 : (L.take k).filter f = []) (hx : L.filter f = x :: r) : x = p := by
  have h1 := (filter_step h f).1 hf
  rw [h0, List.nil_append] at h1
  have h2 : (L.take (k + 1)).filter f <+: L.filter f := (List.take_prefix _ _).filter _
  rw [h1, hx] at h2
  obtain ⟨t, ht⟩ := h2
  simp at ht
  exact ht.1.symm

theorem perms_facts {n : Nat} (h1 : 1 ≤ n) (h7 : n ≤ 7) {p : List Nat} (h : p ∈ perms n n []) : p.length = n ∧ isP n (zl p) = true ∧ goodP n (zl p) n := by
  have hl := perms_len _ _ _ h
  simp at hl
  have hnd := perms_nodup _ _ _ h (by simp) (by simp)
  have hg := good_of_list (by omega) hl hnd.2 hnd.1
  exact ⟨hl, isP_iff'.2 ⟨h1, h7, hg⟩, hg⟩

theorem all_nil (n : Nat) (w : World) (h7 : n ≤ 7) :
    Calls Try.prog 58 #[.int .i64 n, .slice none 0 0] w fun e w' => ∃ a cap, e = .returned (.slice a (perms n n []).length cap) ∧ (perms n n []).length ≤ cap ∧ cap ≤ maxLen ∧ RowsL w' w.heap.size w.heap.size (.slice a (perms n n []).length cap) (perms n n []) ∧ Below w.heap.size w w' :=
  (all_any n h7 w.heap.size n [] none 0 w (by simp) List.nodup_nil (by simp) (Nat.le_refl _) (World.ownsRow_nil _ _ _ _)).mono (by
    rintro e w' ⟨v, rfl, h1, h2⟩
    obtain ⟨a, cap, rfl, h3, h4⟩ := h1.form
    exact ⟨a, cap, rfl, h3, h4, h1, h2⟩)

theorem okP_len {n : Nat} {p : List Nat} (h : p.length = n) : okP (rowN 0 (n - 1)) p = poss n (zl p) := by unfold okP poss; rw [h]
theorem okM_len {n m : Nat} {p : List Nat} (h : p.length = n) : okM m p = (mts n (zl p) (n - 1) == m) := by unfold okM; rw [h]

set_option maxHeartbeats 8000000 in
set_option maxRecDepth 100000 in
theorem rlist_any (n : Nat) (w : World) (h1 : 1 ≤ n) (h7 : n ≤ 7) :
    Calls Try.prog 25 #[.int .i64 n] w fun e w' => ∃ a cap, e = .returned (.slice a (piles n).length cap) ∧ (piles n).length ≤ cap ∧ cap ≤ maxLen ∧ RowsL w' w.heap.size w.heap.size (.slice a (piles n).length cap) (piles n) ∧ Below w.heap.size w w' := by
  have HA := Lib.hid (all_nil n w h7)
  have hmax := perms_max h7
  obtain ⟨L, hL⟩ : ∃ L, L = perms n n [] := ⟨_, rfl⟩
  have HP : Hid (piles n = L.filter (okP (rowN 0 (n - 1)))) := by rw [hL]; rfl
  have HF : Hid (∀ k p, L[k]? = some p → p.length = n ∧ isP n (zl p) = true ∧ goodP n (zl p) n) := fun k p h => perms_facts h1 h7 (by rw [← hL]; exact List.mem_of_getElem? h)
  rw [← hL] at HA hmax
  obtain ⟨j0, hj, hy0, hy1, hy2⟩ := info_parts Try.info22
  clear hL
  go_enter Try.func25, Try.ntmps25
  go_wp2_with fail
  refine HA.out.mono ?_
  rintro e w1 ⟨a, cap, rfl, hcap1, hcap2, hR, hb1⟩
  have hcap3 : cap ≤ 9223372036854775807 := by unfold maxLen at hcap2; omega
  have HR := Lib.hid hR
  have HB1 := Lib.hid hb1
  have hs1 := hb1.size
  clear hR hb1 HA hcap2
  go_wp2
  go_loopw [3, 9] (fun v i wr => ∃ k : Nat, k ≤ L.length ∧ i = .int .i64 k ∧ RowsL wr w1.heap.size w.heap.size v ((L.take k).filter (okP (rowN 0 (n - 1)))) ∧ Below w1.heap.size w1 wr) (fun _ i _ => L.length - (intOf i).toNat)
  case atStart => exact ⟨0, Nat.zero_le _, rfl, by simpa using RowsL.nil _ _ _, Below.refl _ _⟩
  case round =>
    obtain ⟨k, hk, rfl, hV, hb⟩ := hrel
    have HV := Lib.hid hV
    have HB := Lib.hid hb
    clear hV hb
    by_cases hlt : k < L.length
    · have hp : L[k]? = some (L[k]'hlt) := List.getElem?_eq_getElem _
      obtain ⟨p, hpe⟩ : ∃ p, p = L[k]'hlt := ⟨_, rfl⟩
      rw [← hpe] at hp
      clear hpe
      obtain ⟨hpl, hpP, hpg⟩ := HF.out k p hp
      obtain ⟨b, o, rfl, ap, cp, hck, hO⟩ := (HR.out.keep HB.out).at k p hp
      have HO := Lib.hid hO
      have hq := rpossible_any ap cp n (zl p) wr hpP (by have := hO.ints; rw [hpl] at this; exact this)
      have HQ := Lib.hid hq
      have hst := filter_step hp (okP (rowN 0 (n - 1)))
      rw [okP_len hpl] at hst
      have HS := Lib.hid hst
      have hc1 := hO.cap.1
      have hc2 : cp ≤ 9223372036854775807 := by have := hO.cap.2; unfold maxLen at this; omega
      have HPL := Lib.hid hpl
      rw [hpl] at hck hc1
      clear hO hq hst hp hpP hpg hpl
      cases hpo : poss n (zl p)
      · have HN := Lib.hid (HS.out.2 hpo)
        rw [hpo] at HQ
        clear hpo HS
        go_wp2_with fail
        refine HQ.out.mono ?_
        rintro e w3 ⟨rfl, hb3⟩
        have HB3 : Hid (Below w1.heap.size w1 w3) := HB.out.trans (hb3.mono HB.out.size)
        have HV3 := Lib.hid (HV.out.keep hb3)
        clear hb3
        go_wp2
        go_roundw
        case rel => exact ⟨k + 1, by omega, by go_num, by rw [HN.out]; exact HV3.out, HB3.out⟩
        case measure => simp [intOf]; omega
      · have HN := Lib.hid (HS.out.1 hpo)
        rw [hpo] at HQ
        clear hpo HS
        go_wp2_with fail
        refine HQ.out.mono ?_
        rintro e w3 ⟨rfl, hb3⟩
        have HB3 : Hid (Below w1.heap.size w1 w3) := HB.out.trans (hb3.mono HB.out.size)
        have HU3 : Hid (OwnP w3 w.heap.size (.slice ap n cp) p) := ⟨ap, cp, by rw [HPL.out], HO.out.keep hb3⟩
        obtain ⟨vs, hv1, hv2, hv3⟩ := HV.out.keep hb3
        have HW := Lib.hid (show vs.length = _ ∧ _ ∧ _ from ⟨hv1, hv2, hv3⟩)
        have hs3 : w1.heap.size ≤ w3.heap.size := HB3.out.size
        have hlen : Hid (((L.take k).filter (okP (rowN 0 (n - 1)))).length ≤ 1000000) := by
          have h1 := List.length_filter_le (okP (rowN 0 (n - 1))) (L.take k)
          rw [List.length_take] at h1
          unfold Hid; omega
        have hlen := hlen.out
        clear hb3 hv1 hv2 hv3 HV HB
        go_wp2_with (at_builtin; refine wpList_append_own _ rfl _ _ 34 rfl w1.heap.size 22 j0 (.slice none 0 0) 1 24 Try.underlying34 hj hy0 hy1 hy2 rfl (by decide) _ _ _ rfl (HW.out.2.1.alloc _) ⟨w3.heap.size, 0, none⟩ 1 1 [.slice ap n cp] rfl rfl (one_new _ _ _) (one_ok _ rfl) (by unfold maxLen; omega) (by omega) (by simp; omega) ?_)
        intro v4 w4 hown4 hgrow4 _
        have hR4 : RowsL w4 w1.heap.size w.heap.size v4 ((L.take (k + 1)).filter (okP (rowN 0 (n - 1)))) := by
          rw [HN.out]
          exact RowsL.snoc HW.out.1 (HW.out.2.1.alloc _) (fun i q u hq hu => (HW.out.2.2 i q u hq hu).keep ((Below.refl _ _).alloc (Nat.le_refl _) _)) (HU3.out.keep ((Below.refl _ _).alloc (Nat.le_refl _) _)) hgrow4 hown4
        have HR4 := Lib.hid hR4
        have HB4 : Hid (Below w1.heap.size w1 w4) := (HB3.out.alloc HB3.out.size _).grown hgrow4 (by simp; omega) (fun k hk => (World.ownsRow.lt HW.out.2.1 k hk).1)
        clear hown4 hgrow4 hR4
        go_wp2
        go_roundw
        case rel => exact ⟨k + 1, by omega, by go_num, HR4.out, HB4.out⟩
        case measure => simp [intOf]; omega
    · have e : k = L.length := by omega
      have HV2 : Hid (RowsL wr w1.heap.size w.heap.size u3 (piles n)) := by rw [e, List.take_length, ← HP.out] at HV; exact HV
      obtain ⟨a3, cap3, rfl, hc1, hc2⟩ := HV2.out.form
      have HC1 := Lib.hid hc1
      have HC2 := Lib.hid hc2
      have hge : (L.length : Int) ≤ k := by omega
      clear e hc1 hc2 HV
      go_wp2
      go_ret
      exact ⟨_, _, rfl, HC1.out, HC2.out, by obtain ⟨vs, x1, x2, x3⟩ := HV2.out; exact ⟨vs, x1, ⟨x2.1, x2.2.imp id (fun ⟨g, cp, cur, y1, y2, y3⟩ => ⟨g, cp, cur, y1, by omega, y3⟩)⟩, x3⟩, HB1.out.trans (HB.out.mono hs1)⟩
end Go.Proofs.Ytmbccdjoliegiaa
