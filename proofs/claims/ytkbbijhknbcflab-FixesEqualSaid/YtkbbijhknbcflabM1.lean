import Derived.Test.YtkbbijhknbcflabF1
import Derived.Test.YtkbbijhknbcflabB2
import Derived.Maps.OwnOps
import Derived.Maps.OwnSet
import Derived.Maps.Views
/-
  The map of the letters' sets: the laws at its operations, in plain words.
-/
namespace Go.Proofs.Ytkbbijhknbcflab
open Go.RowKit Go.Maps

theorem u8_keys : Keyed Try.prog 5 := int_keyed Try.underlying5
theorem int_zero (w : World) : (zeroValue 3).run Try.prog w = .ok (.int .i64 0) w := by kernel_rfl
abbrev kL (c : Nat) : Lit := .int .u8 (120 + c : Nat)
abbrev vL (x : Nat) : DataW Unit := .lit (.int .i64 (x : Nat))
theorem kL_key (c : Nat) : WideAt.IsKeyLit (kL c) := trivial
theorem kL_inj {c d : Nat} (h : kL c = kL d) : c = d := by injection h with _ h; omega
theorem vL_inj {x y : Nat} (h : vL x = vL y) : x = y := by injection h with h; injection h with _ h; omega
theorem kL_wf {c : Nat} (h : c < 3) : (kL c).wf = true := by rcases cases3 h with rfl | rfl | rfl <;> rfl
theorem vL_wf {x : Nat} (h : x < 64) : (Lit.int .i64 (x : Nat)).wf = true := WalkArith.wf_i64 ⟨by omega, by omega⟩

/-- What the map reads as. -/
structure Reads (D : DataW Unit) (e : Nat → Nat) : Prop where
  at' : ∀ c, c < 3 → D.atKey (kL c) (vL 0) = vL (e c)
  keys : ∀ ls, D = .map ls → ∀ p ∈ ls, ∃ c, c < 3 ∧ p.1 = kL c
theorem reads_empty : Reads (.map []) (fun _ => 0) := ⟨fun _ _ => rfl, fun ls h p hp => by injection h with h; subst h; cases hp⟩
theorem Reads.put {D : DataW Unit} {e : Nat → Nat} (h : Reads D e) (hm : IsMap D) {c : Nat} (hc : c < 3) (x : Nat) : Reads (D.put (kL c) (vL x)) (upd e c x) := by
  refine ⟨fun i hi => ?_, fun ls hls p hp => ?_⟩
  · by_cases he : i = c
    · subst he; rw [upd_same]; exact atKey_put_same hm (kL_key _) _ _
    · rw [upd_other _ _ he, atKey_put_other (fun hh => he (kL_inj hh))]; exact h.at' i hi
  · obtain ⟨es, rfl⟩ := hm
    injection hls with hls
    subst hls
    rcases List.mem_cons.1 ((Go.WideShapes.insert_perm _ _).mem_iff.1 hp) with rfl | hp
    · exact ⟨c, hc, rfl⟩
    · exact h.keys es rfl p (List.mem_filter.1 hp).1
theorem three_long : ∀ l : List (Lit × DataW Unit), l.Pairwise (fun p q => p.1 ≠ q.1) → (∀ p ∈ l, ∃ c, c < 3 ∧ p.1 = kL c) → l.length ≤ 3
  | [], _, _ => by simp
  | [_], _, _ => by simp
  | [_, _], _, _ => by simp
  | [_, _, _], _, _ => by simp
  | p :: q :: r :: s :: t, hp, hk => by
    exfalso
    simp only [List.pairwise_cons] at hp
    obtain ⟨h1, h2, h3, _⟩ := hp
    obtain ⟨a, ha, ea⟩ := hk p (by simp)
    obtain ⟨b, hb, eb⟩ := hk q (by simp)
    obtain ⟨c, hc, ec⟩ := hk r (by simp)
    obtain ⟨d, hd, ed⟩ := hk s (by simp)
    have g1 : a ≠ b := fun e => h1 q (by simp) (by rw [ea, eb, e])
    have g2 : a ≠ c := fun e => h1 r (by simp) (by rw [ea, ec, e])
    have g3 : a ≠ d := fun e => h1 s (by simp) (by rw [ea, ed, e])
    have g4 : b ≠ c := fun e => h2 r (by simp) (by rw [eb, ec, e])
    have g5 : b ≠ d := fun e => h2 s (by simp) (by rw [eb, ed, e])
    have g6 : c ≠ d := fun e => h3 s (by simp) (by rw [ec, ed, e])
    omega

/-- The block b is the map of the letters' sets. -/
def SetsAt (w : World) (b : Nat) (e : Nat → Nat) : Prop := ∃ D, w.ownsMap Try.prog 5 (plainElem (H := Unit) Try.prog 3) b 3 D ∧ Reads D e
theorem SetsAt.lt {w : World} {b : Nat} {e : Nat → Nat} (h : SetsAt w b e) : b < w.heap.size := by obtain ⟨D, h1, _⟩ := h; exact h1.lt
theorem SetsAt.below {w w' : World} {b : Nat} {e : Nat → Nat} (h : SetsAt w b e) {B : Nat} (hb : Below B w w') (hB : b < B) : SetsAt w' b e := by
  obtain ⟨D, ⟨es, c, h1, h3⟩, h2⟩ := h
  exact ⟨D, ⟨es, c, by rw [hb.block b hB]; exact h1, h3⟩, h2⟩
theorem SetsAt.keep {w w' : World} {b : Nat} {e : Nat → Nat} (h : SetsAt w b e) (hb : Below w.heap.size w w') : SetsAt w' b e := h.below hb h.lt
theorem SetsAt.noCell {w : World} {b : Nat} {e : Nat → Nat} (h : SetsAt w b e) {p : Addr} {v : Value} (hc : w.cell? p = some v) : p.block ≠ b := by
  rintro rfl
  obtain ⟨D, ⟨es, c, h1, _⟩, _⟩ := h
  simp [World.cell?, h1] at hc
theorem SetsAt.congr {w : World} {b : Nat} {e e' : Nat → Nat} (h : SetsAt w b e) (he : ∀ i, i < 3 → e i = e' i) : SetsAt w b e' := by
  obtain ⟨D, h1, h2⟩ := h
  exact ⟨D, h1, fun c hc => by rw [← he c hc]; exact h2.at' c hc, h2.keys⟩
theorem sets_made (w : World) : SetsAt (w.alloc (.map #[] 0)) w.heap.size (fun _ => 0) := ⟨_, (World.ownsMap_made _ _ _ _).mono (by decide), reads_empty⟩
theorem tight {w : World} {b n : Nat} {D : DataW Unit} {e : Nat → Nat} (h : w.ownsMap Try.prog 5 (plainElem (H := Unit) Try.prog 3) b n D) (hr : Reads D e) : w.ownsMap Try.prog 5 (plainElem (H := Unit) Try.prog 3) b 3 D := by
  obtain ⟨ls, hls, hp⟩ := h.tidy u8_keys
  obtain ⟨es, c, h1, hF, hs, hD⟩ := h
  refine ⟨es, c, h1, hF, ?_, hD⟩
  have h3 : ls.length ≤ 3 := three_long ls hp (hr.keys ls hls)
  have h4 : ls.length = es.size := by
    rw [hD] at hls
    injection hls with hls
    rw [← hls, length_sorted]; simp
  omega

section
variable (w : World) {ops : Array Oper} {rest : List Oper} {o : Oper} {a : Act} {Q : Exit → Act → World → Prop}

theorem wpList_lookup_sets (hg : o.guard = none) (m x : Operand) (hop : o.op = Op.lookup 48 m x false) (b : Nat) (e : Nat → Nat)
    (hm : a.eval m = .map (some b)) (h : SetsAt w b e) (c : Nat) (hc : c < 3) (hx : a.eval x = .int .u8 (120 + c : Nat))
    (hK : wpList Try.prog ops Q rest (a.put o.dst (.int .i64 (e c : Nat))) w) : wpList Try.prog ops Q (o :: rest) a w := by
  obtain ⟨D, h1, h2⟩ := h
  refine wpList_lookup_own_int w hg m x 48 hop 5 3 .i64 u8_keys Try.underlying48 Try.underlying3 (int_zero _) b 3 D hm h1 _ (kL c) hx (keyOf_int_mk Try.underlying5 (kL_wf hc)) fun z hat _ => ?_
  have he := hat.symm.trans (h2.at' c hc)
  injection he with he
  injection he with _ he
  subst he; exact hK

theorem wpList_update_sets (hg : o.guard = none) (m x y : Operand) (hop : o.op = Op.mapUpdate 48 m x y) (b : Nat) (e : Nat → Nat)
    (hm : a.eval m = .map (some b)) (h : SetsAt w b e) (c : Nat) (hc : c < 3) (hx : a.eval x = .int .u8 (120 + c : Nat)) (v : Nat) (hv : v < 64) (hy : a.eval y = .int .i64 (v : Nat))
    (hK : ∀ w', SetsAt w' b (upd e c v) → w.grownBy w' (some b) → wpList Try.prog ops Q rest (a.put o.dst undef) w') : wpList Try.prog ops Q (o :: rest) a w := by
  obtain ⟨D, h1, h2⟩ := h
  exact wpList_mapUpdate_own w hg m x y 48 hop 5 3 u8_keys Try.underlying48 (plainElem (H := Unit) Try.prog 3) b 3 D hm h1 (by unfold maxLen; omega) _ _ (kL c) hx hy (keyOf_int_mk Try.underlying5 (kL_wf hc)) (vL v) [] (plainElem_int Try.underlying3 (vL_wf hv))
    fun w' h3 h4 => by
      have hm' : IsMap D := by obtain ⟨es, c, _, _, _, rfl⟩ := h1; exact ⟨_, rfl⟩
      have hr := h2.put hm' hc v
      exact hK w' ⟨_, tight h3 hr, hr⟩ h4
end
theorem Kp.grown {b : Nat} {w w' : World} (h : w.grownBy w' (some b)) : Kp b w w' := ⟨h.os, h.tape, h.output, h.size, fun k hk ho => h.block k hk (fun e => ho (by injection e))⟩
end Go.Proofs.Ytkbbijhknbcflab
