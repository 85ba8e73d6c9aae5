import Derived.Test.YtaglbnblfhfkeaaK6
namespace Go.Proofs.Ytaglbnblfhfkeaa
open Go.RowKit

def FamilyYes (m : Mx) (x : Vec) (w : World) (e : Ending) (w' : World) : Prop := ∃ a' c' l, e = .returned (.tuple #[.slice a' l.length c', .int .i64 0]) ∧ VL w' a' m.n l ∧ IsFam m x l ∧ l.length ≤ 270234665281 ∧ Below w.heap.size w w'
def FamilyNo (c : Int) (w : World) (e : Ending) (w' : World) : Prop := ∃ a' c', e = .returned (.tuple #[.slice a' 0 c', .int .i64 c]) ∧ Below w.heap.size w w'
def CountYes (m : Mx) (x : Vec) (w : World) (e : Ending) (w' : World) : Prop := ∃ l, e = .returned (.tuple #[.int .i64 ((l.length : Nat) : Int), .int .i64 0]) ∧ IsFam m x l ∧ Below w.heap.size w w'
def CountNo (c : Int) (w : World) (e : Ending) (w' : World) : Prop := e = .returned (.tuple #[.int .i64 0, .int .i64 c]) ∧ Below w.heap.size w w'

theorem IsFam.unique {m : Mx} {x : Vec} {F G : List Vec} (h : IsFam m x F) (k : IsFam m x G) : F = G :=
  List.Perm.eq_of_pairwise (le := ltV) (fun a _ _ _ h1 h2 => absurd (ltV_trans h1 h2) (ltV_irrefl a)) h.sorted k.sorted
    ((List.perm_ext_iff_of_nodup h.nodup k.nodup).2 fun a => (h.mem a).trans (k.mem a).symm)

set_option maxHeartbeats 4000000 in
set_option maxRecDepth 100000 in
theorem fFamily_yes (m : Mx) (x : Vec) (arg ax : Value) (w : World) (hn4 : m.n ≤ 4) (Hf : Calls Try.prog 77 #[arg, ax] w fun e w' => FamOk m x w e w') : Calls Try.prog 35 #[arg, ax] w fun e w' => FamilyYes m x w e w' := by
  have HF := Lib.hid Hf
  clear Hf
  go_enter Try.func35, Try.ntmps35
  go_wp2_with fail
  refine HF.out.mono ?_
  rintro e w1 ⟨val, l, rfl, hO, hI, hlen, hb⟩
  obtain ⟨al, cl, hval, hV, hc1, hc2⟩ := hO.read
  subst hval
  have HV := Lib.hid (hV.keep (Nat.le_refl _) (below_alloc1 w1 (.cells #[.int .i64 (m).r0.a, .int .i64 (m).r0.b, .int .i64 (m).r0.c, .int .i64 (m).r0.d, .int .i64 (m).r1.a, .int .i64 (m).r1.b, .int .i64 (m).r1.c, .int .i64 (m).r1.d, .int .i64 ((m).n : Int)] 64)))
  have HI := Lib.hid hI
  have HB : Hid (Below w.heap.size w (w1.alloc (.cells #[.int .i64 (m).r0.a, .int .i64 (m).r0.b, .int .i64 (m).r0.c, .int .i64 (m).r0.d, .int .i64 (m).r1.a, .int .i64 (m).r1.b, .int .i64 (m).r1.c, .int .i64 (m).r1.d, .int .i64 ((m).n : Int)] 64))) := hb.alloc hb.size _
  clear hO hI hb hV hc1 hc2 HF
  go_wp2_with fail
  refine (lists_long m _ _ l _ hn4 HV.out hlen).mono ?_
  rintro e w2 ⟨a', c', rfl, hVL, hb2⟩
  have HVL := Lib.hid hVL
  have HB2 : Hid (Below w.heap.size w w2) := HB.out.trans (hb2.mono HB.out.size)
  clear hVL hb2
  go_wp2
  go_ret2
  exact ⟨a', c', l, rfl, HVL.out, HI.out, hlen, HB2.out⟩

set_option maxHeartbeats 4000000 in
set_option maxRecDepth 100000 in
theorem fFamily_no (c : Int) (arg ax : Value) (w : World) (Hf : Calls Try.prog 77 #[arg, ax] w fun e w' => FamNo c w e w') : Calls Try.prog 35 #[arg, ax] w fun e w' => FamilyNo c w e w' := by
  have HF := Lib.hid Hf
  clear Hf
  go_enter Try.func35, Try.ntmps35
  go_wp2_with fail
  refine HF.out.mono ?_
  rintro e w1 ⟨r0, r1, n, rfl, hb⟩
  have HB : Hid (Below w.heap.size w (w1.alloc (.cells #[.int .i64 (r0 0), .int .i64 (r0 1), .int .i64 (r0 2), .int .i64 (r0 3), .int .i64 (r1 0), .int .i64 (r1 1), .int .i64 (r1 2), .int .i64 (r1 3), .int .i64 n] 64))) := hb.alloc hb.size _
  clear hb HF
  go_wp2_with fail
  refine (lists_none r0 r1 n _).mono ?_
  rintro e w2 ⟨a', c', rfl, hb2⟩
  have HB2 : Hid (Below w.heap.size w w2) := HB.out.trans (hb2.mono HB.out.size)
  clear hb2
  go_wp2
  go_ret2
  exact ⟨a', c', rfl, HB2.out⟩

set_option maxHeartbeats 4000000 in
set_option maxRecDepth 100000 in
theorem fCount_yes (m : Mx) (x : Vec) (arg ax : Value) (w : World) (Hf : Calls Try.prog 77 #[arg, ax] w fun e w' => FamOk m x w e w') : Calls Try.prog 36 #[arg, ax] w fun e w' => CountYes m x w e w' := by
  have HF := Lib.hid Hf
  clear Hf
  go_enter Try.func36, Try.ntmps36
  go_wp2_with fail
  refine HF.out.mono ?_
  rintro e w1 ⟨val, l, rfl, hO, hI, hlen, hb⟩
  obtain ⟨al, cl, hval, hV, hc1, hc2⟩ := hO.read
  subst hval
  have HI := Lib.hid hI
  have HB : Hid (Below w.heap.size w (w1.alloc (.cells #[.int .i64 (m).r0.a, .int .i64 (m).r0.b, .int .i64 (m).r0.c, .int .i64 (m).r0.d, .int .i64 (m).r1.a, .int .i64 (m).r1.b, .int .i64 (m).r1.c, .int .i64 (m).r1.d, .int .i64 ((m).n : Int)] 64))) := hb.alloc hb.size _
  clear hO hI hb hV hc1 hc2 HF
  go_wp2
  go_ret2
  exact ⟨l, rfl, HI.out, HB.out⟩

set_option maxHeartbeats 4000000 in
set_option maxRecDepth 100000 in
theorem fCount_no (c : Int) (arg ax : Value) (w : World) (Hf : Calls Try.prog 77 #[arg, ax] w fun e w' => FamNo c w e w') : Calls Try.prog 36 #[arg, ax] w fun e w' => CountNo c w e w' := by
  have HF := Lib.hid Hf
  clear Hf
  go_enter Try.func36, Try.ntmps36
  go_wp2_with fail
  refine HF.out.mono ?_
  rintro e w1 ⟨r0, r1, n, rfl, hb⟩
  have HB : Hid (Below w.heap.size w (w1.alloc (.cells #[.int .i64 (r0 0), .int .i64 (r0 1), .int .i64 (r0 2), .int .i64 (r0 3), .int .i64 (r1 0), .int .i64 (r1 1), .int .i64 (r1 2), .int .i64 (r1 3), .int .i64 n] 64))) := hb.alloc hb.size _
  clear hb HF
  go_wp2
  go_ret2
  exact ⟨rfl, HB.out⟩

/-- Is there a pure move? -/
def hasPure (m : Mx) : Prop := ∃ b, Basic m b ∧ Whole b

theorem fam_bad (a : Option Addr) (cap R : Nat) (A : Nat → Option Addr) (L C : Nat → Nat) (Z : Nat → Nat → Int) (ax : Option Addr) (n cx : Nat) (z : Nat → Int) (w : World)
    (hs : R ≤ 140737488351232) (hn : n ≤ 140737488351232) (hm : Mat w a (min R 250) A (fun j => min (L j) 6) C Z) (hz : Ints w ax (min n 6) z) (hv : isVec R L Z n z 0 6 = false) :
    Calls Try.prog 77 #[.slice a ((min R 250 : Nat) : Nat) cap, .slice ax ((min n 6 : Nat) : Nat) cx] w fun e w' => FamNo 2 w e w' :=
  ffamily_fails _ _ w fun w0 => readBoth_bad a cap R A L C Z ax n cx z 0 6 (w.alloc w0) hs hn (hm.keep (Nat.le_refl _) (below_alloc1 _ _)) (hz.keep (Nat.le_refl _) (below_alloc1 _ _)) hv

theorem norm_24 {z : Nat → Int} {n : Nat} (_ : n ≤ 4) (h : allIn z n 0 6 = true) : Vec.norm (vecN z n) ≤ 24 := by
  have h := allIn_iff.1 h
  have g : ∀ j, 0 ≤ padN z n j ∧ padN z n j ≤ 6 := fun j => by
    unfold padN
    by_cases hj : j < n
    · simp only [hj, if_true]; exact h j hj
    · simp only [hj, if_false]; omega
  have g0 := g 0; have g1 := g 1; have g2 := g 2; have g3 := g 3
  simp only [Vec.norm, vecN, vecOf]; omega

theorem fam_good (a : Option Addr) (cap R : Nat) (A : Nat → Option Addr) (L C : Nat → Nat) (Z : Nat → Nat → Int) (ax : Option Addr) (n cx : Nat) (z : Nat → Int) (w : World)
    (hm : Mat w a (min R 250) A (fun j => min (L j) 6) C Z) (hz : Ints w ax (min n 6) z) (hv : isVec R L Z n z 0 6 = true) :
    Calls Try.prog 77 #[.slice a ((min R 250 : Nat) : Nat) cap, .slice ax ((min n 6 : Nat) : Nat) cx] w fun e w' => (hasPure (mxOf R L Z) → FamNo 5 w e w') ∧ (¬ hasPure (mxOf R L Z) → FamOk (mxOf R L Z) (vecN z n) w e w') := by
  have h := isVec_iff.1 hv
  have hok := mxOf_ok h.1
  have hnn : n = (mxOf R L Z).n := h.2.1
  have hn4 : n ≤ 4 := by have := hok.n4; omega
  refine ffamily_core (mxOf R L Z) (vecN z n) _ _ w hok (by rw [← hnn]; exact vecN_cols) (vecN_whole h.2.2) (norm_24 hn4 h.2.2) fun w0 => ?_
  exact readBoth_good a cap R A L C Z ax n cx z 0 6 (w.alloc w0) (hm.keep (Nat.le_refl _) (below_alloc1 _ _)) (hz.keep (Nat.le_refl _) (below_alloc1 _ _)) hv
end Go.Proofs.Ytaglbnblfhfkeaa

/-
  An assortment is alone in its family exactly if no basic move leads anywhere.
-/
namespace Go.Proofs.Ytaglbnblfhfkeaa
open Vec

theorem leads_iff {m : Mx} {x : Vec} {l : List Vec} (hl : IsFam m x l) (hxc : inCols m.n x) (hx : Whole x) : (∃ b, Basic m b ∧ Whole (add x b)) ↔ 1 < l.length := by
  have hn := hl.nodup
  have hxl : x ∈ l := (hl.mem x).2 (Fam.self hxc hx)
  constructor
  · rintro ⟨b, hb, hw⟩
    have hbl : add x b ∈ l := (hl.mem _).2 ((Fam.self hxc hx).add hb hw)
    have hne : add x b ≠ x := fun e => hb.ne (by
      have ha : x.a + b.a = x.a := congrArg Vec.a e
      have hb : x.b + b.b = x.b := congrArg Vec.b e
      have hc : x.c + b.c = x.c := congrArg Vec.c e
      have hd : x.d + b.d = x.d := congrArg Vec.d e
      apply ext4 <;> simp only [zero] <;> omega)
    match l, hxl, hbl with
    | [], h, _ => cases h
    | [z], h1, h2 => exact absurd ((List.mem_singleton.1 h2).trans (List.mem_singleton.1 h1).symm) hne
    | _ :: _ :: _, _, _ => simp
  · intro h1
    apply Classical.byContradiction
    intro hno
    have all : ∀ y ∈ l, y = x := fun y hy =>
      fam_path hxc hx (fun v => v = x) rfl (fun v b hv _ hb hw => absurd ⟨b, hb, by rw [← hv]; exact hw⟩ hno) ((hl.mem y).1 hy)
    match l, hn, h1, all with
    | y :: z :: t, hn, _, all =>
      have e1 := all y List.mem_cons_self
      have e2 := all z (List.mem_cons_of_mem _ List.mem_cons_self)
      exact (List.nodup_cons.1 hn).1 (by rw [e1, ← e2]; exact List.mem_cons_self)
    | [y], _, h1, _ => simp at h1
    | [], _, h1, _ => simp at h1

end Go.Proofs.Ytaglbnblfhfkeaa
