import Derived.Test.YtfommfgokpiieaaDoorGI
import Derived.Test.YtfommfgokpiieaaDoorG4
namespace Go.Proofs.YtfommfgokpiieaaDoor
open Go.RowKit Go.Shelf

/-- A factoring's cells. -/
def fc (h : Nat) (x : Fa) : List Value := [.int .i64 x.k, .int .i64 x.a, .int .i64 x.b, .int .i64 ((h : Int) - x.a - x.b)]
theorem fc_ok (h : Nat) (x : Fa) : ∀ u ∈ fc h x, u.oneCell' = true := by
  intro u hu
  simp [fc] at hu
  rcases hu with rfl | rfl | rfl | rfl <;> rfl
/-- A slice of factorings of the call's own. -/
def OwnF (w : World) (base h : Nat) (v : Value) (L : List Fa) : Prop := w.ownsRow base 39 4 v L.length (L.flatMap (fc h))
theorem OwnF.keep {w w' : World} {base h : Nat} {v : Value} {L : List Fa} (H : OwnF w base h v L) (hb : Below w.heap.size w w') : OwnF w' base h v L := ownsRow_below H hb
theorem OwnF.snoc {w : World} {base h : Nat} {v : Value} {L : List Fa} {x : Fa} (H : w.ownsRow base 39 4 v (L.length + 1) (L.flatMap (fc h) ++ fc h x)) : OwnF w base h v (L ++ [x]) := by
  unfold OwnF
  simpa using H
theorem Tryd.infoA4 : (Tryd.prog.info? 39).map (fun i => (i.zero, i.size, i.bytes)) = some (some (.agg #[.int .i64 0, .int .i64 0, .int .i64 0, .int .i64 0]), 4, 32) := by kernel_rfl

set_option maxHeartbeats 8000000 in
set_option maxRecDepth 100000 in
theorem rfactors_any (s : ByteArray) (l : List UInt8) (h : Nat) (w : World) (hl : s.data.toList = l) (hw : wordB l = true) (hh : s.size = 2 * h) :
    Calls Tryd.prog 45 #[.string s] w fun e w' => ∃ v, e = .returned v ∧ OwnF w' w.heap.size h v (facL s) ∧ Below w.heap.size w w' := by
  have hs : s.size ≤ 24 := by have := (wordB_iff.1 hw).1; rw [← hl] at this; exact this
  have HIs := Lib.hid (fun k a b W h1 h2 h3 h4 => isf_any s l k a b h (isF s k a b) W hl hw hh h1 h2 h3 h4 rfl)
  have e3 : (s.size : Int) / 2 = h := by omega
  have Hhh : Hid (s.size / 2 = h) := by simp only [Hid]; omega
  have h12 : h ≤ 12 := by omega
  have HL := Lib.hid (facL_len s hs)
  clear hl hw hh
  go_enter Tryd.func45, Tryd.ntmps45
  go_wp2
  clear e3
  go_loopw [3, 14] (fun v i wr => ∃ k : Nat, k ≤ s.size ∧ i = .int .i64 k ∧ OwnF wr w.heap.size h v (facK s k) ∧ Below w.heap.size w wr) (fun _ i _ => s.size - (intOf i).toNat)
  case atStart => exact ⟨0, Nat.zero_le _, rfl, World.ownsRow_nil _ _ _ _, Below.refl _ _⟩
  case round =>
    obtain ⟨k, hk, rfl, ho, hb⟩ := hrel
    obtain ⟨wo, hwo⟩ : ∃ wo : World, wo = wr := ⟨_, rfl⟩
    subst hwo
    have HO1 := Lib.hid ho
    have HB1 := Lib.hid hb
    clear ho hb
    by_cases hlt : k < s.size
    rotate_left
    · have e : s.size = k := by omega
      have HF := HO1.out
      rw [← e] at HF
      have HF := Lib.hid HF
      have hge : (s.size : Int) ≤ k := by omega
      clear e
      go_wp2
      go_ret
      exact ⟨_, rfl, HF.out, HB1.out⟩
    have hki : (k : Int) < s.size := by omega
    have HO2 := HO1.out
    rw [show facK s k = facK s k ++ facA s k (1 - 1) from by simp [facA]] at HO2
    have HO2 := Lib.hid HO2
    go_wp2
    go_loopw [3, 6] (fun v i wr => ∃ a : Nat, 1 ≤ a ∧ (a ≤ h ∨ a = 1) ∧ i = .int .i64 a ∧ OwnF wr w.heap.size h v (facK s k ++ facA s k (a - 1)) ∧ Below w.heap.size w wr) (fun _ i _ => h - (intOf i).toNat)
    case atStart => exact ⟨1, Nat.le_refl _, .inr rfl, rfl, HO2.out, HB1.out⟩
    case round =>
      obtain ⟨a, ha1, ha2, rfl, ho, hb⟩ := hrel
      obtain ⟨wp, hwp⟩ : ∃ wp : World, wp = wr := ⟨_, rfl⟩
      subst hwp
      have HO3 := Lib.hid ho
      have HB3 := Lib.hid hb
      clear ho hb
      by_cases hlta : a < h
      rotate_left
      · have e : a - 1 = h - 1 := by omega
        have HN := HO3.out
        rw [e, ← Hhh.out, ← facK_succ, Hhh.out] at HN
        have HN := Lib.hid HN
        have hge : (h : Int) ≤ a := by omega
        clear e
        go_wp2
        go_roundw
        case rel => exact ⟨k + 1, by omega, by go_num, HN.out, HB3.out⟩
        case measure => simp [intOf]; omega
      have HO4 := HO3.out
      rw [show facK s k ++ facA s k (a - 1) = facK s k ++ facA s k (a - 1) ++ facRow s k a (1 - 1) from by simp [facRow]] at HO4
      have HO4 := Lib.hid HO4
      have hai : (a : Int) < h := by omega
      go_wp2
      go_loopw [3, 7] (fun v i wr => ∃ b : Nat, 1 ≤ b ∧ b ≤ h - a + 1 ∧ i = .int .i64 b ∧ OwnF wr w.heap.size h v (facK s k ++ facA s k (a - 1) ++ facRow s k a (b - 1)) ∧ Below w.heap.size w wr) (fun _ i _ => h + 1 - (intOf i).toNat)
      case atStart => exact ⟨1, Nat.le_refl _, by omega, rfl, HO4.out, HB3.out⟩
      case round =>
        obtain ⟨b, hb1, hb2, rfl, ho, hb⟩ := hrel
        have HO5 := Lib.hid ho
        have HB5 := Lib.hid hb
        have hsz := hb.size
        clear ho hb
        by_cases hab : a + b ≤ h
        rotate_left
        · have e : b - 1 = h - a := by omega
          have HN := HO5.out
          rw [e, ← Hhh.out, List.append_assoc, ← facA_succ' ha1, Hhh.out] at HN
          rw [show facA s k a = facA s k (a + 1 - 1) from rfl] at HN
          have HN := Lib.hid HN
          have hge : (h : Int) < (a : Int) + b := by omega
          clear e
          go_wp2
          go_roundw
          case rel => exact ⟨a + 1, by omega, by omega, by go_num, HN.out, HB5.out⟩
          case measure => simp [intOf]; omega
        have HPre := Lib.hid (fac_pre' (s := s) (B := b) hlt ha1 (by rw [Hhh.out]; exact hlta) (by rw [Hhh.out]; omega))
        have s1 : IntKind.i64.wrap ((h : Int) - a) = (h : Int) - a := IntWalk.i64_in _ (by omega)
        have s2 : IntKind.i64.wrap ((h : Int) - a - b) = (h : Int) - a - b := IntWalk.i64_in _ (by omega)
        have habi : ((a : Int) + b) ≤ h := by omega
        have HI := Lib.hid (fun W => HIs.out k a b W hlt ha1 hb1 hab)
        have HRN := Lib.hid (fun hf => facRow_no' (s := s) (k := k) (a := a) hb1 hf)
        have HRY := Lib.hid (fun hf => facRow_yes' (s := s) (k := k) (a := a) hb1 hf)
        have HX : Hid ((wr.alloc (.cells #[.int .i64 k, .int .i64 a, .int .i64 b, .int .i64 ((h : Int) - a - b)] 39)).heap[wr.heap.size]? = some (.cells #[.int .i64 k, .int .i64 a, .int .i64 b, .int .i64 ((h : Int) - a - b)] 39)) := heap_alloc_new wr _
        go_wp2_with fail
        refine (HI.out _).mono ?_
        rintro e w1 ⟨rfl, hb⟩
        have hx := (hb.block wr.heap.size (by simp)).trans HX.out
        have HO6 := Lib.hid ((HO5.out.keep (one_le wr (.cells #[.int .i64 k, .int .i64 a, .int .i64 b, .int .i64 ((h : Int) - a - b)] 39))).keep hb)
        have HB6 := Lib.hid (band (HB5.out.alloc HB5.out.size (.cells #[.int .i64 k, .int .i64 a, .int .i64 b, .int .i64 ((h : Int) - a - b)] 39)) hb)
        have q0 := block_cell hx 0
        have q1 := block_cell hx 1
        have q2 := block_cell hx 2
        have q3 := block_cell hx 3
        clear hb hx HX HO5 HB5 s1 s2 habi
        cases hf : isF s k a b
        · have HN := HO6.out
          rw [← HRN.out hf, show facRow s k a b = facRow s k a (b + 1 - 1) from rfl] at HN
          have HN := Lib.hid HN
          clear hf
          go_wp2
          go_roundw
          case rel => exact ⟨b + 1, by omega, by omega, by go_num, HN.out, HB6.out⟩
          case measure => simp [intOf]; omega
        · have HY := Lib.hid (HRY.out hf)
          have hl := (HPre.out).length_le
          rw [HY.out, ← List.append_assoc, List.length_append, List.length_singleton] at hl
          have hl2 := HL.out
          have HNew : Hid (∀ j u, (fc h ⟨k, a, b⟩)[j]? = some u → (w1.alloc (.cells #[.int .i64 k, .int .i64 a, .int .i64 b, .int .i64 ((h : Int) - a - b)] 39)).cell? ((⟨w1.heap.size, 0, none⟩ : Addr).add j) = some u) := new_cells w1 (fc h ⟨k, a, b⟩) 39
          have hsz6 := HB6.out.size
          obtain ⟨i0, hi, hz0, hz1, hz2⟩ := info_parts Tryd.infoA4
          clear hf
          go_wp2_with (at_builtin; refine wpList_append_own _ rfl _ _ 65 rfl w.heap.size 39 i0 (.agg #[.int .i64 0, .int .i64 0, .int .i64 0, .int .i64 0]) 4 32 Tryd.underlying65 hi hz0 hz1 hz2 rfl (by decide) _ _ _ rfl ((HO6.out.keep (one_le _ _)) : World.ownsRow _ _ _ _ _ _ _) ⟨w1.heap.size, 0, none⟩ 1 1 (fc h ⟨k, a, b⟩) rfl rfl HNew.out (fc_ok _ _) (by unfold maxLen; omega) (by omega) (by simp <;> omega) ?_)
          intro v' w5 hown hgrow _
          have HO7 : Hid (OwnF w5 w.heap.size h v' (facK s k ++ facA s k (a - 1) ++ facRow s k a (b + 1 - 1))) := by
            simp only [Hid]
            rw [Nat.add_sub_cancel, HY.out, ← List.append_assoc]
            exact OwnF.snoc (by simpa [Nat.add_assoc] using hown)
          have HB7 : Hid (Below w.heap.size w w5) :=
            HB6.out.trans (((Below.refl _ _).alloc (by omega) _).grown hgrow (by simp <;> omega) (fun k hk => (World.ownsRow.lt HO6.out k hk).1))
          clear hown hgrow q0 q1 q2 q3 hi hz0 hz1 hz2
          go_wp2
          go_roundw
          case rel => exact ⟨b + 1, by omega, by omega, by go_num, HO7.out, HB7.out⟩
          case measure => simp [intOf]; omega
end Go.Proofs.YtfommfgokpiieaaDoor
