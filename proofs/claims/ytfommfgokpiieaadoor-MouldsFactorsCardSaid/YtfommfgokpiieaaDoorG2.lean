import Derived.Test.YtfommfgokpiieaaDoorG1
import Derived.RangeFuncNested
import Derived.RangeFuncBound
import Derived.RangeFuncCalls
import Derived.RangeFuncLeaves
import Derived.Shelf.Abstract
import Derived.Shelf.RegionOpen
import Derived.OwnWalkIn
import Derived.TacticsInMore
import Derived.LoopNIn
import Derived.LoopIn
import Derived.Shelf.AbstractIn
namespace Go.Proofs.YtfommfgokpiieaaDoor
open Go.RowKit Go.Shelf

attribute [local go_sem] Oper.semAt_some

/-- A factoring that the iterator hands over. -/
def EF (h : Nat) (x : Fa) (v : Value) (_ : World) : Prop := v = .agg #[.int .i64 x.k, .int .i64 x.a, .int .i64 x.b, .int .i64 ((h : Int) - x.a - x.b)]
theorem ef_own (B h : Nat) (x : Fa) (v : Value) : OwnFrom B (fun (_ : Unit) W => EF h x v W) := fun _ _ _ _ h _ _ => h
theorem ef_avoid {T : Nat → Prop} {h : Nat} {x : Fa} {v : Value} {w : World} (hv : EF h x v w) : Avoid T v := by
  unfold EF at hv
  subst hv; intro b o s n c h; cases h

theorem facRow_yes' {s : ByteArray} {k a b : Nat} (hb : 1 ≤ b) (h : isF s k a b = true) : facRow s k a b = facRow s k a (b - 1) ++ [⟨k, a, b⟩] := by
  obtain ⟨m, rfl⟩ : ∃ m, b = m + 1 := ⟨b - 1, by omega⟩
  exact facRow_yes h
theorem facRow_no' {s : ByteArray} {k a b : Nat} (hb : 1 ≤ b) (h : isF s k a b = false) : facRow s k a b = facRow s k a (b - 1) := by
  obtain ⟨m, rfl⟩ : ∃ m, b = m + 1 := ⟨b - 1, by omega⟩
  exact facRow_no h
theorem facA_succ' {s : ByteArray} {k a : Nat} (ha : 1 ≤ a) : facA s k a = facA s k (a - 1) ++ facRow s k a (s.size / 2 - a) := by
  obtain ⟨m, rfl⟩ : ∃ m, a = m + 1 := ⟨a - 1, by omega⟩
  exact facA_succ s k m
theorem fac_pre' {s : ByteArray} {k a B : Nat} (hk : k < s.size) (h1 : 1 ≤ a) (hA : a < s.size / 2) (hB : B ≤ s.size / 2 - a) : facK s k ++ facA s k (a - 1) ++ facRow s k a B <+: facL s := by
  obtain ⟨m, rfl⟩ : ∃ m, a = m + 1 := ⟨a - 1, by omega⟩
  exact fac_pre hk hA hB

set_option maxHeartbeats 16000000 in
set_option maxRecDepth 100000 in
theorem fact_iter (s : ByteArray) (b1 : Nat) (w0 : World) (hw : wordB s.data.toList = true) (hc : w0.cell? ⟨b1, 0, none⟩ = some (.string s)) :
    Iter Tryd.prog 59 #[.pointer (some ⟨b1, 0, none⟩)] (EF (s.size / 2)) (fun k => k = b1) (facL s) w0 := by
  intro T l1 J Jx W hW hPr hT hJ hJx hY h0
  have hs : s.size ≤ 24 := (wordB_iff.1 hw).1
  have hnb : ¬ T b1 := hPr b1 rfl
  have hc' : W.cell? ⟨b1, 0, none⟩ = some (.string s) := (hW.cell (p := ⟨b1, 0, none⟩) (World.block_lt_of_cell? _ _ hc)).trans hc
  have HC := Lib.hid (fun W' (h : Keep T W W') => h.cell hc' hnb)
  have HJ := Lib.hid hJ
  have HJx := Lib.hid hJx
  have HY := Lib.hid hY
  have H0 := Lib.hid h0
  have HTn := Lib.hid (fun k W' => turn_any s k W' hs)
  have HBk : Hid (∀ k W', k ≤ s.size → Calls Tryd.prog 41 #[.string (turnB s k)] W' fun e w' => e = .returned (.string (bkB s k)) ∧ Below W'.heap.size W' w') :=
    fun k W' _ => wback_any (turnB s k) (turnL s.data.toList k) W' (turnB_list s k) (turnL_word hw k)
  have hw1 : ∀ f, Fence.wide.fn f := fun _ => trivial
  have hw2 : Fence.wide.depth = none := rfl
  have e3 : (s.size : Int) / 2 = ((s.size / 2 : Nat) : Int) := by omega
  obtain ⟨h, hh⟩ : ∃ h, s.size / 2 = h := ⟨_, rfl⟩
  have Hh := Lib.hid hh
  rw [hh] at e3 HY
  have hhn : 2 * h ≤ s.size := by omega
  clear hW hPr hT hY h0 hc hc' hnb hJ hJx hh hw
  have c0 := HC.out W (Keep.refl _ _)
  refine callsIn_wide (n := 0).1 ?_
  refine callsIn_of_wp Tryd.func59 rfl trivial ?_ rfl
  simp only [Tryd.ntmps59, List.size_toArray, List.length_cons, List.length_nil, Nat.reduceAdd, Nat.reduceSub, Array.replicate_succ, Array.replicate_zero, List.push_toArray, List.append_toArray, List.nil_append, List.cons_append]
  gi_wp2
  clear c0 e3
  gi_loopw [14] (fun i wr => ∃ k : Nat, k ≤ s.size ∧ i = .int .i64 k ∧ Keep T W wr ∧ J (facK s k) wr) (fun i _ => s.size - (intOf i).toNat)
  case atStart => exact ⟨0, Nat.zero_le _, rfl, Keep.refl _ _, H0.out⟩
  case round =>
    obtain ⟨k, hk, rfl, hb, hj⟩ := hrel
    obtain ⟨wo, hwo⟩ : ∃ wo : World, wo = wr := ⟨_, rfl⟩
    subst hwo
    have HB := Lib.hid hb
    have HJ1 := Lib.hid hj
    clear hb hj
    by_cases hlt : k < s.size
    rotate_left
    · have e : s.size = k := by omega
      have HF : Hid (J (facL s) wo) := by rw [Hid, facL, e]; exact HJ1.out
      have hge : (s.size : Int) ≤ k := by omega
      clear e
      gi_wp2
      go_end0
      exact ⟨⟨_, rfl⟩, HB.out, Or.inl HF.out⟩
    have c0 := HC.out wo HB.out
    have HT1 := Lib.hid (fun W' => HTn.out k W' (by omega))
    have HK1 := Lib.hid (fun W' => HBk.out k W' (by omega))
    gi_wp2_with fail
    refine (callsIn_wide.2 (HT1.out _)).mono ?_
    rintro e w1 ⟨rfl, hb1⟩
    have HBa := Lib.hid hb1
    clear hb1 c0
    gi_wp2_with fail
    refine (callsIn_wide.2 (HK1.out _)).mono ?_
    rintro e w2 ⟨rfl, hb2⟩
    have HBb := Lib.hid (band HBa.out hb2)
    have HJ2 : Hid (J (facK s k ++ facA s k 0) w2) := by
      have : facA s k 0 = [] := rfl
      simp only [Hid]; rw [this, List.append_nil]
      exact ownFrom_call HJ.out HJ1.out HBb.out
    have HB2 : Hid (Keep T W w2) := HB.out.trans (Keep.of HBb.out)
    clear hb2
    have HTs := Lib.hid (turnB_size s k (by omega))
    have HBs := Lib.hid (bkB_size s k (by omega))
    have HF : Hid (∀ a b, isF s k a b = decide (((turnB s k).extract h s.size).toList = (backsB (bkB s k) a b).toList)) := fun a b => by unfold isF; rw [Hh.out]
    clear HT1 HK1
    generalize turnB s k = Tn at HTs HF ⊢
    generalize bkB s k = Bk at HBs HF ⊢
    gi_wp2
    gi_loopw [7] (fun i wr => ∃ a : Nat, 1 ≤ a ∧ (a ≤ h ∨ a = 1) ∧ i = .int .i64 a ∧ Keep T W wr ∧ J (facK s k ++ facA s k (a - 1)) wr) (fun i _ => h - (intOf i).toNat)
    case atStart => exact ⟨1, Nat.le_refl _, .inr rfl, rfl, HB2.out, HJ2.out⟩
    case round =>
      obtain ⟨a, ha1, ha2, rfl, hb, hj⟩ := hrel
      obtain ⟨wp, hwp⟩ : ∃ wp : World, wp = wr := ⟨_, rfl⟩
      subst hwp
      have HB3 := Lib.hid hb
      have HJ3 := Lib.hid hj
      clear hb hj
      by_cases hlta : a < h
      rotate_left
      · have e : a - 1 = h - 1 := by omega
        have HN : Hid (J (facK s (k + 1)) wp) := by simp only [Hid]; rw [facK_succ, Hh.out, ← e]; exact HJ3.out
        have hge : (h : Int) ≤ a := by omega
        clear e
        gi_wp2
        go_roundw
        case rel => exact ⟨k + 1, by omega, by go_num, HB3.out, HN.out⟩
        case measure => simp [intOf]; omega
      have HJ4 : Hid (J (facK s k ++ facA s k (a - 1) ++ facRow s k a 0) wp) := by
        have : facRow s k a 0 = [] := rfl
        simp only [Hid]; rw [this, List.append_nil]; exact HJ3.out
      gi_wp2
      gi_loopw [8] (fun i wr => ∃ b : Nat, 1 ≤ b ∧ b ≤ h - a + 1 ∧ i = .int .i64 b ∧ Keep T W wr ∧ J (facK s k ++ facA s k (a - 1) ++ facRow s k a (b - 1)) wr) (fun i _ => h + 1 - (intOf i).toNat)
      case atStart => exact ⟨1, Nat.le_refl _, by omega, rfl, HB3.out, HJ4.out⟩
      case round =>
        obtain ⟨b, hb1, hb2, rfl, hb, hj⟩ := hrel
        have HB5 := Lib.hid hb
        have HJ5 := Lib.hid hj
        have hsz := hb.size
        clear hb hj
        by_cases hab : a + b ≤ h
        rotate_left
        · have e : b - 1 = h - a := by omega
          have HN : Hid (J (facK s k ++ facA s k (a + 1 - 1)) wr) := by
            simp only [Hid]; rw [Nat.add_sub_cancel, facA_succ' ha1, Hh.out, ← List.append_assoc, ← e]; exact HJ5.out
          have hge : (h : Int) < (a : Int) + b := by omega
          clear e
          gi_wp2
          go_roundw
          case rel => exact ⟨a + 1, by omega, by omega, by go_num, HB5.out, HN.out⟩
          case measure => simp [intOf]; omega
        have hmx : Tryd.prog.follows .mixedOrders = true := by kernel_rfl
        have HK2 := Lib.hid (fun W' => backs_any Bk a b W' (by rw [HBs.out]; exact hs) ha1 hb1 (by rw [HBs.out, Hh.out]; exact hab))
        have hpre : facK s k ++ facA s k (a - 1) ++ facRow s k a b <+: facL s := fac_pre' hlt ha1 (by rw [Hh.out]; exact hlta) (by rw [Hh.out]; omega)
        have HPre := Lib.hid hpre
        have l1' : (h : Int) ≤ Tn.size := by rw [HTs.out]; omega
        have l2' : (0 : Int) ≤ h := by omega
        have s1 : IntKind.i64.wrap ((h : Int) - a) = (h : Int) - a := IntWalk.i64_in _ (by omega)
        have s2 : IntKind.i64.wrap ((h : Int) - a - b) = (h : Int) - a - b := IntWalk.i64_in _ (by omega)
        have HFab := Lib.hid (HF.out a b)
        rw [← HTs.out] at HFab
        have HRN := Lib.hid (fun hf => facRow_no' (s := s) (k := k) (a := a) hb1 hf)
        have HRY := Lib.hid (fun hf => facRow_yes' (s := s) (k := k) (a := a) hb1 hf)
        clear hpre
        cases hf : isF s k a b
        · rw [hf] at HFab
          have hq := HFab.out
          have hq3 : ¬ (Tn.extract h Tn.size).toList = (backsB Bk a b).toList := of_decide_eq_false hq.symm
          have hq1 : decide ((Tn.extract h Tn.size).toList = (backsB Bk a b).toList) = false := hq.symm
          have hq2 : ((Tn.extract h Tn.size).toList == (backsB Bk a b).toList) = false := by simpa using hq3
          have HR1 := Lib.hid (HRN.out hf)
          clear hq HRN HRY hf
          generalize backsB Bk a b = V at HK2 hq1 hq2 hq3 HFab
          gi_wp2
          refine wpIn_region_any (by assumption) ?_
          try (change wpAnyIn _ _ _ _ _ _ _ _ _ (World.drew _))
          refine wpAnyIn_take (i := 0) (oi := ⟨some 34, _, _, _, _, _⟩) (v := .string Tn) rfl rfl (by kernel_rfl) (by kernel_rfl) (by kernel_rfl) (fun _ _ _ h => h) ⟨Or.inl ⟨by rfl, ?_⟩, fun _ => rfl⟩ ?_
          · intro w; go_simp
          try simp only [Act.put, List.setIfInBounds_toArray, List.set_cons_zero, List.set_cons_succ]
          refine wpAnyIn_take (i := 1) (oi := ⟨some 35, _, _, _, _, _⟩) (v := .int .i64 h) rfl rfl (by kernel_rfl) (by kernel_rfl) (by kernel_rfl) (fun _ _ _ h => h) ⟨Or.inl ⟨by rfl, ?_⟩, fun _ => rfl⟩ ?_
          · intro w; go_simp
          try simp only [Act.put, List.setIfInBounds_toArray, List.set_cons_zero, List.set_cons_succ]
          refine wpAnyIn_take (i := 2) (oi := ⟨some 36, _, _, _, _, _⟩) (v := .string (Tn.extract h Tn.size)) rfl rfl (by kernel_rfl) (by kernel_rfl) (by kernel_rfl) (fun _ _ _ h => h) ⟨Or.inl ⟨by rfl, ?_⟩, fun _ => rfl⟩ ?_
          · intro w; go_simp
          try simp only [Act.put, List.setIfInBounds_toArray, List.set_cons_zero, List.set_cons_succ]
          refine wpAnyIn_take (i := 3) (oi := ⟨some 37, _, _, _, _, _⟩) (v := .string Bk) rfl rfl (by kernel_rfl) (by kernel_rfl) (by kernel_rfl) (fun _ _ _ h => h) ⟨Or.inl ⟨by rfl, ?_⟩, fun _ => rfl⟩ ?_
          · intro w; go_simp
          try simp only [Act.put, List.setIfInBounds_toArray, List.set_cons_zero, List.set_cons_succ]
          refine wpAnyIn_take (i := 4) (oi := ⟨some 38, _, _, _, _, _⟩) (v := .int .i64 a) rfl rfl (by kernel_rfl) (by kernel_rfl) (by kernel_rfl) (fun _ _ _ h => h) ⟨Or.inl ⟨by rfl, ?_⟩, fun _ => rfl⟩ ?_
          · intro w; go_simp
          try simp only [Act.put, List.setIfInBounds_toArray, List.set_cons_zero, List.set_cons_succ]
          refine wpAnyIn_take (i := 5) (oi := ⟨some 39, _, _, _, _, _⟩) (v := .int .i64 b) rfl rfl (by kernel_rfl) (by kernel_rfl) (by kernel_rfl) (fun _ _ _ h => h) ⟨Or.inl ⟨by rfl, ?_⟩, fun _ => rfl⟩ ?_
          · intro w; go_simp
          try simp only [Act.put, List.setIfInBounds_toArray, List.set_cons_zero, List.set_cons_succ]
          refine wpAnyIn_ready (rs := [6]) (by kernel_rfl) (by simp) ?_
          refine AllReadyIn.cons (o := ⟨some 40, _, _, _, _, _⟩) rfl (fun K hK => ?_) AllReadyIn.nil
          go_simp
          refine (callsIn_wide.2 (HK2.out _)).mono ?_
          rintro e w3 ⟨rfl, hb3⟩
          have HB6 := Lib.hid (below_drew1 hb3)
          clear hb3
          gi_wp2_with fail
          try (refine hK _ _ ?_; clear hK K)
          try simp only [Act.put, List.setIfInBounds_toArray, List.set_cons_zero, List.set_cons_succ]
          refine wpAnyIn_take (i := 7) (oi := ⟨some 41, _, _, _, _, _⟩) (v := .bool false) rfl rfl (by kernel_rfl) (by kernel_rfl) (by kernel_rfl) (fun _ _ _ h => h) ⟨Or.inl ⟨by rfl, ?_⟩, fun _ => rfl⟩ ?_
          · intro w; go_simp
          try simp only [Act.put, List.setIfInBounds_toArray, List.set_cons_zero, List.set_cons_succ]
          refine wpAnyIn_take (i := 8) (oi := ⟨some 42, _, _, _, _, _⟩) (v := .bool false) rfl rfl (by kernel_rfl) (by kernel_rfl) (by kernel_rfl) (fun _ _ _ h => h) ⟨Or.inl ⟨by rfl, ?_⟩, fun _ => rfl⟩ ?_
          · intro w; go_simp
          try simp only [Act.put, List.setIfInBounds_toArray, List.set_cons_zero, List.set_cons_succ]
          refine wpAnyIn_take (i := 9) (oi := ⟨some 43, _, _, _, _, _⟩) (v := undef) rfl rfl (by kernel_rfl) (by kernel_rfl) (by kernel_rfl) (fun _ _ _ h => h) ⟨Or.inr ⟨by rfl, rfl⟩, fun _ => rfl⟩ ?_
          try simp only [Act.put, List.setIfInBounds_toArray, List.set_cons_zero, List.set_cons_succ]
          refine wpAnyIn_take (i := 10) (oi := ⟨some 44, _, _, _, _, _⟩) (v := undef) rfl rfl (by kernel_rfl) (by kernel_rfl) (by kernel_rfl) (fun _ _ _ h => h) ⟨Or.inr ⟨by rfl, rfl⟩, fun _ => rfl⟩ ?_
          try simp only [Act.put, List.setIfInBounds_toArray, List.set_cons_zero, List.set_cons_succ]
          refine wpAnyIn_take (i := 11) (oi := ⟨some 45, _, _, _, _, _⟩) (v := undef) rfl rfl (by kernel_rfl) (by kernel_rfl) (by kernel_rfl) (fun _ _ _ h => h) ⟨Or.inr ⟨by rfl, rfl⟩, fun _ => rfl⟩ ?_
          try simp only [Act.put, List.setIfInBounds_toArray, List.set_cons_zero, List.set_cons_succ]
          refine wpAnyIn_take (i := 12) (oi := ⟨some 46, _, _, _, _, _⟩) (v := undef) rfl rfl (by kernel_rfl) (by kernel_rfl) (by kernel_rfl) (fun _ _ _ h => h) ⟨Or.inr ⟨by rfl, rfl⟩, fun _ => rfl⟩ ?_
          try simp only [Act.put, List.setIfInBounds_toArray, List.set_cons_zero, List.set_cons_succ]
          refine wpAnyIn_take (i := 13) (oi := ⟨some 47, _, _, _, _, _⟩) (v := undef) rfl rfl (by kernel_rfl) (by kernel_rfl) (by kernel_rfl) (fun _ _ _ h => h) ⟨Or.inr ⟨by rfl, rfl⟩, fun _ => rfl⟩ ?_
          try simp only [Act.put, List.setIfInBounds_toArray, List.set_cons_zero, List.set_cons_succ]
          refine wpAnyIn_take (i := 14) (oi := ⟨some 48, _, _, _, _, _⟩) (v := undef) rfl rfl (by kernel_rfl) (by kernel_rfl) (by kernel_rfl) (fun _ _ _ h => h) ⟨Or.inr ⟨by rfl, rfl⟩, fun _ => rfl⟩ ?_
          try simp only [Act.put, List.setIfInBounds_toArray, List.set_cons_zero, List.set_cons_succ]
          refine wpAnyIn_take (i := 15) (oi := ⟨some 49, _, _, _, _, _⟩) (v := undef) rfl rfl (by kernel_rfl) (by kernel_rfl) (by kernel_rfl) (fun _ _ _ h => h) ⟨Or.inr ⟨by rfl, rfl⟩, fun _ => rfl⟩ ?_
          try simp only [Act.put, List.setIfInBounds_toArray, List.set_cons_zero, List.set_cons_succ]
          refine wpAnyIn_take (i := 16) (oi := ⟨some 50, _, _, _, _, _⟩) (v := undef) rfl rfl (by kernel_rfl) (by kernel_rfl) (by kernel_rfl) (fun _ _ _ h => h) ⟨Or.inr ⟨by rfl, rfl⟩, fun _ => rfl⟩ ?_
          try simp only [Act.put, List.setIfInBounds_toArray, List.set_cons_zero, List.set_cons_succ]
          refine wpAnyIn_take (i := 17) (oi := ⟨some 51, _, _, _, _, _⟩) (v := undef) rfl rfl (by kernel_rfl) (by kernel_rfl) (by kernel_rfl) (fun _ _ _ h => h) ⟨Or.inr ⟨by rfl, rfl⟩, fun _ => rfl⟩ ?_
          try simp only [Act.put, List.setIfInBounds_toArray, List.set_cons_zero, List.set_cons_succ]
          refine wpAnyIn_take (i := 18) (oi := ⟨some 52, _, _, _, _, _⟩) (v := undef) rfl rfl (by kernel_rfl) (by kernel_rfl) (by kernel_rfl) (fun _ _ _ h => h) ⟨Or.inr ⟨by rfl, rfl⟩, fun _ => rfl⟩ ?_
          try simp only [Act.put, List.setIfInBounds_toArray, List.set_cons_zero, List.set_cons_succ]
          refine wpAnyIn_take (i := 19) (oi := ⟨some 53, _, _, _, _, _⟩) (v := undef) rfl rfl (by kernel_rfl) (by kernel_rfl) (by kernel_rfl) (fun _ _ _ h => h) ⟨Or.inr ⟨by rfl, rfl⟩, fun _ => rfl⟩ ?_
          try simp only [Act.put, List.setIfInBounds_toArray, List.set_cons_zero, List.set_cons_succ]
          refine wpAnyIn_take (i := 20) (oi := ⟨some 54, _, _, _, _, _⟩) (v := undef) rfl rfl (by kernel_rfl) (by kernel_rfl) (by kernel_rfl) (fun _ _ _ h => h) ⟨Or.inr ⟨by rfl, rfl⟩, fun _ => rfl⟩ ?_
          try simp only [Act.put, List.setIfInBounds_toArray, List.set_cons_zero, List.set_cons_succ]
          refine wpAnyIn_take (i := 21) (oi := ⟨some 55, _, _, _, _, _⟩) (v := .bool false) rfl rfl (by kernel_rfl) (by kernel_rfl) (by kernel_rfl) (fun _ _ _ h => h) ⟨Or.inl ⟨by rfl, ?_⟩, fun _ => rfl⟩ ?_
          · intro w; go_simp
          try simp only [Act.put, List.setIfInBounds_toArray, List.set_cons_zero, List.set_cons_succ]
          refine wpAnyIn_done (by kernel_rfl) ?_ _
          all_goals
            have HN : Hid (J (facK s k ++ facA s k (a - 1) ++ facRow s k a (b + 1 - 1)) w3) := by
              simp only [Hid]; rw [Nat.add_sub_cancel, HR1.out]; exact ownFrom_call HJ.out HJ5.out HB6.out
            have HBn : Hid (Keep T W w3) := HB5.out.trans (Keep.of HB6.out)
            clear s1 s2 hq1 hq2 hq3
            gi_wp2
            go_roundw
            case rel => exact ⟨b + 1, by omega, by omega, by go_num, HBn.out, HN.out⟩
            case measure => simp [intOf]; omega
        · rw [hf] at HFab
          have hq := HFab.out
          have hq3 : (Tn.extract h Tn.size).toList = (backsB Bk a b).toList := of_decide_eq_true hq.symm
          have hq1 : decide ((Tn.extract h Tn.size).toList = (backsB Bk a b).toList) = true := hq.symm
          have hq2 : ((Tn.extract h Tn.size).toList == (backsB Bk a b).toList) = true := by simpa using hq3
          have HR1 := Lib.hid (HRY.out hf)
          have HYw : Hid (∀ W', W.heap.size ≤ W'.heap.size → J (facK s k ++ facA s k (a - 1) ++ facRow s k a (b - 1)) W' → YieldAt Fence.wide 0 Tryd.prog l1 #[.agg #[.int .i64 k, .int .i64 a, .int .i64 b, .int .i64 ((h : Int) - a - b)]] W' fun e W'' =>
              Keep T W' W'' ∧ ((e = .returned (.bool true) ∧ J (facK s k ++ facA s k (a - 1) ++ facRow s k a (b - 1) ++ [⟨k, a, b⟩]) W'') ∨ (e = .returned (.bool false) ∧ Jx (facK s k ++ facA s k (a - 1) ++ facRow s k a (b - 1) ++ [⟨k, a, b⟩]) W''))) := by
            intro W' h1 h2
            refine HY.out _ ⟨k, a, b⟩ _ W' ?_ h1 h2 rfl (ef_avoid (w := W') (h := h) (x := ⟨k, a, b⟩) rfl)
            rw [List.append_assoc _ _ [(⟨k, a, b⟩ : Fa)], ← HR1.out]
            exact HPre.out
          clear hq HRN HRY hf
          generalize backsB Bk a b = V at HK2 hq1 hq2 hq3 HFab
          gi_wp2
          refine wpIn_region_any (by assumption) ?_
          try (change wpAnyIn _ _ _ _ _ _ _ _ _ (World.drew _))
          refine wpAnyIn_take (i := 0) (oi := ⟨some 34, _, _, _, _, _⟩) (v := .string Tn) rfl rfl (by kernel_rfl) (by kernel_rfl) (by kernel_rfl) (fun _ _ _ h => h) ⟨Or.inl ⟨by rfl, ?_⟩, fun _ => rfl⟩ ?_
          · intro w; go_simp
          try simp only [Act.put, List.setIfInBounds_toArray, List.set_cons_zero, List.set_cons_succ]
          refine wpAnyIn_take (i := 1) (oi := ⟨some 35, _, _, _, _, _⟩) (v := .int .i64 h) rfl rfl (by kernel_rfl) (by kernel_rfl) (by kernel_rfl) (fun _ _ _ h => h) ⟨Or.inl ⟨by rfl, ?_⟩, fun _ => rfl⟩ ?_
          · intro w; go_simp
          try simp only [Act.put, List.setIfInBounds_toArray, List.set_cons_zero, List.set_cons_succ]
          refine wpAnyIn_take (i := 2) (oi := ⟨some 36, _, _, _, _, _⟩) (v := .string (Tn.extract h Tn.size)) rfl rfl (by kernel_rfl) (by kernel_rfl) (by kernel_rfl) (fun _ _ _ h => h) ⟨Or.inl ⟨by rfl, ?_⟩, fun _ => rfl⟩ ?_
          · intro w; go_simp
          try simp only [Act.put, List.setIfInBounds_toArray, List.set_cons_zero, List.set_cons_succ]
          refine wpAnyIn_take (i := 3) (oi := ⟨some 37, _, _, _, _, _⟩) (v := .string Bk) rfl rfl (by kernel_rfl) (by kernel_rfl) (by kernel_rfl) (fun _ _ _ h => h) ⟨Or.inl ⟨by rfl, ?_⟩, fun _ => rfl⟩ ?_
          · intro w; go_simp
          try simp only [Act.put, List.setIfInBounds_toArray, List.set_cons_zero, List.set_cons_succ]
          refine wpAnyIn_take (i := 4) (oi := ⟨some 38, _, _, _, _, _⟩) (v := .int .i64 a) rfl rfl (by kernel_rfl) (by kernel_rfl) (by kernel_rfl) (fun _ _ _ h => h) ⟨Or.inl ⟨by rfl, ?_⟩, fun _ => rfl⟩ ?_
          · intro w; go_simp
          try simp only [Act.put, List.setIfInBounds_toArray, List.set_cons_zero, List.set_cons_succ]
          refine wpAnyIn_take (i := 5) (oi := ⟨some 39, _, _, _, _, _⟩) (v := .int .i64 b) rfl rfl (by kernel_rfl) (by kernel_rfl) (by kernel_rfl) (fun _ _ _ h => h) ⟨Or.inl ⟨by rfl, ?_⟩, fun _ => rfl⟩ ?_
          · intro w; go_simp
          try simp only [Act.put, List.setIfInBounds_toArray, List.set_cons_zero, List.set_cons_succ]
          refine wpAnyIn_ready (rs := [6]) (by kernel_rfl) (by simp) ?_
          refine AllReadyIn.cons (o := ⟨some 40, _, _, _, _, _⟩) rfl (fun K hK => ?_) AllReadyIn.nil
          go_simp
          refine (callsIn_wide.2 (HK2.out _)).mono ?_
          rintro e w3 ⟨rfl, hb3⟩
          have HB6 := Lib.hid (below_drew1 hb3)
          obtain ⟨fn, tmps, assign, body, hy, hR⟩ := HYw.out w3 (Nat.le_trans hsz HB6.out.size) (ownFrom_call HJ.out HJ5.out HB6.out)
          clear hb3
          gi_wp2_with fail
          try (refine hK _ _ ?_; clear hK K)
          try simp only [Act.put, List.setIfInBounds_toArray, List.set_cons_zero, List.set_cons_succ]
          refine wpAnyIn_take (i := 7) (oi := ⟨some 41, _, _, _, _, _⟩) (v := .bool true) rfl rfl (by kernel_rfl) (by kernel_rfl) (by kernel_rfl) (fun _ _ _ h => h) ⟨Or.inl ⟨by rfl, ?_⟩, fun _ => rfl⟩ ?_
          · intro w; go_simp
          try simp only [Act.put, List.setIfInBounds_toArray, List.set_cons_zero, List.set_cons_succ]
          refine wpAnyIn_take (i := 8) (oi := ⟨some 42, _, _, _, _, _⟩) (v := .bool true) rfl rfl (by kernel_rfl) (by kernel_rfl) (by kernel_rfl) (fun _ _ _ h => h) ⟨Or.inl ⟨by rfl, ?_⟩, fun _ => rfl⟩ ?_
          · intro w; go_simp
          try simp only [Act.put, List.setIfInBounds_toArray, List.set_cons_zero, List.set_cons_succ]
          refine wpAnyIn_take (i := 9) (oi := ⟨some 43, _, _, _, _, _⟩) (v := .func (.yield l1) #[] #[]) rfl rfl (by kernel_rfl) (by kernel_rfl) (by kernel_rfl) (fun _ _ _ h => h) ⟨Or.inl ⟨by rfl, ?_⟩, fun _ => rfl⟩ ?_
          · intro w; go_simp
          try simp only [Act.put, List.setIfInBounds_toArray, List.set_cons_zero, List.set_cons_succ]
          refine wpAnyIn_take (i := 10) (oi := ⟨some 44, _, _, _, _, _⟩) (v := .int .i64 k) rfl rfl (by kernel_rfl) (by kernel_rfl) (by kernel_rfl) (fun _ _ _ h => h) ⟨Or.inl ⟨by rfl, ?_⟩, fun _ => rfl⟩ ?_
          · intro w; go_simp
          try simp only [Act.put, List.setIfInBounds_toArray, List.set_cons_zero, List.set_cons_succ]
          refine wpAnyIn_take (i := 11) (oi := ⟨some 45, _, _, _, _, _⟩) (v := .int .i64 a) rfl rfl (by kernel_rfl) (by kernel_rfl) (by kernel_rfl) (fun _ _ _ h => h) ⟨Or.inl ⟨by rfl, ?_⟩, fun _ => rfl⟩ ?_
          · intro w; go_simp
          try simp only [Act.put, List.setIfInBounds_toArray, List.set_cons_zero, List.set_cons_succ]
          refine wpAnyIn_take (i := 12) (oi := ⟨some 46, _, _, _, _, _⟩) (v := .int .i64 b) rfl rfl (by kernel_rfl) (by kernel_rfl) (by kernel_rfl) (fun _ _ _ h => h) ⟨Or.inl ⟨by rfl, ?_⟩, fun _ => rfl⟩ ?_
          · intro w; go_simp
          try simp only [Act.put, List.setIfInBounds_toArray, List.set_cons_zero, List.set_cons_succ]
          refine wpAnyIn_take (i := 13) (oi := ⟨some 47, _, _, _, _, _⟩) (v := .int .i64 h) rfl rfl (by kernel_rfl) (by kernel_rfl) (by kernel_rfl) (fun _ _ _ h => h) ⟨Or.inl ⟨by rfl, ?_⟩, fun _ => rfl⟩ ?_
          · intro w; go_simp
          try simp only [Act.put, List.setIfInBounds_toArray, List.set_cons_zero, List.set_cons_succ]
          refine wpAnyIn_take (i := 14) (oi := ⟨some 48, _, _, _, _, _⟩) (v := .int .i64 a) rfl rfl (by kernel_rfl) (by kernel_rfl) (by kernel_rfl) (fun _ _ _ h => h) ⟨Or.inl ⟨by rfl, ?_⟩, fun _ => rfl⟩ ?_
          · intro w; go_simp
          try simp only [Act.put, List.setIfInBounds_toArray, List.set_cons_zero, List.set_cons_succ]
          refine wpAnyIn_take (i := 15) (oi := ⟨some 49, _, _, _, _, _⟩) (v := .int .i64 ((h : Int) - a)) rfl rfl (by kernel_rfl) (by kernel_rfl) (by kernel_rfl) (fun _ _ _ h => h) ⟨Or.inl ⟨by rfl, ?_⟩, fun _ => rfl⟩ ?_
          · intro w; go_simp
          try simp only [Act.put, List.setIfInBounds_toArray, List.set_cons_zero, List.set_cons_succ]
          refine wpAnyIn_take (i := 16) (oi := ⟨some 50, _, _, _, _, _⟩) (v := .int .i64 b) rfl rfl (by kernel_rfl) (by kernel_rfl) (by kernel_rfl) (fun _ _ _ h => h) ⟨Or.inl ⟨by rfl, ?_⟩, fun _ => rfl⟩ ?_
          · intro w; go_simp
          try simp only [Act.put, List.setIfInBounds_toArray, List.set_cons_zero, List.set_cons_succ]
          refine wpAnyIn_take (i := 17) (oi := ⟨some 51, _, _, _, _, _⟩) (v := .int .i64 ((h : Int) - a - b)) rfl rfl (by kernel_rfl) (by kernel_rfl) (by kernel_rfl) (fun _ _ _ h => h) ⟨Or.inl ⟨by rfl, ?_⟩, fun _ => rfl⟩ ?_
          · intro w; go_simp
          try simp only [Act.put, List.setIfInBounds_toArray, List.set_cons_zero, List.set_cons_succ]
          refine wpAnyIn_take (i := 18) (oi := ⟨some 52, _, _, _, _, _⟩) (v := .agg #[.int .i64 k, .int .i64 a, .int .i64 b, .int .i64 ((h : Int) - a - b)]) rfl rfl (by kernel_rfl) (by kernel_rfl) (by kernel_rfl) (fun _ _ _ h => h) ⟨Or.inl ⟨by rfl, ?_⟩, fun _ => rfl⟩ ?_
          · intro w; go_simp
          try simp only [Act.put, List.setIfInBounds_toArray, List.set_cons_zero, List.set_cons_succ]
          refine wpAnyIn_ready (rs := [19]) (by kernel_rfl) (by simp) ?_
          refine AllReadyIn.cons (o := ⟨some 53, _, _, _, _, _⟩) rfl (fun K hK => ?_) AllReadyIn.nil
          go_simp
          refine hR.mono ?_
          rintro e W3 ⟨hb4, hor⟩
          obtain ⟨r, rfl, hr⟩ : ∃ r : Bool, e = .returned (.bool r) ∧ ((r = true ∧ J (facK s k ++ facA s k (a - 1) ++ facRow s k a (b - 1) ++ [⟨k, a, b⟩]) W3) ∨ (r = false ∧ Jx (facK s k ++ facA s k (a - 1) ++ facRow s k a (b - 1) ++ [⟨k, a, b⟩]) W3)) := hor.elim (fun h => ⟨true, h.1, Or.inl ⟨rfl, h.2⟩⟩) (fun h => ⟨false, h.1, Or.inr ⟨rfl, h.2⟩⟩)
          have HR3 := Lib.hid hr
          have HB4 := Lib.hid hb4
          clear hor hr hb4
          gi_wp2_with fail
          try (refine hK _ _ ?_; clear hK K)
          try simp only [Act.put, List.setIfInBounds_toArray, List.set_cons_zero, List.set_cons_succ]
          refine wpAnyIn_take (i := 20) (oi := ⟨some 54, _, _, _, _, _⟩) (v := .bool (!r)) rfl rfl (by kernel_rfl) (by kernel_rfl) (by kernel_rfl) (fun _ _ _ h => h) ⟨Or.inl ⟨by rfl, ?_⟩, fun _ => rfl⟩ ?_
          · intro w; go_simp
          try simp only [Act.put, List.setIfInBounds_toArray, List.set_cons_zero, List.set_cons_succ]
          refine wpAnyIn_take (i := 21) (oi := ⟨some 55, _, _, _, _, _⟩) (v := .bool (!r)) rfl rfl (by kernel_rfl) (by kernel_rfl) (by kernel_rfl) (fun _ _ _ h => h) ⟨Or.inl ⟨by rfl, ?_⟩, fun _ => rfl⟩ ?_
          · intro w; go_simp
          try simp only [Act.put, List.setIfInBounds_toArray, List.set_cons_zero, List.set_cons_succ]
          refine wpAnyIn_done (by kernel_rfl) ?_ _
          all_goals
            have HBn : Hid (Keep T W W3) := (HB5.out.trans (Keep.of HB6.out)).trans HB4.out
            clear s1 s2 hq1 hq2 hq3
            cases r
            · have HX : Hid (Jx (facK s k ++ facA s k (a - 1) ++ facRow s k a (b - 1) ++ [⟨k, a, b⟩]) W3) := by
                rcases HR3.out with ⟨h, _⟩ | ⟨_, h⟩
                · cases h
                · exact h
              gi_wp2
              exact bodyPost_ret (results_none rfl _ _ _) rfl ⟨⟨_, rfl⟩, HBn.out, Or.inr ⟨_, by rw [List.append_assoc _ _ [(⟨k, a, b⟩ : Fa)], ← HR1.out]; exact HPre.out, HX.out⟩⟩
            · have HN : Hid (J (facK s k ++ facA s k (a - 1) ++ facRow s k a (b + 1 - 1)) W3) := by
                rcases HR3.out with ⟨_, h⟩ | ⟨h, _⟩
                · simp only [Hid]; rw [Nat.add_sub_cancel, HR1.out, ← List.append_assoc]; exact h
                · cases h
              gi_wp2
              go_roundw
              case rel => exact ⟨b + 1, by omega, by omega, by go_num, HBn.out, HN.out⟩
              case measure => simp [intOf]; omega
end Go.Proofs.YtfommfgokpiieaaDoor
