import Derived.Test.YtfommfgokpiieaaDoorX2
namespace Go.Proofs.YtfommfgokpiieaaDoor
open Go.RowKit

set_option maxHeartbeats 4000000 in
set_option maxRecDepth 100000 in
theorem back_r (s : ByteArray) (l : List UInt8) (w : World) (hl : s.data.toList = l) (hw : wordB l = true) :
    Calls Tryd.prog 22 #[.string s] w fun e w' => e = .returned (.string ⟨(backL l).toArray⟩) ∧ Below w.heap.size w w' := by
  obtain ⟨h1, h2⟩ := wordB_iff.1 hw
  have hs : s.size ≤ 24 := by rw [← hl] at h1; exact h1
  have HLen : Hid (l.length = s.size) := by simp only [Hid]; rw [← hl]; rfl
  have HX : Hid (∀ k W, k < s.size → Calls Tryd.prog 42 #[.string (s.extract k (k + 1)), .string ⟨#[114, 108, 117, 100]⟩, .string ⟨#[108, 114, 100, 117]⟩] W fun e w' => e = .returned (.string ⟨[bk (lt l k)].toArray⟩) ∧ Below W.heap.size W w') := by
    intro k W hk
    have h := exch_any (s.extract k (k + 1)) ⟨#[114, 108, 117, 100]⟩ ⟨#[108, 114, 100, 117]⟩ [lt l k] [114, 108, 117, 100] [108, 114, 100, 117] W (one_list s l hl hk) (by rw [extract_size s k (k + 1) (by omega)]; omega) rfl rfl (by decide) rfl
    have e : isL (lt l k) = true := wordB_at hw (by rw [HLen.out]; exact hk)
    have e2 : ([lt l k].map fun b => exF [114, 108, 117, 100] [108, 114, 100, 117] b (⟨#[114, 108, 117, 100]⟩ : ByteArray).size) = [bk (lt l k)] := by
      show [exF [114, 108, 117, 100] [108, 114, 100, 117] (lt l k) 4] = _
      rw [ex_bk e]
    rw [e2] at h
    exact h
  clear hl hw h1 h2
  have hs0 : (0 : Int) ≤ s.size := by omega
  go_enter Tryd.func22, Tryd.ntmps22
  go_wp2
  go_loopw [3, 4] (fun v i wr => ∃ j : Nat, j ≤ s.size ∧ i = .int .i64 ((j : Int) - 1) ∧ v = .string ⟨(backL (l.drop j)).toArray⟩ ∧ Below w.heap.size w wr) (fun _ i _ => (intOf i + 1).toNat)
  case atStart => exact ⟨s.size, Nat.le_refl _, rfl, by rw [List.drop_eq_nil_of_le (by rw [HLen.out]; exact Nat.le_refl _)]; rfl, Below.refl _ _⟩
  case round =>
    obtain ⟨j, hj, rfl, rfl, hb⟩ := hrel
    have HB := Lib.hid hb
    clear hb
    cases j with
    | zero =>
      have hn : ¬ (0 : Int) ≤ ((0 : Nat) : Int) - 1 := by omega
      go_wp2
      go_ret
      exact ⟨by simp, HB.out⟩
    | succ k =>
      have e0 : ((k + 1 : Nat) : Int) - 1 = (k : Int) := by omega
      have HXk := Lib.hid (fun W => HX.out k W (by omega))
      have HD := Lib.hid (back_drop l (k := k) (by rw [HLen.out]; omega))
      have hk1 : (k : Int) + 1 ≤ s.size := by omega
      have hk0 : (0 : Int) ≤ k := by omega
      have hk2 : (k : Int) ≤ (k : Int) + 1 := by omega
      have hk3 : ((k : Int) + 1).toNat = k + 1 := by omega
      rw [e0]
      have hov : ¬ 9223372036854775807 < (⟨(backL (l.drop (k + 1))).toArray⟩ : ByteArray).size + (⟨[bk (lt l k)].toArray⟩ : ByteArray).size := by
        rw [mk_size, mk_size, backL_len, List.length_drop, HLen.out]; simp; omega
      have HCat := Lib.hid (app_mk (backL (l.drop (k + 1))) [bk (lt l k)])
      clear e0
      obtain ⟨u, hu⟩ : ∃ u : ByteArray, u = ⟨(backL (l.drop (k + 1))).toArray⟩ := ⟨_, rfl⟩
      obtain ⟨v, hv⟩ : ∃ v : ByteArray, v = ⟨[bk (lt l k)].toArray⟩ := ⟨_, rfl⟩
      rw [← hu] at hov HCat ⊢
      rw [← hv] at hov HCat HXk
      clear hu hv
      go_wp2_with fail
      refine (HXk.out _).mono ?_
      rintro e w2 ⟨rfl, hb⟩
      have HB2 := Lib.hid (band HB.out hb)
      clear hb
      go_wp2
      go_roundw
      case rel => exact ⟨k, by omega, rfl, by rw [HCat.out, HD.out], HB2.out⟩
      case measure => simp [intOf]
end Go.Proofs.YtfommfgokpiieaaDoor
