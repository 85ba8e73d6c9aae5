import Derived.Test.YtfommfgokpiieabDoorX3
namespace Go.Proofs.YtfommfgokpiieabDoor
open Go.RowKit

theorem of_list {t : ByteArray} {m : List UInt8} (h : t.data.toList = m) : t = ⟨m.toArray⟩ := by
  subst h; exact (by cases t; simp)
theorem rev_drop (l : List UInt8) {k : Nat} (hk : k < l.length) : (l.drop k).reverse = (l.drop (k + 1)).reverse ++ [lt l k] := by
  rw [drop_lt l hk]; simp
theorem mir_rev {l : List UInt8} (h : ∀ b ∈ l, isL b = true) : (l.reverse.map fun b => exF [117, 100] [100, 117] b 2) = mirL l := by
  unfold mirL backL
  rw [List.map_map, List.map_reverse]
  congr 1
  apply List.map_congr_left
  intro b hb
  exact ex_mir (h b hb)
theorem qua_map {l : List UInt8} (h : ∀ b ∈ l, isL b = true) : (l.map fun b => exF [114, 117, 108, 100] [117, 108, 100, 114] b 4) = quaL l := by
  unfold quaL
  apply List.map_congr_left
  intro b hb
  exact ex_qua (h b hb)

set_option maxHeartbeats 4000000 in
set_option maxRecDepth 100000 in
theorem mirror_r (s : ByteArray) (l : List UInt8) (w : World) (hl : s.data.toList = l) (hw : wordB l = true) :
    Calls Tryd.prog 19 #[.string s] w fun e w' => e = .returned (.string (firstL (mirL l))) ∧ Below w.heap.size w w' := by
  obtain ⟨h1, h2⟩ := wordB_iff.1 hw
  have hs : s.size ≤ 24 := by rw [← hl] at h1; exact h1
  have HLen : Hid (l.length = s.size) := by simp only [Hid]; rw [← hl]; rfl
  have HOne : Hid (∀ k, k < s.size → s.extract k (k + 1) = ⟨[lt l k].toArray⟩) := fun k hk => of_list (one_list s l hl hk)
  have HE0 := fun W => exch_any ⟨l.reverse.toArray⟩ ⟨#[117, 100]⟩ ⟨#[100, 117]⟩ l.reverse [117, 100] [100, 117] W (by simp) (by rw [mk_size, List.length_reverse]; exact h1) rfl rfl (by decide) rfl
  have e2 : (l.reverse.map fun b => exF [117, 100] [100, 117] b (⟨#[117, 100]⟩ : ByteArray).size) = mirL l := mir_rev h2
  rw [e2] at HE0
  have HE := Lib.hid HE0
  have HF0 := fun W => first_r ⟨(mirL l).toArray⟩ W (by rw [mk_size, mirL_len]; exact h1)
  rw [firstL_is] at HF0
  have HF := Lib.hid HF0
  clear hl hw h1 h2 HE0 HF0 e2
  generalize firstL (mirL l) = f at HF ⊢
  obtain ⟨t, ht⟩ : ∃ t : ByteArray, t = ⟨(mirL l).toArray⟩ := ⟨_, rfl⟩
  rw [← ht] at HE HF
  clear ht
  have hs0 : (0 : Int) ≤ s.size := by omega
  go_enter Tryd.func19, Tryd.ntmps19
  go_wp2
  go_loopw [3, 4] (fun v i wr => ∃ j : Nat, j ≤ s.size ∧ i = .int .i64 ((j : Int) - 1) ∧ v = .string ⟨((l.drop j).reverse).toArray⟩ ∧ Below w.heap.size w wr) (fun _ i _ => (intOf i + 1).toNat)
  case atStart => exact ⟨s.size, Nat.le_refl _, rfl, by rw [List.drop_eq_nil_of_le (by rw [HLen.out]; exact Nat.le_refl _)]; rfl, Below.refl _ _⟩
  case round =>
    obtain ⟨j, hj, rfl, rfl, hb⟩ := hrel
    have HB := Lib.hid hb
    clear hb
    cases j with
    | zero =>
      have hn : ¬ (0 : Int) ≤ ((0 : Nat) : Int) - 1 := by omega
      rw [List.drop_zero]
      obtain ⟨u, hu⟩ : ∃ u : ByteArray, u = ⟨(l.reverse).toArray⟩ := ⟨_, rfl⟩
      rw [← hu] at HE ⊢
      clear hu
      go_wp2_with fail
      refine (HE.out _).mono ?_
      rintro e w2 ⟨rfl, hb⟩
      have HB2 := Lib.hid (band HB.out hb)
      clear hb
      go_wp2_with fail
      refine (HF.out _).mono ?_
      rintro e w3 ⟨rfl, hb⟩
      have HB3 := Lib.hid (band HB2.out hb)
      clear hb
      go_wp2
      go_ret
      exact ⟨rfl, HB3.out⟩
    | succ k =>
      have e0 : ((k + 1 : Nat) : Int) - 1 = (k : Int) := by omega
      have HD := Lib.hid (rev_drop l (k := k) (by rw [HLen.out]; omega))
      have H1 := Lib.hid (HOne.out k (by omega))
      have hk1 : (k : Int) + 1 ≤ s.size := by omega
      have hk0 : (0 : Int) ≤ k := by omega
      have hk2 : (k : Int) ≤ (k : Int) + 1 := by omega
      have hk3 : ((k : Int) + 1).toNat = k + 1 := by omega
      rw [e0]
      have hov : ¬ 9223372036854775807 < (⟨((l.drop (k + 1)).reverse).toArray⟩ : ByteArray).size + (s.extract k (k + 1)).size := by
        rw [mk_size, extract_size s k (k + 1) (by omega), List.length_reverse, List.length_drop, HLen.out]; omega
      have HCat : Hid ((⟨((l.drop (k + 1)).reverse).toArray⟩ : ByteArray) ++ s.extract k (k + 1) = ⟨((l.drop k).reverse).toArray⟩) := by
        simp only [Hid]; rw [H1.out, app_mk, HD.out]
      clear e0
      obtain ⟨u, hu⟩ : ∃ u : ByteArray, u = ⟨((l.drop (k + 1)).reverse).toArray⟩ := ⟨_, rfl⟩
      rw [← hu] at hov HCat ⊢
      clear hu
      go_wp2
      go_roundw
      case rel => exact ⟨k, by omega, rfl, by rw [HCat.out], HB.out⟩
      case measure => simp [intOf]

set_option maxHeartbeats 2000000 in
theorem quarter_r (s : ByteArray) (l : List UInt8) (w : World) (hl : s.data.toList = l) (hw : wordB l = true) :
    Calls Tryd.prog 20 #[.string s] w fun e w' => e = .returned (.string (firstL (quaL l))) ∧ Below w.heap.size w w' := by
  obtain ⟨h1, h2⟩ := wordB_iff.1 hw
  have hs : s.size ≤ 24 := by rw [← hl] at h1; exact h1
  have HE0 := exch_any s ⟨#[114, 117, 108, 100]⟩ ⟨#[117, 108, 100, 114]⟩ l [114, 117, 108, 100] [117, 108, 100, 114] w hl hs rfl rfl (by decide) rfl
  have e2 : (l.map fun b => exF [114, 117, 108, 100] [117, 108, 100, 114] b (⟨#[114, 117, 108, 100]⟩ : ByteArray).size) = quaL l := qua_map h2
  rw [e2] at HE0
  have HE := Lib.hid HE0
  have HF0 := fun W => first_r ⟨(quaL l).toArray⟩ W (by rw [mk_size, quaL_len]; exact h1)
  rw [firstL_is] at HF0
  have HF := Lib.hid HF0
  clear hl hw h1 h2 HE0 HF0 e2
  generalize firstL (quaL l) = f at HF ⊢
  obtain ⟨t, ht⟩ : ∃ t : ByteArray, t = ⟨(quaL l).toArray⟩ := ⟨_, rfl⟩
  rw [← ht] at HE HF
  clear ht
  go_enter Tryd.func20, Tryd.ntmps20
  go_wp2_with fail
  refine HE.out.mono ?_
  rintro e w2 ⟨rfl, hb⟩
  have HB := Lib.hid hb
  clear hb
  go_wp2_with fail
  refine (HF.out _).mono ?_
  rintro e w3 ⟨rfl, hb⟩
  have HB3 := Lib.hid (band HB.out hb)
  clear hb
  go_wp2
  go_ret
  exact ⟨rfl, HB3.out⟩
end Go.Proofs.YtfommfgokpiieabDoor
