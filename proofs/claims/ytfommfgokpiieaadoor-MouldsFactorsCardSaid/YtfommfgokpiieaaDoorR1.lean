import Derived.Test.YtfommfgokpiieaaDoorA5
namespace Go.Proofs.YtfommfgokpiieaaDoor
open Go.RowKit

theorem At2.far {w : World} {b b' j : Nat} {u0 u1 : Value} (h : At2 w b u0 u1) (hn : b' ≠ b) (v : Value) : At2 (w.setCell ⟨b', j, none⟩ v) b u0 u1 := by
  have e : (w.setCell ⟨b', j, none⟩ v).heap[b]? = w.heap[b]? := Below.heap_setCell _ _ _ _ (by simpa using hn.symm)
  have k : ∀ i, (w.setCell ⟨b', j, none⟩ v).cell? ⟨b, i, none⟩ = w.cell? ⟨b, i, none⟩ := fun i => World.cell?_of_block e
  have f : ∀ i, (w.setCell ⟨b', j, none⟩ v).frozen? ⟨b, i, none⟩ = w.frozen? ⟨b, i, none⟩ := fun i => by unfold World.frozen?; simp only [e]
  exact ⟨by rw [k]; exact h.c0, by rw [k]; exact h.c1, by rw [f]; exact h.f0, by rw [f]; exact h.f1⟩

theorem lt_at (s : ByteArray) (l : List UInt8) (hl : s.data.toList = l) (k : Nat) (hk : k < s.size) : lt l k = s[k] := by
  have : l[k]? = some s[k] := by rw [← hl]; simp [hk]; rfl
  unfold lt; rw [List.getD_eq_getElem?_getD, this]; rfl

theorem u8_ne {b c : UInt8} (h : b ≠ c) : ((b.toNat : Int) == (c.toNat : Int)) = false := by
  cases e : ((b.toNat : Int) == (c.toNat : Int))
  · rfl
  · exfalso; apply h; have := by simpa using e
    exact UInt8.toNat_inj.1 (by omega)

set_option maxHeartbeats 1000000 in
theorem step_r (b : UInt8) (w : World) : Calls Tryd.prog 34 #[.int .u8 b.toNat] w fun e w' => e = .returned (.tuple #[.int .i64 (sx b), .int .i64 (sy b)]) ∧ w = w' := by
  by_cases h1 : b = 114
  · subst h1
    go_enter Tryd.func34, Tryd.ntmps34
    go_wp2
    go_ret2
    exact ⟨rfl, rfl⟩
  by_cases h2 : b = 117
  · subst h2
    go_enter Tryd.func34, Tryd.ntmps34
    go_wp2
    go_ret2
    exact ⟨rfl, rfl⟩
  by_cases h3 : b = 108
  · subst h3
    go_enter Tryd.func34, Tryd.ntmps34
    go_wp2
    go_ret2
    exact ⟨rfl, rfl⟩
  by_cases h4 : b = 100
  · subst h4
    go_enter Tryd.func34, Tryd.ntmps34
    go_wp2
    go_ret2
    exact ⟨rfl, rfl⟩
  have HX : Hid (sx b = 0) := by simp [Hid, sx, h1, h3]
  have HY : Hid (sy b = 0) := by simp [Hid, sy, h2, h4]
  have g1 : ((b.toNat : Int) == 114) = false := u8_ne (c := 114) h1
  have g2 : ((b.toNat : Int) == 117) = false := u8_ne (c := 117) h2
  have g3 : ((b.toNat : Int) == 108) = false := u8_ne (c := 108) h3
  have g4 : ((b.toNat : Int) == 100) = false := u8_ne (c := 100) h4
  clear h1 h2 h3 h4
  go_enter Tryd.func34, Tryd.ntmps34
  go_wp2
  go_ret2
  exact ⟨by rw [HX.out, HY.out]; rfl, rfl⟩

theorem isL_s {b : UInt8} : isL b = true ↔ ¬ (sx b = 0 ∧ sy b = 0) := by
  constructor
  · intro h
    rcases isL_or h with rfl | rfl | rfl | rfl <;> decide
  · intro h
    cases e : isL b
    · obtain ⟨h1, h2, h3, h4⟩ := isL_no e
      exact absurd ⟨by simp [sx, h1, h3], by simp [sy, h2, h4]⟩ h
    · rfl

set_option maxHeartbeats 2000000 in
set_option maxRecDepth 100000 in
theorem word_r (s : ByteArray) (l : List UInt8) (w : World) (hl : s.data.toList = l) (hs : s.size ≤ 9223372036854775807) :
    Calls Tryd.prog 21 #[.string s] w fun e w' => e = .returned (.bool (wordB l)) ∧ w = w' := by
  have HL := Lib.hid hl
  have HN : Hid (l.length = s.size) := by simp only [Hid]; rw [← hl]; rfl
  clear hl
  go_enter Tryd.func21, Tryd.ntmps21
  go_wp2
  go_loop [8] (fun i => ∃ k : Nat, k ≤ s.size ∧ i = .int .i64 k ∧ Hid (∀ j, j < k → isL (lt l j) = true)) (fun i => s.size - (intOf i).toNat)
  case atStart => exact ⟨0, Nat.zero_le _, rfl, fun j hj => absurd hj (Nat.not_lt_zero _)⟩
  case round =>
    obtain ⟨k, hk, rfl, hr⟩ := hrel
    by_cases hlt : k < s.size
    · have HK := Lib.hid (lt_at s l HL.out k hlt)
      have HS := Lib.hid (step_r s[k])
      cases hb : isL s[k]
      · have hsx : sx s[k] = 0 := by
          obtain ⟨h1, h2, h3, h4⟩ := isL_no hb; simp [sx, h1, h3]
        have hsy : sy s[k] = 0 := by
          obtain ⟨h1, h2, h3, h4⟩ := isL_no hb; simp [sy, h2, h4]
        have HW : Hid (wordB l = false) := by
          simp only [Hid]; cases e : wordB l
          · rfl
          · have := wordB_at e (k := k) (by rw [HN.out]; exact hlt)
            rw [HK.out, hb] at this; cases this
        rw [hsx, hsy] at HS
        clear hb hsx hsy
        go_wp2_with fail
        refine (HS.out _).mono ?_
        rintro e w1 ⟨rfl, rfl⟩
        go_wp2
        go_ret
        exact ⟨by rw [HW.out]; rfl, rfl⟩
      · have hn : Hid (∀ j, j < k + 1 → isL (lt l j) = true) := by
          intro j hj
          by_cases e : j = k
          · subst e; rw [HK.out]; exact hb
          · exact hr.out j (by omega)
        have hz : (sx s[k] == 0) = false ∨ (sx s[k] == 0) = true ∧ (sy s[k] == 0) = false := by
          have := isL_s.1 hb
          by_cases h : sx s[k] = 0
          · right; refine ⟨by simp [h], ?_⟩
            cases e : (sy s[k] == 0)
            · rfl
            · exact absurd ⟨h, by simpa using e⟩ this
          · left; simp [h]
        clear hb
        generalize sx s[k] = X at HS hz
        generalize sy s[k] = Y at HS hz
        rcases hz with z1 | ⟨z1, z2⟩
        all_goals
          go_wp2_with fail
          refine (HS.out _).mono ?_
          rintro e w1 ⟨rfl, rfl⟩
          go_wp2
          go_round
          case rel => exact ⟨k + 1, by omega, by go_num, hn⟩
          case measure => simp [intOf]; omega
    · have hk' : k = s.size := by omega
      have hall : ∀ b ∈ l, isL b = true := by
        intro b hb
        obtain ⟨j, hj, rfl⟩ := List.getElem_of_mem hb
        have := hr.out j (by rw [hk', ← HN.out]; exact hj)
        unfold lt at this
        rwa [List.getD_eq_getElem?_getD, List.getElem?_eq_getElem hj] at this
      have HW : Hid (wordB l = decide ((s.size : Int) ≤ 24)) := by
        simp only [Hid, wordB, HN.out]
        have : l.all isL = true := List.all_eq_true.2 hall
        rw [this, Bool.and_true]
        apply decide_eq_decide.2; omega
      have hge : (s.size : Int) ≤ k := by omega
      clear hall hk'
      go_wp2
      go_ret
      exact ⟨by rw [HW.out]; rfl, rfl⟩

set_option maxHeartbeats 2000000 in
set_option maxRecDepth 100000 in
theorem sum_r (s : ByteArray) (l : List UInt8) (X Y : Int) (w : World) (hl : s.data.toList = l) (hs : s.size ≤ 1000) (hX : px l s.size = X) (hY : py l s.size = Y) :
    Calls Tryd.prog 33 #[.string s] w fun e w' => e = .returned (pV X Y) ∧ Below w.heap.size w w' := by
  have HL := Lib.hid hl
  have HX := Lib.hid hX
  have HY := Lib.hid hY
  have HZ : Hid (w.heap.size ≤ w.heap.size + 1) := by simp only [Hid]; omega
  have I0 := Lib.hid (At2.of (heap_two2 w (.cells #[.int .i64 0, .int .i64 0] 33) (.cells #[.int .i64 0, .int .i64 0] 33)))
  have J0 := Lib.hid (At2.of (heap_two1 w (.cells #[.int .i64 0, .int .i64 0] 33) (.cells #[.int .i64 0, .int .i64 0] 33)))
  have B0 := Lib.hid (two_le w (.cells #[.int .i64 0, .int .i64 0] 33) (.cells #[.int .i64 0, .int .i64 0] 33))
  clear hl hX hY
  go_enter Tryd.func33, Tryd.ntmps33
  go_wp2
  go_loopw [9] (fun i wr => ∃ k : Nat, k ≤ s.size ∧ i = .int .i64 k ∧ Below w.heap.size w wr ∧ At2 wr (w.heap.size + 1) (.int .i64 (px l k)) (.int .i64 (py l k)) ∧ At2 wr w.heap.size (.int .i64 0) (.int .i64 0)) (fun i _ => s.size - (intOf i).toNat)
  case atStart => exact ⟨0, Nat.zero_le _, rfl, B0.out, I0.out, J0.out⟩
  case round =>
    obtain ⟨k, hk, rfl, hb, hA, hR⟩ := hrel
    have HB := Lib.hid hb
    have HA := Lib.hid hA
    have HR := Lib.hid hR
    obtain ⟨q0, q1, f0, f1⟩ := hA
    have hl1 := HA.out.lt
    clear hb hR
    by_cases hlt : k < s.size
    · have hlk := lt_at s l HL.out k hlt
      have HPX : Hid (px l (k + 1) = px l k + sx s[k]) := by simp only [Hid, px]; rw [hlk]
      have HPY : Hid (py l (k + 1) = py l k + sy s[k]) := by simp only [Hid, py]; rw [hlk]
      have HS := Lib.hid (step_r s[k])
      have b1 := px_bd l k
      have b2 := py_bd l k
      have b3 := sx_bd s[k]
      have b4 := sy_bd s[k]
      obtain ⟨b1, b1'⟩ := b1
      obtain ⟨b2, b2'⟩ := b2
      obtain ⟨b3, b3'⟩ := b3
      obtain ⟨b4, b4'⟩ := b4
      have HA2 := Lib.hid (HA.out.set (.int .i64 (px l k + sx s[k])) (.int .i64 (py l k + sy s[k])))
      have HB2 := Lib.hid (below_set2 (b := w.heap.size + 1) HB.out HZ.out (.int .i64 (px l k + sx s[k])) (.int .i64 (py l k + sy s[k])))
      have HR2 := Lib.hid ((HR.out.far (b' := w.heap.size + 1) (j := 0) (by omega) (.int .i64 (px l k + sx s[k]))).far (b' := w.heap.size + 1) (j := 1) (by omega) (.int .i64 (py l k + sy s[k])))
      clear hlk
      go_wp2_with fail
      refine (HS.out _).mono ?_
      rintro e w1 ⟨rfl, rfl⟩
      go_wp2
      go_roundw
      case rel => exact ⟨k + 1, by omega, by go_num, HB2.out, by rw [HPX.out, HPY.out]; exact HA2.out, HR2.out⟩
      case measure => simp [intOf]; omega
    · have e : s.size = k := by omega
      have HX2 : Hid (px l k = X) := by simp only [Hid]; rw [← e]; exact HX.out
      have HY2 : Hid (py l k = Y) := by simp only [Hid]; rw [← e]; exact HY.out
      have hge : (s.size : Int) ≤ k := by omega
      rw [HX2.out] at q0
      rw [HY2.out] at q1
      obtain ⟨r0, r1, rf0, rf1⟩ := HR.out
      have hr1 := HR.out.lt
      have HSt := Lib.hid (HR.out.set (.int .i64 X) (.int .i64 Y))
      clear e
      go_wp2
      have e0 := HSt.out.c0
      have e1 := HSt.out.c1
      refine bodyPost_ret (v := .agg #[.int .i64 X, .int .i64 Y]) (by simp [results, Tryd.results33, go_sem, e0, e1]) rfl ⟨rfl, ?_⟩
      exact below_set2 HB.out (Nat.le_refl _) _ _
end Go.Proofs.YtfommfgokpiieaaDoor
