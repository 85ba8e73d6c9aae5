import Derived.Test.YtmbccdjoliegiaaG6
import Derived.Test.YtmbccdjoliegiaaMath9
import Derived.Test.YtmbccdjoliegiaaL8
import Derived.Test.YtmbccdjoliegiaaL3
namespace Go.Proofs.Ytmbccdjoliegiaa
open Go.RowKit

theorem mts_pow (n : Nat) (z : Nat → Int) : ∀ k, mts n z k < 2 ^ k
  | 0 => by simp [mts]
  | k + 1 => by
    have := mts_pow n z k
    have h2 : (2 : Nat) ^ k < 2 ^ (k + 1) := Nat.pow_lt_pow_right (by decide) (by omega)
    unfold mts; split
    · exact Nat.or_lt_two_pow (by omega) h2
    · omega
theorem filter_count {α : Type} (f : α → Nat) (m : Nat) : ∀ l : List α, (l.filter (fun x => decide (f x < m + 1))).length = (l.filter (fun x => decide (f x < m))).length + (l.filter (fun x => f x == m)).length
  | [] => rfl
  | x :: l => by
    have ih := filter_count f m l
    simp only [List.filter_cons]
    by_cases h1 : f x < m
    · have h2 : f x < m + 1 := by omega
      have h3 : (f x == m) = false := by simp; omega
      simp [h1, h2, h3, ih]; omega
    · by_cases h2 : f x = m
      · simp [h2, ih]; omega
      · have h4 : ¬ f x < m + 1 := by omega
        have h3 : (f x == m) = false := by simpa using h2
        simp [h1, h4, h3, ih]
/-- How many piles have a set of mountains below m. -/
def sumF (n m : Nat) : Nat := ((piles n).filter (fun p => decide (mts p.length (zl p) (p.length - 1) < m))).length
theorem sumF_zero (n : Nat) : sumF n 0 = 0 := by simp [sumF]
theorem sumF_succ (n m : Nat) : sumF n (m + 1) = sumF n m + (fpiles n m).length := filter_count (fun p => mts p.length (zl p) (p.length - 1)) m (piles n)
theorem sumF_all (n : Nat) : sumF n (2 ^ (n - 1)) = (piles n).length := by
  unfold sumF
  rw [List.filter_eq_self.2]
  intro p hp
  have hl := perms_len _ _ _ (List.mem_filter.1 hp).1
  simp at hl
  rw [hl]
  simpa using mts_pow n (zl p) (n - 1)
theorem sumF_le (n m : Nat) (h7 : n ≤ 7) : sumF n m ≤ 1000000 := Nat.le_trans (List.length_filter_le _ _) (piles_max h7)

theorem known_all {N : Nat} (h1 : 1 ≤ N) (h7 : N ≤ 7) : sumF N (2 ^ (N - 1)) = knownC N := by rw [sumF_all, known_count h1 h7]

/-- All that the law asks, told by two functions. -/
theorem counts_facts (N : Nat) (h1 : 1 ≤ N) (h7 : N ≤ 7) : ∃ S F : Nat → Nat, S 0 = 0 ∧ (∀ m, S (m + 1) = S m + F m) ∧ (∀ m, S m ≤ 1000000) ∧ (∀ m, F m ≤ 1000000) ∧ S (2 ^ (N - 1)) = knownC N ∧ (∀ m, m < 2 ^ (N - 1) → 1 ≤ F m) ∧
    (∀ (m : Nat) w, m < 2 ^ (N - 1) → Calls Try.prog 34 #[.int .i64 N, .int .i64 m] w fun e w' => e = .returned (.tuple #[.int .i64 (F m), .int .i64 0]) ∧ Below w.heap.size w w') ∧
    (∀ w, Calls Try.prog 22 #[.int .i64 N] w fun e w' => e = .returned (.tuple #[.int .i64 (knownC N), .int .i64 0]) ∧ Below w.heap.size w w') ∧
    (∀ w, Calls Try.prog 24 #[.int .i64 N] w fun e w' => e = .returned (.tuple #[.int .i64 (knownT N), .int .i64 0]) ∧ Below w.heap.size w w') := by
  refine ⟨sumF N, fun m => (fpiles N m).length, sumF_zero N, sumF_succ N, fun m => sumF_le N m h7, fun m => fpiles_max h7, known_all h1 h7, fun m hm => ?_, fun m w hm => folds_good N m w h1 h7 hm, fun w => ?_, fun w => ?_⟩
  · obtain ⟨y, r, hy⟩ := fpiles_some h1 h7 hm
    show 1 ≤ (fpiles N m).length
    rw [hy]; simp
  · have := count_good N w h1 h7; rw [known_count h1 h7] at this; exact this
  · have := round_good N w h1 h7; rw [known_top h1 h7] at this; exact this

set_option maxHeartbeats 16000000 in
set_option maxRecDepth 100000 in
theorem foldsCounts_1 (W : World) (x : Int) (eN : wrap64 (1 + wrap64 ((IntKind.u64.wrap x).tmod 7)) = 1) :
    Calls Try.prog 9 #[.int .i64 x] W fun e W' => e = .returned (.bool true) ∧ Below W.heap.size W W' := by
  obtain ⟨S, F, s0, s1, s2, s3, s4, s5, s6, s7, s8⟩ := counts_facts 1 (by decide) (by decide)
  have HC : Hid (∀ w, Calls Try.prog 22 #[.int .i64 1] w fun e w' => e = .returned (.tuple #[.int .i64 1, .int .i64 0]) ∧ Below w.heap.size w w') := s7
  have HR : Hid (∀ w, Calls Try.prog 24 #[.int .i64 1] w fun e w' => e = .returned (.tuple #[.int .i64 1, .int .i64 0]) ∧ Below w.heap.size w w') := s8
  have HFs : Hid (∀ (m : Nat) w, m < 1 → Calls Try.prog 34 #[.int .i64 1, .int .i64 m] w fun e w' => e = .returned (.tuple #[.int .i64 (F m), .int .i64 0]) ∧ Below w.heap.size w w') := s6
  have HSome : Hid (∀ m, m < 1 → 1 ≤ F m) := s5
  have HAll : Hid (S 1 = 1) := s4
  have HS0 := Lib.hid s0
  have HSuc := Lib.hid s1
  have HLe := Lib.hid s2
  have HFle := Lib.hid s3
  clear s0 s1 s2 s3 s4 s5 s6 s7 s8
  have k0 : ∀ w, (Instr.index 55 (.agg #[.int .i64 0, .int .i64 1, .int .i64 2, .int .i64 6, .int .i64 16, .int .i64 50, .int .i64 144, .int .i64 462]) (.int .i64 1)).run Try.prog w = .ok (.int .i64 1) w := fun _ => by kernel_rfl
  have HM : Hid (∀ w, Calls Try.prog 42 #[.int .i64 1] w fun e w' => e = .returned (.tuple #[.int .i64 2, .int .i64 0]) ∧ Below w.heap.size w w') := fun w => by
    have := maps_good 1 w (by decide) (by decide); rw [maps1] at this; exact this
  have k1 : ∀ w, (Instr.index 56 (.agg #[.int .i64 0, .int .i64 2, .int .i64 8, .int .i64 60]) (.int .i64 1)).run Try.prog w = .ok (.int .i64 2) w := fun _ => by kernel_rfl
  go_enter Try.func9, Try.ntmps9
  go_wp2_with fail
  rw [eN]
  refine (HC.out _).mono ?_
  rintro e w1 ⟨rfl, hb1⟩
  have HB1 := Lib.hid hb1
  clear hb1
  go_wp2_with fail
  refine (HR.out _).mono ?_
  rintro e w2 ⟨rfl, hb2⟩
  have HB2 : Hid (Below W.heap.size W w2) := HB1.out.trans (hb2.mono HB1.out.size)
  clear hb2 HB1
  go_wp2
  go_loopw [7, 50] (fun v i wr => ∃ s : Nat, s ≤ 1 ∧ i = .int .i64 s ∧ v = .int .i64 (S s : Nat) ∧ Below w2.heap.size w2 wr) (fun _ i _ => 1 - (intOf i).toNat)
  case atStart => exact ⟨0, Nat.zero_le _, rfl, by rw [HS0.out]; rfl, Below.refl _ _⟩
  case round =>
    obtain ⟨s, hs, rfl, rfl, hb⟩ := hrel
    have HB := Lib.hid hb
    clear hb
    by_cases hlt : s < 1
    · have hq := HFs.out s wr hlt
      have h1 := HSome.out s hlt
      have hf := HFle.out s
      have hl := HLe.out s
      have HS := Lib.hid (HSuc.out s)
      obtain ⟨f, hfe⟩ : ∃ f, f = F s := ⟨_, rfl⟩
      rw [← hfe] at hq h1 hf HS
      have HQ := Lib.hid hq
      clear hfe hq
      generalize S s = q at *
      go_wp2_with fail
      refine HQ.out.mono ?_
      rintro e w3 ⟨rfl, hb3⟩
      have HB3 : Hid (Below w2.heap.size w2 w3) := HB.out.trans (hb3.mono HB.out.size)
      clear hb3
      go_wp2
      go_roundw
      case rel => exact ⟨s + 1, by omega, by go_num, by rw [HS.out]; go_num, HB3.out⟩
      case measure => simp [intOf]; omega
    · have e : s = 1 := by omega
      subst e
      have HBe : Hid (Below W.heap.size W wr) := HB2.out.trans (HB.out.mono HB2.out.size)
      rw [HAll.out]
      clear hlt hs HB
      go_wp2_with fail
      refine (HM.out _).mono ?_
      rintro e w5 ⟨rfl, hb5⟩
      have HB5 : Hid (Below W.heap.size W w5) := HBe.out.trans (hb5.mono HBe.out.size)
      clear hb5 HBe
      go_wp2_with fail
      refine (awake_any _).mono ?_
      rintro e w6 ⟨rfl, hb6⟩
      have HB6 : Hid (Below W.heap.size W w6) := HB5.out.trans (hb6.mono HB5.out.size)
      clear hb6
      go_wp2
      go_ret
      exact ⟨rfl, HB6.out⟩

set_option maxHeartbeats 16000000 in
set_option maxRecDepth 100000 in
theorem foldsCounts_2 (W : World) (x : Int) (eN : wrap64 (1 + wrap64 ((IntKind.u64.wrap x).tmod 7)) = 2) :
    Calls Try.prog 9 #[.int .i64 x] W fun e W' => e = .returned (.bool true) ∧ Below W.heap.size W W' := by
  obtain ⟨S, F, s0, s1, s2, s3, s4, s5, s6, s7, s8⟩ := counts_facts 2 (by decide) (by decide)
  have HC : Hid (∀ w, Calls Try.prog 22 #[.int .i64 2] w fun e w' => e = .returned (.tuple #[.int .i64 2, .int .i64 0]) ∧ Below w.heap.size w w') := s7
  have HR : Hid (∀ w, Calls Try.prog 24 #[.int .i64 2] w fun e w' => e = .returned (.tuple #[.int .i64 1, .int .i64 0]) ∧ Below w.heap.size w w') := s8
  have HFs : Hid (∀ (m : Nat) w, m < 2 → Calls Try.prog 34 #[.int .i64 2, .int .i64 m] w fun e w' => e = .returned (.tuple #[.int .i64 (F m), .int .i64 0]) ∧ Below w.heap.size w w') := s6
  have HSome : Hid (∀ m, m < 2 → 1 ≤ F m) := s5
  have HAll : Hid (S 2 = 2) := s4
  have HS0 := Lib.hid s0
  have HSuc := Lib.hid s1
  have HLe := Lib.hid s2
  have HFle := Lib.hid s3
  clear s0 s1 s2 s3 s4 s5 s6 s7 s8
  have k0 : ∀ w, (Instr.index 55 (.agg #[.int .i64 0, .int .i64 1, .int .i64 2, .int .i64 6, .int .i64 16, .int .i64 50, .int .i64 144, .int .i64 462]) (.int .i64 2)).run Try.prog w = .ok (.int .i64 2) w := fun _ => by kernel_rfl
  have HM : Hid (∀ w, Calls Try.prog 42 #[.int .i64 2] w fun e w' => e = .returned (.tuple #[.int .i64 8, .int .i64 0]) ∧ Below w.heap.size w w') := fun w => by
    have := maps_good 2 w (by decide) (by decide); rw [maps2] at this; exact this
  have k1 : ∀ w, (Instr.index 56 (.agg #[.int .i64 0, .int .i64 2, .int .i64 8, .int .i64 60]) (.int .i64 2)).run Try.prog w = .ok (.int .i64 8) w := fun _ => by kernel_rfl
  go_enter Try.func9, Try.ntmps9
  go_wp2_with fail
  rw [eN]
  refine (HC.out _).mono ?_
  rintro e w1 ⟨rfl, hb1⟩
  have HB1 := Lib.hid hb1
  clear hb1
  go_wp2_with fail
  refine (HR.out _).mono ?_
  rintro e w2 ⟨rfl, hb2⟩
  have HB2 : Hid (Below W.heap.size W w2) := HB1.out.trans (hb2.mono HB1.out.size)
  clear hb2 HB1
  go_wp2
  go_loopw [7, 50] (fun v i wr => ∃ s : Nat, s ≤ 2 ∧ i = .int .i64 s ∧ v = .int .i64 (S s : Nat) ∧ Below w2.heap.size w2 wr) (fun _ i _ => 2 - (intOf i).toNat)
  case atStart => exact ⟨0, Nat.zero_le _, rfl, by rw [HS0.out]; rfl, Below.refl _ _⟩
  case round =>
    obtain ⟨s, hs, rfl, rfl, hb⟩ := hrel
    have HB := Lib.hid hb
    clear hb
    by_cases hlt : s < 2
    · have hq := HFs.out s wr hlt
      have h1 := HSome.out s hlt
      have hf := HFle.out s
      have hl := HLe.out s
      have HS := Lib.hid (HSuc.out s)
      obtain ⟨f, hfe⟩ : ∃ f, f = F s := ⟨_, rfl⟩
      rw [← hfe] at hq h1 hf HS
      have HQ := Lib.hid hq
      clear hfe hq
      generalize S s = q at *
      go_wp2_with fail
      refine HQ.out.mono ?_
      rintro e w3 ⟨rfl, hb3⟩
      have HB3 : Hid (Below w2.heap.size w2 w3) := HB.out.trans (hb3.mono HB.out.size)
      clear hb3
      go_wp2
      go_roundw
      case rel => exact ⟨s + 1, by omega, by go_num, by rw [HS.out]; go_num, HB3.out⟩
      case measure => simp [intOf]; omega
    · have e : s = 2 := by omega
      subst e
      have HBe : Hid (Below W.heap.size W wr) := HB2.out.trans (HB.out.mono HB2.out.size)
      rw [HAll.out]
      clear hlt hs HB
      go_wp2_with fail
      refine (HM.out _).mono ?_
      rintro e w5 ⟨rfl, hb5⟩
      have HB5 : Hid (Below W.heap.size W w5) := HBe.out.trans (hb5.mono HBe.out.size)
      clear hb5 HBe
      go_wp2_with fail
      refine (awake_any _).mono ?_
      rintro e w6 ⟨rfl, hb6⟩
      have HB6 : Hid (Below W.heap.size W w6) := HB5.out.trans (hb6.mono HB5.out.size)
      clear hb6
      go_wp2
      go_ret
      exact ⟨rfl, HB6.out⟩

set_option maxHeartbeats 16000000 in
set_option maxRecDepth 100000 in
theorem foldsCounts_3 (W : World) (x : Int) (eN : wrap64 (1 + wrap64 ((IntKind.u64.wrap x).tmod 7)) = 3) :
    Calls Try.prog 9 #[.int .i64 x] W fun e W' => e = .returned (.bool true) ∧ Below W.heap.size W W' := by
  obtain ⟨S, F, s0, s1, s2, s3, s4, s5, s6, s7, s8⟩ := counts_facts 3 (by decide) (by decide)
  have HC : Hid (∀ w, Calls Try.prog 22 #[.int .i64 3] w fun e w' => e = .returned (.tuple #[.int .i64 6, .int .i64 0]) ∧ Below w.heap.size w w') := s7
  have HR : Hid (∀ w, Calls Try.prog 24 #[.int .i64 3] w fun e w' => e = .returned (.tuple #[.int .i64 2, .int .i64 0]) ∧ Below w.heap.size w w') := s8
  have HFs : Hid (∀ (m : Nat) w, m < 4 → Calls Try.prog 34 #[.int .i64 3, .int .i64 m] w fun e w' => e = .returned (.tuple #[.int .i64 (F m), .int .i64 0]) ∧ Below w.heap.size w w') := s6
  have HSome : Hid (∀ m, m < 4 → 1 ≤ F m) := s5
  have HAll : Hid (S 4 = 6) := s4
  have HS0 := Lib.hid s0
  have HSuc := Lib.hid s1
  have HLe := Lib.hid s2
  have HFle := Lib.hid s3
  clear s0 s1 s2 s3 s4 s5 s6 s7 s8
  have k0 : ∀ w, (Instr.index 55 (.agg #[.int .i64 0, .int .i64 1, .int .i64 2, .int .i64 6, .int .i64 16, .int .i64 50, .int .i64 144, .int .i64 462]) (.int .i64 3)).run Try.prog w = .ok (.int .i64 6) w := fun _ => by kernel_rfl
  have HM : Hid (∀ w, Calls Try.prog 42 #[.int .i64 3] w fun e w' => e = .returned (.tuple #[.int .i64 60, .int .i64 0]) ∧ Below w.heap.size w w') := fun w => by
    have := maps_good 3 w (by decide) (by decide); rw [maps3] at this; exact this
  have k1 : ∀ w, (Instr.index 56 (.agg #[.int .i64 0, .int .i64 2, .int .i64 8, .int .i64 60]) (.int .i64 3)).run Try.prog w = .ok (.int .i64 60) w := fun _ => by kernel_rfl
  go_enter Try.func9, Try.ntmps9
  go_wp2_with fail
  rw [eN]
  refine (HC.out _).mono ?_
  rintro e w1 ⟨rfl, hb1⟩
  have HB1 := Lib.hid hb1
  clear hb1
  go_wp2_with fail
  refine (HR.out _).mono ?_
  rintro e w2 ⟨rfl, hb2⟩
  have HB2 : Hid (Below W.heap.size W w2) := HB1.out.trans (hb2.mono HB1.out.size)
  clear hb2 HB1
  go_wp2
  go_loopw [7, 50] (fun v i wr => ∃ s : Nat, s ≤ 4 ∧ i = .int .i64 s ∧ v = .int .i64 (S s : Nat) ∧ Below w2.heap.size w2 wr) (fun _ i _ => 4 - (intOf i).toNat)
  case atStart => exact ⟨0, Nat.zero_le _, rfl, by rw [HS0.out]; rfl, Below.refl _ _⟩
  case round =>
    obtain ⟨s, hs, rfl, rfl, hb⟩ := hrel
    have HB := Lib.hid hb
    clear hb
    by_cases hlt : s < 4
    · have hq := HFs.out s wr hlt
      have h1 := HSome.out s hlt
      have hf := HFle.out s
      have hl := HLe.out s
      have HS := Lib.hid (HSuc.out s)
      obtain ⟨f, hfe⟩ : ∃ f, f = F s := ⟨_, rfl⟩
      rw [← hfe] at hq h1 hf HS
      have HQ := Lib.hid hq
      clear hfe hq
      generalize S s = q at *
      go_wp2_with fail
      refine HQ.out.mono ?_
      rintro e w3 ⟨rfl, hb3⟩
      have HB3 : Hid (Below w2.heap.size w2 w3) := HB.out.trans (hb3.mono HB.out.size)
      clear hb3
      go_wp2
      go_roundw
      case rel => exact ⟨s + 1, by omega, by go_num, by rw [HS.out]; go_num, HB3.out⟩
      case measure => simp [intOf]; omega
    · have e : s = 4 := by omega
      subst e
      have HBe : Hid (Below W.heap.size W wr) := HB2.out.trans (HB.out.mono HB2.out.size)
      rw [HAll.out]
      clear hlt hs HB
      go_wp2_with fail
      refine (HM.out _).mono ?_
      rintro e w5 ⟨rfl, hb5⟩
      have HB5 : Hid (Below W.heap.size W w5) := HBe.out.trans (hb5.mono HBe.out.size)
      clear hb5 HBe
      go_wp2_with fail
      refine (awake_any _).mono ?_
      rintro e w6 ⟨rfl, hb6⟩
      have HB6 : Hid (Below W.heap.size W w6) := HB5.out.trans (hb6.mono HB5.out.size)
      clear hb6
      go_wp2
      go_ret
      exact ⟨rfl, HB6.out⟩

set_option maxHeartbeats 16000000 in
set_option maxRecDepth 100000 in
theorem foldsCounts_4 (W : World) (x : Int) (eN : wrap64 (1 + wrap64 ((IntKind.u64.wrap x).tmod 7)) = 4) :
    Calls Try.prog 9 #[.int .i64 x] W fun e W' => e = .returned (.bool true) ∧ Below W.heap.size W W' := by
  obtain ⟨S, F, s0, s1, s2, s3, s4, s5, s6, s7, s8⟩ := counts_facts 4 (by decide) (by decide)
  have HC : Hid (∀ w, Calls Try.prog 22 #[.int .i64 4] w fun e w' => e = .returned (.tuple #[.int .i64 16, .int .i64 0]) ∧ Below w.heap.size w w') := s7
  have HR : Hid (∀ w, Calls Try.prog 24 #[.int .i64 4] w fun e w' => e = .returned (.tuple #[.int .i64 4, .int .i64 0]) ∧ Below w.heap.size w w') := s8
  have HFs : Hid (∀ (m : Nat) w, m < 8 → Calls Try.prog 34 #[.int .i64 4, .int .i64 m] w fun e w' => e = .returned (.tuple #[.int .i64 (F m), .int .i64 0]) ∧ Below w.heap.size w w') := s6
  have HSome : Hid (∀ m, m < 8 → 1 ≤ F m) := s5
  have HAll : Hid (S 8 = 16) := s4
  have HS0 := Lib.hid s0
  have HSuc := Lib.hid s1
  have HLe := Lib.hid s2
  have HFle := Lib.hid s3
  clear s0 s1 s2 s3 s4 s5 s6 s7 s8
  have k0 : ∀ w, (Instr.index 55 (.agg #[.int .i64 0, .int .i64 1, .int .i64 2, .int .i64 6, .int .i64 16, .int .i64 50, .int .i64 144, .int .i64 462]) (.int .i64 4)).run Try.prog w = .ok (.int .i64 16) w := fun _ => by kernel_rfl
  go_enter Try.func9, Try.ntmps9
  go_wp2_with fail
  rw [eN]
  refine (HC.out _).mono ?_
  rintro e w1 ⟨rfl, hb1⟩
  have HB1 := Lib.hid hb1
  clear hb1
  go_wp2_with fail
  refine (HR.out _).mono ?_
  rintro e w2 ⟨rfl, hb2⟩
  have HB2 : Hid (Below W.heap.size W w2) := HB1.out.trans (hb2.mono HB1.out.size)
  clear hb2 HB1
  go_wp2
  go_loopw [7, 50] (fun v i wr => ∃ s : Nat, s ≤ 8 ∧ i = .int .i64 s ∧ v = .int .i64 (S s : Nat) ∧ Below w2.heap.size w2 wr) (fun _ i _ => 8 - (intOf i).toNat)
  case atStart => exact ⟨0, Nat.zero_le _, rfl, by rw [HS0.out]; rfl, Below.refl _ _⟩
  case round =>
    obtain ⟨s, hs, rfl, rfl, hb⟩ := hrel
    have HB := Lib.hid hb
    clear hb
    by_cases hlt : s < 8
    · have hq := HFs.out s wr hlt
      have h1 := HSome.out s hlt
      have hf := HFle.out s
      have hl := HLe.out s
      have HS := Lib.hid (HSuc.out s)
      obtain ⟨f, hfe⟩ : ∃ f, f = F s := ⟨_, rfl⟩
      rw [← hfe] at hq h1 hf HS
      have HQ := Lib.hid hq
      clear hfe hq
      generalize S s = q at *
      go_wp2_with fail
      refine HQ.out.mono ?_
      rintro e w3 ⟨rfl, hb3⟩
      have HB3 : Hid (Below w2.heap.size w2 w3) := HB.out.trans (hb3.mono HB.out.size)
      clear hb3
      go_wp2
      go_roundw
      case rel => exact ⟨s + 1, by omega, by go_num, by rw [HS.out]; go_num, HB3.out⟩
      case measure => simp [intOf]; omega
    · have e : s = 8 := by omega
      subst e
      have HBe : Hid (Below W.heap.size W wr) := HB2.out.trans (HB.out.mono HB2.out.size)
      rw [HAll.out]
      clear hlt hs HB
      go_wp2_with fail
      refine (awake_any _).mono ?_
      rintro e w6 ⟨rfl, hb6⟩
      have HB6 : Hid (Below W.heap.size W w6) := HBe.out.trans (hb6.mono HBe.out.size)
      clear hb6
      go_wp2
      go_ret
      exact ⟨rfl, HB6.out⟩

set_option maxHeartbeats 16000000 in
set_option maxRecDepth 100000 in
theorem foldsCounts_5 (W : World) (x : Int) (eN : wrap64 (1 + wrap64 ((IntKind.u64.wrap x).tmod 7)) = 5) :
    Calls Try.prog 9 #[.int .i64 x] W fun e W' => e = .returned (.bool true) ∧ Below W.heap.size W W' := by
  obtain ⟨S, F, s0, s1, s2, s3, s4, s5, s6, s7, s8⟩ := counts_facts 5 (by decide) (by decide)
  have HC : Hid (∀ w, Calls Try.prog 22 #[.int .i64 5] w fun e w' => e = .returned (.tuple #[.int .i64 50, .int .i64 0]) ∧ Below w.heap.size w w') := s7
  have HR : Hid (∀ w, Calls Try.prog 24 #[.int .i64 5] w fun e w' => e = .returned (.tuple #[.int .i64 10, .int .i64 0]) ∧ Below w.heap.size w w') := s8
  have HFs : Hid (∀ (m : Nat) w, m < 16 → Calls Try.prog 34 #[.int .i64 5, .int .i64 m] w fun e w' => e = .returned (.tuple #[.int .i64 (F m), .int .i64 0]) ∧ Below w.heap.size w w') := s6
  have HSome : Hid (∀ m, m < 16 → 1 ≤ F m) := s5
  have HAll : Hid (S 16 = 50) := s4
  have HS0 := Lib.hid s0
  have HSuc := Lib.hid s1
  have HLe := Lib.hid s2
  have HFle := Lib.hid s3
  clear s0 s1 s2 s3 s4 s5 s6 s7 s8
  have k0 : ∀ w, (Instr.index 55 (.agg #[.int .i64 0, .int .i64 1, .int .i64 2, .int .i64 6, .int .i64 16, .int .i64 50, .int .i64 144, .int .i64 462]) (.int .i64 5)).run Try.prog w = .ok (.int .i64 50) w := fun _ => by kernel_rfl
  go_enter Try.func9, Try.ntmps9
  go_wp2_with fail
  rw [eN]
  refine (HC.out _).mono ?_
  rintro e w1 ⟨rfl, hb1⟩
  have HB1 := Lib.hid hb1
  clear hb1
  go_wp2_with fail
  refine (HR.out _).mono ?_
  rintro e w2 ⟨rfl, hb2⟩
  have HB2 : Hid (Below W.heap.size W w2) := HB1.out.trans (hb2.mono HB1.out.size)
  clear hb2 HB1
  go_wp2
  go_loopw [7, 50] (fun v i wr => ∃ s : Nat, s ≤ 16 ∧ i = .int .i64 s ∧ v = .int .i64 (S s : Nat) ∧ Below w2.heap.size w2 wr) (fun _ i _ => 16 - (intOf i).toNat)
  case atStart => exact ⟨0, Nat.zero_le _, rfl, by rw [HS0.out]; rfl, Below.refl _ _⟩
  case round =>
    obtain ⟨s, hs, rfl, rfl, hb⟩ := hrel
    have HB := Lib.hid hb
    clear hb
    by_cases hlt : s < 16
    · have hq := HFs.out s wr hlt
      have h1 := HSome.out s hlt
      have hf := HFle.out s
      have hl := HLe.out s
      have HS := Lib.hid (HSuc.out s)
      obtain ⟨f, hfe⟩ : ∃ f, f = F s := ⟨_, rfl⟩
      rw [← hfe] at hq h1 hf HS
      have HQ := Lib.hid hq
      clear hfe hq
      generalize S s = q at *
      go_wp2_with fail
      refine HQ.out.mono ?_
      rintro e w3 ⟨rfl, hb3⟩
      have HB3 : Hid (Below w2.heap.size w2 w3) := HB.out.trans (hb3.mono HB.out.size)
      clear hb3
      go_wp2
      go_roundw
      case rel => exact ⟨s + 1, by omega, by go_num, by rw [HS.out]; go_num, HB3.out⟩
      case measure => simp [intOf]; omega
    · have e : s = 16 := by omega
      subst e
      have HBe : Hid (Below W.heap.size W wr) := HB2.out.trans (HB.out.mono HB2.out.size)
      rw [HAll.out]
      clear hlt hs HB
      go_wp2_with fail
      refine (awake_any _).mono ?_
      rintro e w6 ⟨rfl, hb6⟩
      have HB6 : Hid (Below W.heap.size W w6) := HBe.out.trans (hb6.mono HBe.out.size)
      clear hb6
      go_wp2
      go_ret
      exact ⟨rfl, HB6.out⟩

set_option maxHeartbeats 16000000 in
set_option maxRecDepth 100000 in
theorem foldsCounts_6 (W : World) (x : Int) (eN : wrap64 (1 + wrap64 ((IntKind.u64.wrap x).tmod 7)) = 6) :
    Calls Try.prog 9 #[.int .i64 x] W fun e W' => e = .returned (.bool true) ∧ Below W.heap.size W W' := by
  obtain ⟨S, F, s0, s1, s2, s3, s4, s5, s6, s7, s8⟩ := counts_facts 6 (by decide) (by decide)
  have HC : Hid (∀ w, Calls Try.prog 22 #[.int .i64 6] w fun e w' => e = .returned (.tuple #[.int .i64 144, .int .i64 0]) ∧ Below w.heap.size w w') := s7
  have HR : Hid (∀ w, Calls Try.prog 24 #[.int .i64 6] w fun e w' => e = .returned (.tuple #[.int .i64 24, .int .i64 0]) ∧ Below w.heap.size w w') := s8
  have HFs : Hid (∀ (m : Nat) w, m < 32 → Calls Try.prog 34 #[.int .i64 6, .int .i64 m] w fun e w' => e = .returned (.tuple #[.int .i64 (F m), .int .i64 0]) ∧ Below w.heap.size w w') := s6
  have HSome : Hid (∀ m, m < 32 → 1 ≤ F m) := s5
  have HAll : Hid (S 32 = 144) := s4
  have HS0 := Lib.hid s0
  have HSuc := Lib.hid s1
  have HLe := Lib.hid s2
  have HFle := Lib.hid s3
  clear s0 s1 s2 s3 s4 s5 s6 s7 s8
  have k0 : ∀ w, (Instr.index 55 (.agg #[.int .i64 0, .int .i64 1, .int .i64 2, .int .i64 6, .int .i64 16, .int .i64 50, .int .i64 144, .int .i64 462]) (.int .i64 6)).run Try.prog w = .ok (.int .i64 144) w := fun _ => by kernel_rfl
  go_enter Try.func9, Try.ntmps9
  go_wp2_with fail
  rw [eN]
  refine (HC.out _).mono ?_
  rintro e w1 ⟨rfl, hb1⟩
  have HB1 := Lib.hid hb1
  clear hb1
  go_wp2_with fail
  refine (HR.out _).mono ?_
  rintro e w2 ⟨rfl, hb2⟩
  have HB2 : Hid (Below W.heap.size W w2) := HB1.out.trans (hb2.mono HB1.out.size)
  clear hb2 HB1
  go_wp2
  go_loopw [7, 50] (fun v i wr => ∃ s : Nat, s ≤ 32 ∧ i = .int .i64 s ∧ v = .int .i64 (S s : Nat) ∧ Below w2.heap.size w2 wr) (fun _ i _ => 32 - (intOf i).toNat)
  case atStart => exact ⟨0, Nat.zero_le _, rfl, by rw [HS0.out]; rfl, Below.refl _ _⟩
  case round =>
    obtain ⟨s, hs, rfl, rfl, hb⟩ := hrel
    have HB := Lib.hid hb
    clear hb
    by_cases hlt : s < 32
    · have hq := HFs.out s wr hlt
      have h1 := HSome.out s hlt
      have hf := HFle.out s
      have hl := HLe.out s
      have HS := Lib.hid (HSuc.out s)
      obtain ⟨f, hfe⟩ : ∃ f, f = F s := ⟨_, rfl⟩
      rw [← hfe] at hq h1 hf HS
      have HQ := Lib.hid hq
      clear hfe hq
      generalize S s = q at *
      go_wp2_with fail
      refine HQ.out.mono ?_
      rintro e w3 ⟨rfl, hb3⟩
      have HB3 : Hid (Below w2.heap.size w2 w3) := HB.out.trans (hb3.mono HB.out.size)
      clear hb3
      go_wp2
      go_roundw
      case rel => exact ⟨s + 1, by omega, by go_num, by rw [HS.out]; go_num, HB3.out⟩
      case measure => simp [intOf]; omega
    · have e : s = 32 := by omega
      subst e
      have HBe : Hid (Below W.heap.size W wr) := HB2.out.trans (HB.out.mono HB2.out.size)
      rw [HAll.out]
      clear hlt hs HB
      go_wp2_with fail
      refine (awake_any _).mono ?_
      rintro e w6 ⟨rfl, hb6⟩
      have HB6 : Hid (Below W.heap.size W w6) := HBe.out.trans (hb6.mono HBe.out.size)
      clear hb6
      go_wp2
      go_ret
      exact ⟨rfl, HB6.out⟩

set_option maxHeartbeats 16000000 in
set_option maxRecDepth 100000 in
theorem foldsCounts_7 (W : World) (x : Int) (eN : wrap64 (1 + wrap64 ((IntKind.u64.wrap x).tmod 7)) = 7) :
    Calls Try.prog 9 #[.int .i64 x] W fun e W' => e = .returned (.bool true) ∧ Below W.heap.size W W' := by
  obtain ⟨S, F, s0, s1, s2, s3, s4, s5, s6, s7, s8⟩ := counts_facts 7 (by decide) (by decide)
  have HC : Hid (∀ w, Calls Try.prog 22 #[.int .i64 7] w fun e w' => e = .returned (.tuple #[.int .i64 462, .int .i64 0]) ∧ Below w.heap.size w w') := s7
  have HR : Hid (∀ w, Calls Try.prog 24 #[.int .i64 7] w fun e w' => e = .returned (.tuple #[.int .i64 66, .int .i64 0]) ∧ Below w.heap.size w w') := s8
  have HFs : Hid (∀ (m : Nat) w, m < 64 → Calls Try.prog 34 #[.int .i64 7, .int .i64 m] w fun e w' => e = .returned (.tuple #[.int .i64 (F m), .int .i64 0]) ∧ Below w.heap.size w w') := s6
  have HSome : Hid (∀ m, m < 64 → 1 ≤ F m) := s5
  have HAll : Hid (S 64 = 462) := s4
  have HS0 := Lib.hid s0
  have HSuc := Lib.hid s1
  have HLe := Lib.hid s2
  have HFle := Lib.hid s3
  clear s0 s1 s2 s3 s4 s5 s6 s7 s8
  have k0 : ∀ w, (Instr.index 55 (.agg #[.int .i64 0, .int .i64 1, .int .i64 2, .int .i64 6, .int .i64 16, .int .i64 50, .int .i64 144, .int .i64 462]) (.int .i64 7)).run Try.prog w = .ok (.int .i64 462) w := fun _ => by kernel_rfl
  go_enter Try.func9, Try.ntmps9
  go_wp2_with fail
  rw [eN]
  refine (HC.out _).mono ?_
  rintro e w1 ⟨rfl, hb1⟩
  have HB1 := Lib.hid hb1
  clear hb1
  go_wp2_with fail
  refine (HR.out _).mono ?_
  rintro e w2 ⟨rfl, hb2⟩
  have HB2 : Hid (Below W.heap.size W w2) := HB1.out.trans (hb2.mono HB1.out.size)
  clear hb2 HB1
  go_wp2
  go_loopw [7, 50] (fun v i wr => ∃ s : Nat, s ≤ 64 ∧ i = .int .i64 s ∧ v = .int .i64 (S s : Nat) ∧ Below w2.heap.size w2 wr) (fun _ i _ => 64 - (intOf i).toNat)
  case atStart => exact ⟨0, Nat.zero_le _, rfl, by rw [HS0.out]; rfl, Below.refl _ _⟩
  case round =>
    obtain ⟨s, hs, rfl, rfl, hb⟩ := hrel
    have HB := Lib.hid hb
    clear hb
    by_cases hlt : s < 64
    · have hq := HFs.out s wr hlt
      have h1 := HSome.out s hlt
      have hf := HFle.out s
      have hl := HLe.out s
      have HS := Lib.hid (HSuc.out s)
      obtain ⟨f, hfe⟩ : ∃ f, f = F s := ⟨_, rfl⟩
      rw [← hfe] at hq h1 hf HS
      have HQ := Lib.hid hq
      clear hfe hq
      generalize S s = q at *
      go_wp2_with fail
      refine HQ.out.mono ?_
      rintro e w3 ⟨rfl, hb3⟩
      have HB3 : Hid (Below w2.heap.size w2 w3) := HB.out.trans (hb3.mono HB.out.size)
      clear hb3
      go_wp2
      go_roundw
      case rel => exact ⟨s + 1, by omega, by go_num, by rw [HS.out]; go_num, HB3.out⟩
      case measure => simp [intOf]; omega
    · have e : s = 64 := by omega
      subst e
      have HBe : Hid (Below W.heap.size W wr) := HB2.out.trans (HB.out.mono HB2.out.size)
      rw [HAll.out]
      clear hlt hs HB
      go_wp2_with fail
      refine (awake_any _).mono ?_
      rintro e w6 ⟨rfl, hb6⟩
      have HB6 : Hid (Below W.heap.size W w6) := HBe.out.trans (hb6.mono HBe.out.size)
      clear hb6
      go_wp2
      go_ret
      exact ⟨rfl, HB6.out⟩

theorem foldsCounts_core (W : World) (x : Int) (hx : -9223372036854775808 ≤ x ∧ x ≤ 9223372036854775807) :
    Calls Try.prog 9 #[.int .i64 x] W fun e W' => e = .returned (.bool true) ∧ Below W.heap.size W W' := by
  obtain ⟨k, hk, ek⟩ := mod_ok x 7 (by omega) (by omega)
  have ek' : wrap64 ((IntKind.u64.wrap x).tmod 7) = k := ek
  have e2 : wrap64 (1 + wrap64 ((IntKind.u64.wrap x).tmod 7)) = 1 + (k : Int) := by
    rw [ek', IntWalk.wrap64_in _ (by omega)]
  have : k = 0 ∨ k = 1 ∨ k = 2 ∨ k = 3 ∨ k = 4 ∨ k = 5 ∨ k = 6 := by omega
  rcases this with rfl | rfl | rfl | rfl | rfl | rfl | rfl
  · exact foldsCounts_1 W x e2
  · exact foldsCounts_2 W x e2
  · exact foldsCounts_3 W x e2
  · exact foldsCounts_4 W x e2
  · exact foldsCounts_5 W x e2
  · exact foldsCounts_6 W x e2
  · exact foldsCounts_7 W x e2

end Go.Proofs.Ytmbccdjoliegiaa
