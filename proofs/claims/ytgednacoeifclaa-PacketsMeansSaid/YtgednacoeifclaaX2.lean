import Derived.Test.YtgednacoeifclaaX1
namespace Go.Proofs.Ytgednacoeifclaa
open Go.RowKit Go.Shelf

/-- The chances of the kinds of a set to be its last, one after the other. -/
structure LastF (n : Nat) (z : Nat → Int) (s L : Nat) (S : Nat → Int) : Prop where
  L1 : 1 ≤ L
  LM : L ≤ 1152921504606846976
  ok : ∀ i, s.testBit i = true → LastOk z i (sdiff s (2 ^ i)) L
  rg : ∀ i, s.testBit i = true → 0 ≤ laX z L s i ∧ laX z L s i ≤ L
  s0 : S 0 = 0
  st : ∀ j, s.testBit j = true → S (j + 1) = S j + laX z L s j
  no : ∀ j, s.testBit j = false → S (j + 1) = S j
  bd : ∀ j, j ≤ n → 0 ≤ S j ∧ S j ≤ L
  en : s ≠ 0 → S n = L
theorem bit_kind {s n i : Nat} (hs : s < 2 ^ n) (hn : n ≤ 6) (h : s.testBit i = true) : i ∈ kindsL s ∧ i < n := by
  have hi : i < n := by
    rcases Nat.lt_or_ge i n with h1 | h1
    · exact h1
    · have : s < 2 ^ i := Nat.lt_of_lt_of_le hs (Nat.pow_le_pow_right (by decide) h1)
      rw [Nat.testBit_lt_two_pow this] at h; cases h
  exact ⟨List.mem_filter.2 ⟨List.mem_range.2 (by omega), h⟩, hi⟩
theorem lastF_any {z : Nat → Int} {n s : Nat} (hs : s < 2 ^ n) (hn : n ≤ 6) (h9 : ∀ j, j < n → 1 ≤ z j ∧ z j ≤ 9) : ∃ L S, LastF n z s L S := by
  by_cases h0 : s = 0
  · subst h0
    have hb : ∀ i, (0 : Nat).testBit i = false := Nat.zero_testBit
    exact ⟨1, fun _ => 0, { L1 := (by omega), LM := (by omega), ok := fun i h => (by rw [hb] at h; cases h), rg := fun i h => (by rw [hb] at h; cases h), s0 := rfl, st := fun i h => (by rw [hb] at h; cases h), no := fun _ _ => rfl, bd := fun _ _ => (by omega), en := fun h => absurd rfl h }⟩
  · obtain ⟨L, hSL⟩ := setL_any (z := z) hs h0 hn h9
    refine ⟨L, fun j => sumC (laX z L s) (kindsTo s j), ⟨hSL.L1, hSL.LM, fun i h => hSL.ok i (bit_kind hs hn h).1, fun i h => ⟨hSL.pos i (bit_kind hs hn h).1, hSL.le (bit_kind hs hn h).1⟩, rfl, fun j h => ?_, fun j h => ?_, fun j hj => ?_, fun _ => ?_⟩⟩
    · show sumC _ (kindsTo s (j + 1)) = _; rw [kindsTo_yes h, sumC_snoc]
    · show sumC _ (kindsTo s (j + 1)) = _; rw [kindsTo_no h]
    · exact sumC_sub_le hSL (kindsTo_le (by omega : j ≤ 6)).sublist
    · show sumC _ (kindsTo s n) = _; rw [kindsTo_end hs hn]; exact hSL.al

/-- The chances that just some kinds came, one after the other. -/
structure ExF (z : Nat → Int) (n set k : Nat) (E F : Nat → Int) : Prop where
  e0 : E 0 = 0
  f0 : F 0 = 0
  es : ∀ j, E (j + 1) = E j + doC z j j k
  fy : ∀ j, j &&& set = set → F (j + 1) = F j + doC z j j k
  fn : ∀ j, ¬ j &&& set = set → F (j + 1) = F j
  rg : ∀ j, j < 2 ^ n → 0 ≤ doC z j j k ∧ doC z j j k ≤ (LK z n k : Nat)
  eb : ∀ j, j ≤ 2 ^ n → 0 ≤ E j ∧ E j ≤ (LK z n k : Nat)
  fb : ∀ j, j ≤ 2 ^ n → 0 ≤ F j ∧ F j ≤ (LK z n k : Nat)
  ee : E (2 ^ n) = (LK z n k : Nat)
  fe : F (2 ^ n) = doC z (2 ^ n - 1) set k
theorem exF_any {z : Nat → Int} {n set k : Nat} (hs : set < 2 ^ n) (hn : n ≤ 6) (h1n : 1 ≤ n) (h9 : ∀ j, j < n → 1 ≤ z j ∧ z j ≤ 9) : ∃ E F, ExF z n set k E F := by
  have hpos : ∀ j, j < 2 ^ n → 0 ≤ doC z j j k := fun j hj => doC_pos2 hj hn h9 k j (sub_self j)
  have hE : ((List.range (2 ^ n)).map fun s => doC z s s k).sum = (LK z n k : Nat) := by
    have h := ex_sum z (n := n) (set := 0) (k := k) (Nat.pow_pos (by decide)) hn
    rw [doC_none hn h1n h9] at h
    have e : sups n 0 = List.range (2 ^ n) := by
      unfold sups
      exact List.filter_eq_self.2 fun s _ => by simp
    rw [e] at h; exact h
  have hF := ex_sum z (n := n) (set := set) (k := k) hs hn
  have fF : ∀ j, ((((List.range j).filter fun s => s &&& set == set).map fun s => doC z s s k).sum) = ((List.range j).map fun s => if s &&& set == set then doC z s s k else 0).sum := fun j => sum_filter _ _ _
  have fle : ∀ j, j ≤ 2 ^ n → 0 ≤ ((List.range j).map fun s => doC z s s k).sum ∧ ((List.range j).map fun s => doC z s s k).sum ≤ (LK z n k : Nat) := fun j hj =>
    ⟨sum_pos fun s hs => hpos s (Nat.lt_of_lt_of_le (List.mem_range.1 hs) hj), by rw [← hE]; exact sum_pre hj hpos⟩
  refine ⟨fun j => ((List.range j).map fun s => doC z s s k).sum, fun j => (((List.range j).filter fun s => s &&& set == set).map fun s => doC z s s k).sum, ⟨rfl, rfl, fun j => ?_, fun j hj => ?_, fun j hj => ?_, fun j hj => ⟨hpos j hj, ?_⟩, fle, fun j hj => ⟨?_, ?_⟩, hE, hF⟩⟩
  · show ((List.range (j + 1)).map _).sum = _; rw [List.range_succ]; simp
  · show (((List.range (j + 1)).filter _).map _).sum = _; rw [List.range_succ, List.filter_append]; simp [hj]
  · show (((List.range (j + 1)).filter _).map _).sum = _; rw [List.range_succ, List.filter_append]; simp [hj]
  · have h1 := (fle (j + 1) (by omega)).2
    have h2 := (fle j (by omega)).1
    rw [List.range_succ] at h1
    simp only [List.map_append, List.map_cons, List.map_nil, List.sum_append, List.sum_cons, List.sum_nil] at h1
    omega
  · exact sum_pos fun s hs => hpos s (Nat.lt_of_lt_of_le (List.mem_range.1 (List.mem_filter.1 hs).1) hj)
  · show (((List.range j).filter fun s => s &&& set == set).map fun s => doC z s s k).sum ≤ _
    rw [fF]
    refine Int.le_trans (sum_le fun s hs => ?_) (fle j hj).2
    have := hpos s (Nat.lt_of_lt_of_le (List.mem_range.1 hs) hj)
    show (if s &&& set == set then doC z s s k else 0) ≤ _
    split <;> omega

set_option maxHeartbeats 4000000 in
set_option maxRecDepth 100000 in
theorem sum_bad (a : Option Addr) (n cap : Nat) (z : Nat → Int) (s k : Int) (w : World) (h : okS n z s = false ∨ isNumB k = false) (hcap : n ≤ cap) (h8 : n * 8 ≤ 140737488355328) (hz : Ints w a n z) :
    Calls Try.prog 12 #[.slice a n cap, .int .i64 s, .int .i64 k] w fun e w' => SomeB true w e w' := by
  have h2 : okS (min n 8) z s = false ∨ isNumB k = false := by rw [okS_cut]; exact h
  have HL := Lib.hid (fun W (hW : Below w.heap.size w W) => list_any a cap n z W hcap h8 (hz.keep (Nat.le_refl _) hW))
  have HD := Lib.hid (fun a1 c1 W (hI : Ints W a1 (min n 8) z) => fDone_bad a1 (min n 8) c1 z s k W h2 (by have := Nat.min_le_right n 8; omega) hI)
  have HS := Lib.hid (fun W r (hr : okS n z s = r) (hW : Below w.heap.size w W) => rset_r r a n cap z s W hr (by omega) (hz.keep (Nat.le_refl _) hW))
  clear hz h2
  have fin : ∀ r, okS n z s = r → (r = false ∨ decide (k < 0) = true ∨ decide ((8 : Int) < k) = true) → Calls Try.prog 12 #[.slice a n cap, .int .i64 s, .int .i64 k] w fun e w' => SomeB true w e w' := by
    intro r hr hk
    have HS1 := Lib.hid (HS.out w r hr (Below.refl _ _))
    clear hr h
    have key : r = false ∨ (r = true ∧ decide (k < 0) = true) ∨ (r = true ∧ decide (k < 0) = false ∧ decide ((8 : Int) < k) = true) := by
      cases r
      · exact Or.inl rfl
      · right
        rcases hk with h | h | h
        · cases h
        · exact Or.inl ⟨rfl, h⟩
        · right; exact ⟨rfl, by simp at h ⊢; omega, h⟩
    clear hk
    rcases key with rfl | ⟨rfl, g1⟩ | ⟨rfl, g1, g2⟩
    all_goals
      go_enter Try.func12, Try.ntmps12
      go_wp2_with fail
      refine HS1.out.mono ?_
      rintro e w' ⟨rfl, rfl⟩
      go_wp2_with fail
      refine (HL.out w (Below.refl _ _)).mono ?_
      rintro e w1 ⟨a1, c1, rfl, hO, hb⟩
      have HI1 := Lib.hid hO.ints
      clear hO
      have HBw1 := Lib.hid (band (Below.refl _ _) hb)
      clear hb
      go_wp2_with fail
      refine (HD.out a1 c1 w1 HI1.out).mono ?_
      rintro e w2 ⟨rfl, hb⟩
      have HBw2 := Lib.hid (band HBw1.out hb)
      clear hb
      obtain ⟨w3, hw3⟩ : ∃ w3, w3 = w2.alloc (.cells #[.int .i64 0, .int .i64 (0 : Int)] 24) := ⟨_, rfl⟩
      have HQ1 : Hid (w3.heap[w2.heap.size]? = some (.cells #[.int .i64 0, .int .i64 (0 : Int)] 24)) := by rw [hw3]; exact heap_alloc_new w2 _
      have HBw3 : Hid (Below w.heap.size w w3) := by rw [hw3]; exact HBw2.out.alloc (HBw2.out).size _
      have HWw3 := Lib.hid hw3
      clear hw3
      obtain ⟨qa2, qb2, _, _⟩ := fr_cells HQ1.out
      go_wp2_with fail
      rw [← HWw3.out]
      refine (awake_any _).mono ?_
      rintro e w4 ⟨rfl, hb⟩
      clear qa2 qb2
      have HBw4 := Lib.hid (band HBw3.out hb)
      have HQ3 := Lib.hid (frAt HQ1.out hb)
      clear hb
      obtain ⟨qa4, qb4, _, _⟩ := fr_cells HQ3.out
      go_wp2
      go_ret
      exact ⟨rfl, HBw4.out⟩
  cases hr : okS n z s
  · exact fin false hr (Or.inl rfl)
  · refine fin true hr (Or.inr ?_)
    have hk : isNumB k = false := by
      rcases h with h | h
      · rw [hr] at h; cases h
      · exact h
    have : ¬ (0 ≤ k ∧ k ≤ 8) := fun h => by rw [isNumB_iff.2 h] at hk; cases hk
    by_cases h0 : k < 0
    · left; simp [h0]
    · right; simp; omega

theorem box_sets {W : World} {b d : Nat} {x : Int} {K : Nat} (h : FrBox W d x K) (hne : d ≠ b) (u v : Value) : FrBox ((W.setCell ⟨b, 0, none⟩ u).setCell ⟨b, 1, none⟩ v) d x K :=
  ((Below.heap_setCell _ _ _ d (fun e => hne e)).trans (Below.heap_setCell _ _ _ d (fun e => hne e))).trans h
theorem lt_pow {n q : Nat} (hn : n ≤ 6) (h : q < 2 ^ n) : (q : Int) < wrap64 ((2 : Int) ^ n) := by rw [wrap_pow6 hn]; exact Int.ofNat_lt.2 h
theorem ge_pow {n q : Nat} (hn : n ≤ 6) (h : ¬ q < 2 ^ n) : wrap64 ((2 : Int) ^ n) ≤ (q : Int) := by rw [wrap_pow6 hn]; exact Int.ofNat_le.2 (Nat.le_of_not_lt h)
theorem fr_full {L : Nat} (hL : 1 ≤ L) : frA (L : Int) L = 1 ∧ frB (L : Int) L = 1 := by
  have e1 := fr_same (a := (L : Int)) (b := 1) (L := L) (K := 1) (by omega) (by omega) (by omega)
  have e2 := fr_one 1
  rw [e1.1, e1.2, e2.1, e2.2]; exact ⟨rfl, rfl⟩

set_option maxHeartbeats 8000000 in
set_option maxRecDepth 100000 in
theorem sum_good (a : Option Addr) (n cap : Nat) (z : Nat → Int) (s k : Nat) (w : World) (h : okS n z s = true) (hk : k ≤ 8) (hcap : n ≤ cap) (h8 : n * 8 ≤ 140737488355328) (hz : Ints w a n z) :
    Calls Try.prog 12 #[.slice a n cap, .int .i64 s, .int .i64 k] w fun e w' => SomeB true w e w' := by
  obtain ⟨t, ht, hs, h1n, hn6, h9⟩ := okS_nat h
  have ht' : s = t := by omega
  subst ht'
  have hmn : min n 8 = n := by omega
  have hl := fun W (hW : Below w.heap.size w W) => list_any a cap n z W hcap h8 (hz.keep (Nat.le_refl _) hW)
  rw [hmn] at hl
  have HL := Lib.hid hl
  have hs64 := lt64 hs hn6
  have hMb := LK_bd h1n hn6 h9 hk
  obtain ⟨L, S, hS⟩ := lastF_any (z := z) hs hn6 h9
  obtain ⟨E, F, hE⟩ := exF_any (z := z) (k := k) hs hn6 h1n h9
  have hL1 := hS.L1
  have hLM := hS.LM
  have hok : ∀ j : Nat, j < 2 ^ n → okS n z (j : Int) = true := fun j hj => okS_iff.2 ⟨⟨h1n, hn6, h9⟩, Int.natCast_nonneg _, by
    have e : (2 : Int) ^ n = ((2 ^ n : Nat) : Int) := by simp
    rw [e]; omega⟩
  have HRs := Lib.hid (fun W (hW : Below w.heap.size w W) => rset_r true a n cap z (s : Int) W h (by omega) (hz.keep (Nat.le_refl _) hW))
  have HLa : Hid (∀ i : Nat, s.testBit i = true → ∀ a1 c1 W, Ints W a1 n z → Calls Try.prog 20 #[.slice a1 n c1, .int .i64 s, .int .i64 i] W fun e w' => FrOut (laX z L s i) L W e w') := fun i hi a1 c1 W hI =>
    fLast_good a1 n c1 z s i L W h hi (by omega) hI (hS.ok i hi)
  have HRt : Hid (∀ i : Nat, s.testBit i = true → ∀ W, Calls Try.prog 44 #[.agg #[.int .i64 (frA (laX z L s i) L), .int .i64 (frB (laX z L s i) L : Nat)], .int .i64 ((1 : Nat) : Int)] W fun e w' => e = .returned (.bool true) ∧ Below W.heap.size W w') := fun i hb W => by
    have h2 := hS.rg i hb
    exact right_fr _ _ 1 W h2.1 hL1 (by omega) (by omega) (by omega) (by omega)
  have HAd : Hid (∀ j : Nat, j < n → s.testBit j = true → ∀ W, Calls Try.prog 46 #[.agg #[.int .i64 (frA (S j) L), .int .i64 (frB (S j) L : Nat)], .agg #[.int .i64 (frA (laX z L s j) L), .int .i64 (frB (laX z L s j) L : Nat)], .bool false] W fun e w' => AddOut (S (j + 1)) L W e w') := fun j hj hb W => by
    have h1 := hS.bd j (by omega)
    have h2 := hS.rg j hb
    rw [hS.st j hb]
    exact added_any _ _ _ W hL1 hLM (by omega) (by omega)
  have HSn := Lib.hid hS.no
  have HS0 : Hid (frA (S 0) L = 0 ∧ frB (S 0) L = 1) := by rw [Hid, hS.s0]; exact fr_zero hL1
  have HSe : Hid (s ≠ 0 → frA (S n) L = 1 ∧ frB (S n) L = 1) := fun h0 => by rw [hS.en h0]; exact fr_full hL1
  have HEx : Hid (∀ j : Nat, j < 2 ^ n → ∀ a1 c1 W, Ints W a1 n z → Calls Try.prog 27 #[.slice a1 n c1, .int .i64 j, .int .i64 k] W fun e w' => FrOut (doC z j j k) (LK z n k) W e w') := fun j hj a1 c1 W hI =>
    fExact_good a1 n c1 z j k W (hok j hj) hk (by omega) hI
  have HRe : Hid (∀ j : Nat, j < 2 ^ n → ∀ W, Calls Try.prog 44 #[.agg #[.int .i64 (frA (doC z j j k) (LK z n k)), .int .i64 (frB (doC z j j k) (LK z n k) : Nat)], .int .i64 ((1 : Nat) : Int)] W fun e w' => e = .returned (.bool true) ∧ Below W.heap.size W w') := fun j hj W => by
    have h2 := hE.rg j hj
    exact right_fr _ _ 1 W h2.1 hMb.1 (by omega) (by omega) (by omega) (by omega)
  have HAe : Hid (∀ j : Nat, j < 2 ^ n → ∀ W, Calls Try.prog 46 #[.agg #[.int .i64 (frA (E j) (LK z n k)), .int .i64 (frB (E j) (LK z n k) : Nat)], .agg #[.int .i64 (frA (doC z j j k) (LK z n k)), .int .i64 (frB (doC z j j k) (LK z n k) : Nat)], .bool false] W fun e w' => AddOut (E (j + 1)) (LK z n k) W e w') := fun j hj W => by
    have h1 := hE.eb j (by omega)
    have h2 := hE.rg j hj
    rw [hE.es j]
    exact added_any _ _ _ W hMb.1 (by omega) (by omega) (by omega)
  have HAf : Hid (∀ j : Nat, j < 2 ^ n → j &&& s = s → ∀ W, Calls Try.prog 46 #[.agg #[.int .i64 (frA (F j) (LK z n k)), .int .i64 (frB (F j) (LK z n k) : Nat)], .agg #[.int .i64 (frA (doC z j j k) (LK z n k)), .int .i64 (frB (doC z j j k) (LK z n k) : Nat)], .bool false] W fun e w' => AddOut (F (j + 1)) (LK z n k) W e w') := fun j hj hb W => by
    have h1 := hE.fb j (by omega)
    have h2 := hE.rg j hj
    rw [hE.fy j hb]
    exact added_any _ _ _ W hMb.1 (by omega) (by omega) (by omega)
  have HFn := Lib.hid hE.fn
  have HE0 : Hid (frA (E 0) (LK z n k) = 0 ∧ frB (E 0) (LK z n k) = 1) := by rw [Hid, hE.e0]; exact fr_zero hMb.1
  have HF0 : Hid (frA (F 0) (LK z n k) = 0 ∧ frB (F 0) (LK z n k) = 1) := by rw [Hid, hE.f0]; exact fr_zero hMb.1
  have HEe : Hid (frA (E (2 ^ n)) (LK z n k) = 1 ∧ frB (E (2 ^ n)) (LK z n k) = 1) := by rw [Hid, hE.ee]; exact fr_full hMb.1
  have HFe := Lib.hid hE.fe
  have HDo : Hid (∀ a1 c1 W, Ints W a1 n z → Calls Try.prog 26 #[.slice a1 n c1, .int .i64 s, .int .i64 k] W fun e w' => FrOut (F (2 ^ n)) (LK z n k) W e w') := fun a1 c1 W hI => by
    rw [hE.fe]; exact fDone_good a1 n c1 z s k W h hk (by omega) hI
  have hk0 : (0 : Int) ≤ (k : Int) := by omega
  have hk8 : (k : Int) ≤ 8 := by omega
  have G : decide ((8 : Int) < (k : Int)) = false := by simp; omega
  obtain ⟨c, hc⟩ : ∃ c : Nat → Int, c = laX z L s := ⟨_, rfl⟩
  have hc' : ∀ j, laX z L s j = c j := fun j => by rw [hc]
  obtain ⟨d, hd⟩ : ∃ d : Nat → Int, d = fun j => doC z j j k := ⟨_, rfl⟩
  have hd' : ∀ j, doC z j j k = d j := fun j => by rw [hd]
  obtain ⟨M, hM⟩ : ∃ M, M = LK z n k := ⟨_, rfl⟩
  simp only [hc'] at HLa HRt HAd
  simp only [hd'] at HEx HRe HAe HAf
  rw [← hM] at HEx HRe HAe HAf HE0 HF0 HEe HDo
  have hp2 := pow_6 hn6
  clear hl hmn hc hc' hd hd' hM hMb hS hE hok h ht hs h9 hz HFe
  go_enter Try.func12, Try.ntmps12
  go_wp2_with fail
  refine (HRs.out w (Below.refl _ _)).mono ?_
  rintro e w' ⟨rfl, rfl⟩
  go_wp2
  obtain ⟨w3, hw3⟩ : ∃ w3, w3 = ((w.alloc (.cells #[.int .i64 0, .int .i64 (1 : Int)] 24)).alloc (.cells #[.int .i64 0, .int .i64 (1 : Int)] 24)).alloc (.cells #[.int .i64 0, .int .i64 (1 : Int)] 24) := ⟨_, rfl⟩
  have hb3 : Below w.heap.size w w3 := by rw [hw3]; exact (below_two _ _ _).alloc (by simp; omega) _
  have hs3 : w3.heap.size = w.heap.size + 3 := by rw [hw3]; simp
  have e0 : w3.heap[w.heap.size]? = some (.cells #[.int .i64 0, .int .i64 (1 : Int)] 24) := by rw [hw3]; exact heap_three0 w _ _ _
  have e1 : w3.heap[w.heap.size + 1]? = some (.cells #[.int .i64 0, .int .i64 (1 : Int)] 24) := by rw [hw3]; exact heap_three1 w _ _ _
  have e2 : w3.heap[w.heap.size + 1 + 1]? = some (.cells #[.int .i64 0, .int .i64 (1 : Int)] 24) := by rw [hw3]; exact heap_three w _ _ _
  have h0 : FrBox w3 w.heap.size (S 0) L := by unfold FrBox; rw [HS0.out.1, HS0.out.2]; exact e0
  have h1 : FrBox w3 (w.heap.size + 1) (F 0) M := by unfold FrBox; rw [HF0.out.1, HF0.out.2]; exact e1
  have h2 : FrBox w3 (w.heap.size + 1 + 1) (E 0) M := by unfold FrBox; rw [HE0.out.1, HE0.out.2]; exact e2
  have H3 := Lib.hid (And.intro h0 (And.intro h1 (And.intro h2 hb3)))
  have HW3 := Lib.hid hw3
  have hs62 : s < 2 ^ 62 := Nat.lt_of_lt_of_le hs64 (by decide)
  rw [← hw3]
  clear hw3 hb3 hs3 e0 e1 e2 h0 h1 h2
  go_loopw [12, 13, 14, 15, 53] (fun _ _ _ _ i wr => ∃ j : Nat, j ≤ n ∧ i = .int .i64 j ∧ FrBox wr w.heap.size (S j) L ∧ FrBox wr (w.heap.size + 1) (F 0) M ∧ FrBox wr (w.heap.size + 1 + 1) (E 0) M ∧ Below w.heap.size w wr) (fun _ _ _ _ i _ => n - (intOf i).toNat)
  case atStart => exact ⟨0, Nat.zero_le _, rfl, H3.out.1, H3.out.2.1, H3.out.2.2.1, H3.out.2.2.2⟩
  case round =>
    obtain ⟨j, hj, rfl, hb0x, hb1x, hb2x, hbl⟩ := hrel
    have HB := Lib.hid hbl
    have H0 := Lib.hid hb0x
    have H1 := Lib.hid hb1x
    have H2 := Lib.hid hb2x
    have hlt0 := hb0x.lt
    have hlt2 := hb2x.lt
    clear hbl hb0x hb1x hb2x
    by_cases hlt : j < n
    · have hj0 : (0 : Int) ≤ (j : Int) := by omega
      have hb0 := bit_at0 s j hs62
      cases hbit : s.testBit j
      · rw [hbit, Bool.not_false] at hb0
        have HSj := Lib.hid (HSn.out j hbit)
        clear hbit
        go_wp2
        go_roundw
        case rel => exact ⟨j + 1, by omega, by go_num, by rw [HSj.out]; exact H0.out, H1.out, H2.out, HB.out⟩
        case measure => simp [intOf]; omega
      · rw [hbit, Bool.not_true] at hb0
        have HDj := Lib.hid (HLa.out j hbit)
        have HRj := Lib.hid (HRt.out j hbit)
        have HAj := Lib.hid (HAd.out j hlt hbit)
        clear hbit
        obtain ⟨C, hC⟩ : ∃ C, C = frA (c j) L := ⟨_, rfl⟩
        obtain ⟨D, hD⟩ : ∃ D, D = frB (c j) L := ⟨_, rfl⟩
        have HN : Hid (frA (c j) L = C ∧ frB (c j) L = D) := ⟨hC.symm, hD.symm⟩
        rw [← hC, ← hD] at HRj HAj
        clear hC hD
        go_wp2_with fail
        refine (HL.out wr HB.out).mono ?_
        rintro e w5a ⟨a5, c5, rfl, hO, hb5⟩
        have HI5 := Lib.hid hO.ints
        have HB5 : Hid (Below wr.heap.size wr w5a) := hb5
        clear hO hb5
        go_wp2_with fail
        refine (HDj.out a5 c5 w5a HI5.out).mono ?_
        rintro e w6a ⟨rfl, hb6⟩
        rw [HN.out.1, HN.out.2]
        have HB6 : Hid (Below wr.heap.size wr w6a) := HB5.out.trans (hb6.mono HB5.out.size)
        clear hb6
        obtain ⟨wc, hwc⟩ : ∃ wc, wc = w6a.alloc (.cells #[.int .i64 C, .int .i64 (D : Int)] 24) := ⟨_, rfl⟩
        have h9 : wc.heap[w6a.heap.size]? = some (.cells #[.int .i64 C, .int .i64 (D : Int)] 24) := by rw [hwc]; exact heap_alloc_new w6a _
        have hb9 : Below wr.heap.size wr wc := by rw [hwc]; exact HB6.out.alloc HB6.out.size _
        have HWc := Lib.hid hwc
        clear hwc
        have HQ7 := Lib.hid (frAt H0.out hb9)
        have HQ9 := Lib.hid h9
        have HB9 := Lib.hid hb9
        have hne : ¬ w6a.heap.size = w.heap.size := by have := HB6.out.size; omega
        clear h9 hb9
        go_wp2_with fail
        rw [← HWc.out]
        refine (HRj.out wc).mono ?_
        rintro e w5b ⟨rfl, hb5⟩
        obtain ⟨y1, y2, y3, y4⟩ := fr_cells (frAt HQ7.out hb5)
        obtain ⟨z1, z2, _, _⟩ := fr_cells (frAt HQ9.out hb5)
        have HQ75 := Lib.hid (frAt HQ7.out hb5)
        have HB5b := Lib.hid (band HB9.out hb5)
        clear hb5
        go_wp2_with fail
        refine (HAj.out w5b).mono ?_
        rintro e w6b ⟨rfl, hb6⟩
        obtain ⟨y1, y2, y3, y4⟩ := fr_cells (frAt HQ75.out hb6)
        have HQ76 := Lib.hid (frAt HQ75.out hb6)
        have HB6b := Lib.hid (band HB5b.out hb6)
        clear hb6 z1 z2
        have HFb : Hid (FrBox ((w6b.setCell ⟨w.heap.size, 0, none⟩ (.int .i64 (frA (S (j + 1)) L))).setCell ⟨w.heap.size, 1, none⟩ (.int .i64 (frB (S (j + 1)) L : Nat))) w.heap.size (S (j + 1)) L) := FrBox.set HQ76.out _ _
        have HF1 : Hid (FrBox ((w6b.setCell ⟨w.heap.size, 0, none⟩ (.int .i64 (frA (S (j + 1)) L))).setCell ⟨w.heap.size, 1, none⟩ (.int .i64 (frB (S (j + 1)) L : Nat))) (w.heap.size + 1) (F 0) M) := box_sets (frAt H1.out HB6b.out) (by omega) _ _
        have HF2 : Hid (FrBox ((w6b.setCell ⟨w.heap.size, 0, none⟩ (.int .i64 (frA (S (j + 1)) L))).setCell ⟨w.heap.size, 1, none⟩ (.int .i64 (frB (S (j + 1)) L : Nat))) (w.heap.size + 1 + 1) (E 0) M) := box_sets (frAt H2.out HB6b.out) (by omega) _ _
        have HBb : Hid (Below w.heap.size w ((w6b.setCell ⟨w.heap.size, 0, none⟩ (.int .i64 (frA (S (j + 1)) L))).setCell ⟨w.heap.size, 1, none⟩ (.int .i64 (frB (S (j + 1)) L : Nat)))) := (band HB.out HB6b.out).trans (below_set2 w6b w.heap.size _ _)
        go_wp2
        go_roundw
        case rel => exact ⟨j + 1, by omega, by go_num, HFb.out, HF1.out, HF2.out, HBb.out⟩
        case measure => simp [intOf]; omega
    · have e : j = n := by omega
      have HSj : Hid (s ≠ 0 → frA (S j) L = 1 ∧ frB (S j) L = 1) := by rw [Hid, e]; exact HSe.out
      have hge : (n : Int) ≤ j := by omega
      have hn0 : (0 : Int) ≤ (n : Int) := by omega
      clear e
      go_wp2
      go_loopw [16, 17, 18, 19, 88] (fun _ _ _ _ i wq => ∃ q : Nat, q ≤ 2 ^ n ∧ i = .int .i64 q ∧ FrBox wq w.heap.size (S j) L ∧ FrBox wq (w.heap.size + 1) (F q) M ∧ FrBox wq (w.heap.size + 1 + 1) (E q) M ∧ Below w.heap.size w wq) (fun _ _ _ _ i _ => 2 ^ n - (intOf i).toNat)
      case atStart => exact ⟨0, Nat.zero_le _, rfl, H0.out, H1.out, H2.out, HB.out⟩
      case round =>
        obtain ⟨q, hq, rfl, hb0x, hb1x, hb2x, hbl⟩ := hrel
        clear hlt0 hlt2
        have HBq := Lib.hid hbl
        have G0 := Lib.hid hb0x
        have G1 := Lib.hid hb1x
        have G2 := Lib.hid hb2x
        have hlt2 := hb2x.lt
        clear hbl hb0x hb1x hb2x
        by_cases hlt : q < 2 ^ n
        · have hq0 : (0 : Int) ≤ (q : Int) := by omega
          have hltI := lt_pow hn6 hlt
          have hq64 : q < 64 := by omega
          have hand : bits .and .i64 (q : Int) (s : Int) = ((q &&& s : Nat) : Int) := band_nat q s (Nat.lt_of_lt_of_le hq64 (by decide)) hs62
          have HEj := Lib.hid (HEx.out q hlt)
          have HRj := Lib.hid (HRe.out q hlt)
          have HAj := Lib.hid (HAe.out q hlt)
          have HFj := Lib.hid (HAf.out q hlt)
          have HFm := Lib.hid (HFn.out q)
          obtain ⟨C, hC⟩ : ∃ C, C = frA (d q) M := ⟨_, rfl⟩
          obtain ⟨D, hD⟩ : ∃ D, D = frB (d q) M := ⟨_, rfl⟩
          have HN : Hid (frA (d q) M = C ∧ frB (d q) M = D) := ⟨hC.symm, hD.symm⟩
          rw [← hC, ← hD] at HRj HAj HFj
          clear hC hD
          by_cases hin : q &&& s = s
          all_goals
            first
              | (have hg : (((q &&& s : Nat) : Int) != (s : Int)) = false := by simp [hin]
                 have HFj := Lib.hid (HFj.out hin)
                 clear hin)
              | (have hg : (((q &&& s : Nat) : Int) != (s : Int)) = true := by simp; omega
                 have HFm := Lib.hid (HFm.out hin)
                 clear hin HFj)
            go_wp2_with fail
            refine (HL.out wr HBq.out).mono ?_
            rintro e w5a ⟨a5, c5, rfl, hO, hb5⟩
            have HI5 := Lib.hid hO.ints
            have HB5 : Hid (Below wr.heap.size wr w5a) := hb5
            clear hO hb5
            go_wp2_with fail
            refine (HEj.out a5 c5 w5a HI5.out).mono ?_
            rintro e w6a ⟨rfl, hb6⟩
            rw [HN.out.1, HN.out.2]
            have HB6 : Hid (Below wr.heap.size wr w6a) := HB5.out.trans (hb6.mono HB5.out.size)
            clear hb6
            obtain ⟨wc, hwc⟩ : ∃ wc, wc = w6a.alloc (.cells #[.int .i64 C, .int .i64 (D : Int)] 24) := ⟨_, rfl⟩
            have h9 : wc.heap[w6a.heap.size]? = some (.cells #[.int .i64 C, .int .i64 (D : Int)] 24) := by rw [hwc]; exact heap_alloc_new w6a _
            have hb9 : Below wr.heap.size wr wc := by rw [hwc]; exact HB6.out.alloc HB6.out.size _
            have HWc := Lib.hid hwc
            clear hwc
            have HQ7 := Lib.hid (frAt G2.out hb9)
            have HQ9 := Lib.hid h9
            have HB9 := Lib.hid hb9
            have hne : ¬ w6a.heap.size = w.heap.size + 1 + 1 := by have := HB6.out.size; omega
            have hne1 : ¬ w6a.heap.size = w.heap.size + 1 := by have := HB6.out.size; omega
            clear h9 hb9
            go_wp2_with fail
            rw [← HWc.out]
            refine (HRj.out wc).mono ?_
            rintro e w5b ⟨rfl, hb5⟩
            obtain ⟨y1, y2, y3, y4⟩ := fr_cells (frAt HQ7.out hb5)
            obtain ⟨z1, z2, _, _⟩ := fr_cells (frAt HQ9.out hb5)
            have HQ75 := Lib.hid (frAt HQ7.out hb5)
            have HQ95 := Lib.hid (frAt HQ9.out hb5)
            have HB5b := Lib.hid (band HB9.out hb5)
            clear hb5
            go_wp2_with fail
            refine (HAj.out w5b).mono ?_
            rintro e w6b ⟨rfl, hb6⟩
            obtain ⟨y1, y2, y3, y4⟩ := fr_cells (frAt HQ75.out hb6)
            have HQ76 := Lib.hid (frAt HQ75.out hb6)
            have HQ96 := Lib.hid (frAt HQ95.out hb6)
            have HB6b := Lib.hid (band HB5b.out hb6)
            clear hb6 z1 z2
            have HF0 : Hid (FrBox ((w6b.setCell ⟨w.heap.size + 1 + 1, 0, none⟩ (.int .i64 (frA (E (q + 1)) M))).setCell ⟨w.heap.size + 1 + 1, 1, none⟩ (.int .i64 (frB (E (q + 1)) M : Nat))) w.heap.size (S j) L) := box_sets (frAt G0.out HB6b.out) (by omega) _ _
            have HF1 : Hid (FrBox ((w6b.setCell ⟨w.heap.size + 1 + 1, 0, none⟩ (.int .i64 (frA (E (q + 1)) M))).setCell ⟨w.heap.size + 1 + 1, 1, none⟩ (.int .i64 (frB (E (q + 1)) M : Nat))) (w.heap.size + 1) (F q) M) := box_sets (frAt G1.out HB6b.out) (by omega) _ _
            have HF2 : Hid (FrBox ((w6b.setCell ⟨w.heap.size + 1 + 1, 0, none⟩ (.int .i64 (frA (E (q + 1)) M))).setCell ⟨w.heap.size + 1 + 1, 1, none⟩ (.int .i64 (frB (E (q + 1)) M : Nat))) (w.heap.size + 1 + 1) (E (q + 1)) M) := FrBox.set HQ76.out _ _
            have HBb : Hid (Below w.heap.size w ((w6b.setCell ⟨w.heap.size + 1 + 1, 0, none⟩ (.int .i64 (frA (E (q + 1)) M))).setCell ⟨w.heap.size + 1 + 1, 1, none⟩ (.int .i64 (frB (E (q + 1)) M : Nat)))) := (band HBq.out HB6b.out).trans ((below_set2 w6b (w.heap.size + 1 + 1) _ _).mono (by omega))
          · have HF9 : Hid (((w6b.setCell ⟨w.heap.size + 1 + 1, 0, none⟩ (.int .i64 (frA (E (q + 1)) M))).setCell ⟨w.heap.size + 1 + 1, 1, none⟩ (.int .i64 (frB (E (q + 1)) M : Nat))).heap[w6a.heap.size]? = some (.cells #[.int .i64 C, .int .i64 (D : Int)] 24)) := ((Below.heap_setCell _ _ _ w6a.heap.size (fun e => hne e)).trans (Below.heap_setCell _ _ _ w6a.heap.size (fun e => hne e))).trans HQ96.out
            obtain ⟨z1, z2, _, _⟩ := fr_cells HF9.out
            obtain ⟨x1, x2, _, _⟩ := fr_cells HF1.out
            go_wp2_with fail
            refine (HFj.out _).mono ?_
            rintro e w7b ⟨rfl, hb7⟩
            obtain ⟨x1, x2, x3, x4⟩ := fr_cells (frAt HF1.out hb7)
            have KF1 := Lib.hid (frAt HF1.out hb7)
            have K0 : Hid (FrBox ((w7b.setCell ⟨w.heap.size + 1, 0, none⟩ (.int .i64 (frA (F (q + 1)) M))).setCell ⟨w.heap.size + 1, 1, none⟩ (.int .i64 (frB (F (q + 1)) M : Nat))) w.heap.size (S j) L) := box_sets (frAt HF0.out hb7) (by omega) _ _
            have K2 : Hid (FrBox ((w7b.setCell ⟨w.heap.size + 1, 0, none⟩ (.int .i64 (frA (F (q + 1)) M))).setCell ⟨w.heap.size + 1, 1, none⟩ (.int .i64 (frB (F (q + 1)) M : Nat))) (w.heap.size + 1 + 1) (E (q + 1)) M) := box_sets (frAt HF2.out hb7) (by omega) _ _
            have K1 : Hid (FrBox ((w7b.setCell ⟨w.heap.size + 1, 0, none⟩ (.int .i64 (frA (F (q + 1)) M))).setCell ⟨w.heap.size + 1, 1, none⟩ (.int .i64 (frB (F (q + 1)) M : Nat))) (w.heap.size + 1) (F (q + 1)) M) := FrBox.set KF1.out _ _
            have KB : Hid (Below w.heap.size w ((w7b.setCell ⟨w.heap.size + 1, 0, none⟩ (.int .i64 (frA (F (q + 1)) M))).setCell ⟨w.heap.size + 1, 1, none⟩ (.int .i64 (frB (F (q + 1)) M : Nat)))) := (band HBb.out hb7).trans ((below_set2 w7b (w.heap.size + 1) _ _).mono (by omega))
            clear hb7 z1 z2
            go_wp2
            go_roundw
            case rel => exact ⟨q + 1, by omega, by go_num, K0.out, K1.out, K2.out, KB.out⟩
            case measure => simp [intOf]; omega
          · go_wp2
            go_roundw
            case rel => exact ⟨q + 1, by omega, by go_num, HF0.out, by rw [HFm.out]; exact HF1.out, HF2.out, HBb.out⟩
            case measure => simp [intOf]; omega
        · have e : q = 2 ^ n := by omega
          have hgeI := ge_pow hn6 hlt
          have hgeD := decide_eq_false (Int.not_lt.2 hgeI)
          have HEq : Hid (frA (E q) M = 1 ∧ frB (E q) M = 1) := by rw [Hid, e]; exact HEe.out
          have HFq : Hid (∀ a1 c1 W, Ints W a1 n z → Calls Try.prog 26 #[.slice a1 n c1, .int .i64 s, .int .i64 k] W fun e w' => FrOut (F q) M W e w') := by rw [e]; exact HDo.out
          clear e
          go_wp2_with fail
          refine (HL.out wr HBq.out).mono ?_
          rintro e w5a ⟨a5, c5, rfl, hO, hb5⟩
          have HI5 := Lib.hid hO.ints
          have HB5 := Lib.hid (band HBq.out hb5)
          have K0 := Lib.hid (frAt G0.out hb5)
          have K1 := Lib.hid (frAt G1.out hb5)
          have K2 := Lib.hid (frAt G2.out hb5)
          clear hO hb5
          go_wp2_with fail
          refine (HFq.out a5 c5 w5a HI5.out).mono ?_
          rintro e w6a ⟨rfl, hb6⟩
          obtain ⟨A5, hA5⟩ : ∃ A, A = frA (F q) M := ⟨_, rfl⟩
          obtain ⟨B5, hB5'⟩ : ∃ B, B = frB (F q) M := ⟨_, rfl⟩
          have hbW : Below w6a.heap.size w6a ((w6a.alloc (.cells #[.int .i64 A5, .int .i64 (B5 : Int)] 24)).alloc (.cells #[.int .i64 1, .int .i64 (1 : Int)] 24)) := below_two _ _ _
          obtain ⟨x1, x2, _, _⟩ := fr_cells (frAt (frAt K0.out hb6) hbW)
          obtain ⟨y1, y2, _, _⟩ := fr_cells (frAt (frAt K1.out hb6) hbW)
          obtain ⟨z1, z2, _, _⟩ := fr_cells (frAt (frAt K2.out hb6) hbW)
          rw [← hA5] at y1
          rw [← hB5'] at y2
          rw [HEq.out.1] at z1
          rw [HEq.out.2] at z2
          rw [← hA5, ← hB5']
          have HB6 := Lib.hid (band HB5.out hb6)
          clear hb6 hA5 hB5' hbW
          by_cases hs0 : s = 0
          all_goals
            first
              | (have gs : ((s : Int) == 0) = true := by rw [hs0]; rfl
                 clear hs0)
              | (have gs : ((s : Int) == 0) = false := by simp; omega
                 rw [(HSj.out hs0).1] at x1
                 rw [(HSj.out hs0).2] at x2
                 clear hs0)
            go_wp2_with fail
          all_goals
            refine (awake_any _).mono ?_
            rintro e w9a ⟨rfl, hb9⟩
            have HB9 : Hid (Below w.heap.size w w9a) := (HB6.out.trans ((below_two w6a _ _).mono HB6.out.size)).trans (hb9.mono (by have := HB6.out.size; simp; omega))
            clear hb9
            go_wp2
            go_ret
            exact ⟨rfl, HB9.out⟩

theorem sum_row (w : World) (a : Option Addr) (n cap : Nat) (z : Nat → Int) (hcap : n ≤ cap) (h8 : n * 8 ≤ 140737488355328) (hz : Ints w a n z) (s : Int) (_ : -9223372036854775808 ≤ s ∧ s ≤ 9223372036854775807) (k : Int) (_ : -9223372036854775808 ≤ k ∧ k ≤ 9223372036854775807) :
    Calls Try.prog 12 #[.slice a n cap, .int .i64 s, .int .i64 k] w fun e w' => SomeB true w e w' := by
  by_cases h : okS n z s = true ∧ isNumB k = true
  · have hk := isNumB_iff.1 h.2
    obtain ⟨t, ht, _⟩ := okS_nat h.1
    obtain ⟨j, rfl⟩ : ∃ j : Nat, k = j := ⟨k.toNat, by omega⟩
    subst ht
    exact sum_good a n cap z t j w h.1 (by omega) hcap h8 hz
  · refine sum_bad a n cap z s k w ?_ hcap h8 hz
    cases h1 : okS n z s
    · exact Or.inl rfl
    · cases h2 : isNumB k
      · exact Or.inr rfl
      · exact absurd ⟨h1, h2⟩ h
end Go.Proofs.Ytgednacoeifclaa
