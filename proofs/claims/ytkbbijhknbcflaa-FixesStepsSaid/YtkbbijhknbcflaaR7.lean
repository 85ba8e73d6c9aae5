import Derived.Test.YtkbbijhknbcflaaR6
/-
  Where the document says that a formula holds: fixed points.
-/
namespace Go.Proofs.Ytkbbijhknbcflaa
open Go.RowKit Go.Shelf

theorem at_fix_part {m : Nat → Bool} {l : List UInt8} {a z c : Nat} {t : Bool} {F : Fm} (h : At m l a (.fix t c F) z) : At (fun i => m i || i == c) l (a + 2) F z := by
  obtain ⟨ha, hx⟩ := at_head h (x := if t then 103 else 109) (t := lett c :: str F) rfl
  obtain ⟨ha1, hx1⟩ := at_head2 h (x := if t then 103 else 109) (y := lett c) (t := str F) rfl
  have h1 := h.1
  rw [drop_at ha hx, drop_at ha1 hx1] at h1
  refine ⟨(List.cons.inj (List.cons.inj h1).2).2, ?_, h.2.2.2⟩
  have := h.2.1
  simp only [str, List.length_cons] at this
  omega
theorem upd_self (e : Nat → Nat) (c : Nat) : upd e c (e c) = e := by
  funext i; simp only [upd]; split
  · rename_i h; rw [h]
  · rfl
theorem upd_upd (e : Nat → Nat) (c X Y : Nat) : upd (upd e c X) c Y = upd e c Y := by
  funext i; simp only [upd]; split <;> rfl
theorem set_block {W : World} {b j : Nat} {cs : Array Value} {T : TypeId} (h : W.heap[b]? = some (.cells cs T)) (v : Value) : (W.setCell ⟨b, j, none⟩ v).heap[b]? = some (.cells (cs.setIfInBounds j v) T) := by
  obtain ⟨hlt, hk⟩ := Array.getElem?_eq_some_iff.1 h
  show (W.heap.modify b _)[b]? = _
  rw [Array.getElem?_eq_getElem (by rw [Array.size_modify]; exact hlt), Array.getElem_modify_self, hk]
  rfl
theorem HInv.set0 {aN : Option Addr} {n cN : Nat} {aM : Option Addr} {cM : Nat} {e : Nat → Nat} {W w : World} {Z : Nat} (h : HInv aN n cN aM cM (upd e 0 Z) W w) (X : Nat) : HInv aN n cN aM cM (upd e 0 X) W (w.setCell ⟨W.heap.size + 1, 0, none⟩ (.int .i64 (X : Nat))) :=
  ⟨(Below.heap_setCell _ _ _ _ (by simp)).trans h.b0, (set_block h.b1 _).trans rfl, h.bel.setCell (by simp) _⟩
theorem HInv.set1 {aN : Option Addr} {n cN : Nat} {aM : Option Addr} {cM : Nat} {e : Nat → Nat} {W w : World} {Z : Nat} (h : HInv aN n cN aM cM (upd e 1 Z) W w) (X : Nat) : HInv aN n cN aM cM (upd e 1 X) W (w.setCell ⟨W.heap.size + 1, 1, none⟩ (.int .i64 (X : Nat))) :=
  ⟨(Below.heap_setCell _ _ _ _ (by simp)).trans h.b0, (set_block h.b1 _).trans rfl, h.bel.setCell (by simp) _⟩
theorem HInv.set2 {aN : Option Addr} {n cN : Nat} {aM : Option Addr} {cM : Nat} {e : Nat → Nat} {W w : World} {Z : Nat} (h : HInv aN n cN aM cM (upd e 2 Z) W w) (X : Nat) : HInv aN n cN aM cM (upd e 2 X) W (w.setCell ⟨W.heap.size + 1, 2, none⟩ (.int .i64 (X : Nat))) :=
  ⟨(Below.heap_setCell _ _ _ _ (by simp)).trans h.b0, (set_block h.b1 _).trans rfl, h.bel.setCell (by simp) _⟩

set_option maxHeartbeats 4000000 in
set_option maxRecDepth 100000 in
theorem rf_m0 (F : Fm) (ih : HR F) (m : Nat → Bool) (l : List UInt8) (a z : Nat) (e : Nat → Nat) (aN : Option Addr) (n cN : Nat) (aM : Option Addr) (cM : Nat) (nx mk : Nat → Nat) (k : Nat) (W : World) (hl : l.length ≤ 5000) (hA : At m l a (.fix false 0 F) z) (hk : Wk W aN n aM nx mk) (hE : EnvOk n e)
    (hkn : k ≤ n) (hF : First (fun X => den n nx mk F (upd e 0 X)) (beg false n) k) :
    Calls Try.prog 42 #[wkV aN n cN aM n cM, .string (st l), .int .i64 (a : Nat), S3 e] W fun r w' => r = .returned (.tuple #[.int .i64 (iter (fun X => den n nx mk F (upd e 0 X)) (beg false n) k : Nat), .int .i64 (z : Nat), .int .i64 ((k : Int) + 1)]) ∧ Below W.heap.size W w' := by
  obtain ⟨ha, hx⟩ := at_head hA (x := 109) (t := 120 :: str F) rfl
  obtain ⟨ha1, hx1⟩ := at_head2 hA (x := 109) (y := 120) (t := str F) rfl
  have hA1 := at_fix_part hA
  have h6 := hk.n6
  have hle := hA.le
  have H1 : Hid (∀ X w, X < 2 ^ n → Below W.heap.size W w → Calls Try.prog 39 #[wkV aN n cN aM n cM, .string (st l), .int .i64 ((a : Int) + 2), .agg #[.int .i64 (X : Nat), .int .i64 (e 1 : Nat), .int .i64 (e 2 : Nat)]] w fun r w' => r = .returned (.tuple #[.int .i64 (den n nx mk F (upd e 0 X) : Nat), .int .i64 (z : Nat)]) ∧ Below w.heap.size w w') := by
    intro X w hX hb
    have := ih _ l (a + 2) z (upd e 0 X) aN n cN aM cM nx mk w hl hA1 (hk.keep (Nat.le_refl _) hb) (hE.upd 0 hX)
    rw [show ((a + 2 : Nat) : Int) = (a : Int) + 2 by omega] at this
    exact this
  have HIt : Hid (∀ i, iter (fun X => den n nx mk F (upd e 0 X)) (beg false n) i < 2 ^ n) := iter_lt (fun X hX => den_lt F (hE.upd 0 hX)) (beg_lt false n)
  have HFst := Lib.hid hF
  have hw := Lib.hid (wrap_full (show n ≤ 9 by omega))
  have hs : (st l).size = l.length := st_size l
  have hg : ∀ h : a < (st l).size, (st l)[a] = 109 := fun h => hx
  have hgb : ∀ h : a + 1 < (st l).size, (st l)[a + 1] = 120 := fun h => hx1
  have hsz : (st l).size ≤ 5000 := by omega
  have has : a < (st l).size := by omega
  have has1 : a + 1 < (st l).size := by omega
  have hi0 := HInv.start (aN := aN) (n := n) (cN := cN) (aM := aM) (cM := cM) (e := upd e 0 (e 0)) (W := W)
  have HI0 : Hid (HInv aN n cN aM cM (upd e 0 (e 0)) W ((W.alloc (.cells #[.slice aN n cN, .slice aM n cM] 24)).alloc (.cells #[.int .i64 (e 0 : Nat), .int .i64 (e 1 : Nat), .int .i64 (e 2 : Nat)] 55))) := by rw [upd_self] at hi0 ⊢; exact hi0
  have hk6 : k ≤ 6 := by omega
  have hz5 : z ≤ 5000 := by omega
  generalize st l = L at *
  have hg' := hg has
  have hgb' := hgb has1
  generalize hFF : (fun X => den n nx mk F (upd e 0 X)) = FF at *
  have HFF : Hid (∀ X, den n nx mk F (upd e 0 X) = FF X) := fun X => by rw [← hFF]
  clear hx hs hl hA hk hE hx1 hA1 hi0 hF hle hFF
  have HBeg : Hid (beg false n = 0) := rfl
  go_enter Try.func42, Try.ntmps42
  go_wp2
  go_loopw [11, 12] (fun sv kv wr => ∃ i : Nat, i ≤ k ∧ sv = .int .i64 ((iter FF (beg false n) i : Nat) : Int) ∧ kv = .int .i64 ((i : Int) + 1) ∧ ∃ Z, HInv aN n cN aM cM (upd e 0 Z) W wr) (fun _ kv _ => 7 - (intOf kv).toNat)
  case atStart => exact ⟨0, Nat.zero_le _, rfl, rfl, _, HI0.out⟩
  case round =>
    obtain ⟨i, hi, rfl, rfl, Z, hI⟩ := hrel
    have HI := Lib.hid hI
    have HIs := Lib.hid (hI.set0 (iter FF (beg false n) i))
    have hX := HIt.out i
    have HE : Hid (FF (iter FF (beg false n) i) = iter FF (beg false n) (i + 1)) := rfl
    have H1x := Lib.hid (H1.out (iter FF (beg false n) i))
    rw [HFF.out, HE.out] at H1x
    obtain ⟨q0, q1, q2, q3, q4⟩ := hI.cells
    have f := block_free hI.b1 0
    have hsz1 : W.heap.size + 1 < wr.heap.size := (Array.getElem?_eq_some_iff.1 hI.b1).1
    have p2 : wr.cell? ⟨W.heap.size + 1, 0, none⟩ = some (.int .i64 (Z : Nat)) := q2
    have p3 : wr.cell? ⟨W.heap.size + 1, 1, none⟩ = some (.int .i64 (e 1 : Nat)) := q3
    have p4 : wr.cell? ⟨W.heap.size + 1, 2, none⟩ = some (.int .i64 (e 2 : Nat)) := q4
    clear q2 q3 q4 hI
    have h4 := two_le6 h6
    by_cases hlt : i < k
    · have hne : ¬ ((iter FF (beg false n) (i + 1) : Nat) : Int) = ((iter FF (beg false n) i : Nat) : Int) := by
        have := HFst.out.2 i hlt
        rw [HE.out] at this
        omega
      have h3 := HIt.out (i + 1)
      obtain ⟨Y, hY⟩ : ∃ Y, iter FF (beg false n) i = Y := ⟨_, rfl⟩
      obtain ⟨V, hV⟩ : ∃ V, iter FF (beg false n) (i + 1) = V := ⟨_, rfl⟩
      rw [hY] at hX hne HIs H1x ⊢
      rw [hV] at h3 hne H1x
      have HV := Lib.hid hV
      have H1y := Lib.hid (H1x.out _ hX HIs.out.bel)
      clear hY hV H1x
      go_wp2_with (first | (go_at_call 39; refine H1y.out.mono ?_) | go_in)
      rintro r w1 ⟨rfl, hb⟩
      have HI1 := Lib.hid (HIs.out.keep hb)
      clear hb q0 q1 p2 p3 p4 f
      go_wp2
      go_roundw
      case rel => exact ⟨i + 1, by omega, by rw [HV.out], by go_num, _, HI1.out⟩
      case measure => simp [intOf]; omega
    · obtain rfl : i = k := by omega
      have he := HFst.out.1
      rw [HE.out] at he
      rw [he] at H1x
      obtain ⟨Y, hY⟩ : ∃ Y, iter FF (beg false n) i = Y := ⟨_, rfl⟩
      rw [hY] at hX HIs H1x ⊢
      have HY := Lib.hid hY
      have H1y := Lib.hid (H1x.out _ hX HIs.out.bel)
      clear hY H1x he
      go_wp2_with (first | (go_at_call 39; refine H1y.out.mono ?_) | go_in)
      rintro r w1 ⟨rfl, hb⟩
      have HI1 := Lib.hid (HIs.out.keep hb)
      clear hb q0 q1 p2 p3 p4 f
      go_wp2
      exact bodyPost_ret (v := .tuple #[.int .i64 (Y : Int), .int .i64 (z : Nat), .int .i64 ((i : Int) + 1)]) (by simp [results, Try.results42, go_sem]) rfl ⟨by rw [HY.out], HI1.out.bel⟩

set_option maxHeartbeats 4000000 in
set_option maxRecDepth 100000 in
theorem rf_m1 (F : Fm) (ih : HR F) (m : Nat → Bool) (l : List UInt8) (a z : Nat) (e : Nat → Nat) (aN : Option Addr) (n cN : Nat) (aM : Option Addr) (cM : Nat) (nx mk : Nat → Nat) (k : Nat) (W : World) (hl : l.length ≤ 5000) (hA : At m l a (.fix false 1 F) z) (hk : Wk W aN n aM nx mk) (hE : EnvOk n e)
    (hkn : k ≤ n) (hF : First (fun X => den n nx mk F (upd e 1 X)) (beg false n) k) :
    Calls Try.prog 42 #[wkV aN n cN aM n cM, .string (st l), .int .i64 (a : Nat), S3 e] W fun r w' => r = .returned (.tuple #[.int .i64 (iter (fun X => den n nx mk F (upd e 1 X)) (beg false n) k : Nat), .int .i64 (z : Nat), .int .i64 ((k : Int) + 1)]) ∧ Below W.heap.size W w' := by
  obtain ⟨ha, hx⟩ := at_head hA (x := 109) (t := 121 :: str F) rfl
  obtain ⟨ha1, hx1⟩ := at_head2 hA (x := 109) (y := 121) (t := str F) rfl
  have hA1 := at_fix_part hA
  have h6 := hk.n6
  have hle := hA.le
  have H1 : Hid (∀ X w, X < 2 ^ n → Below W.heap.size W w → Calls Try.prog 39 #[wkV aN n cN aM n cM, .string (st l), .int .i64 ((a : Int) + 2), .agg #[.int .i64 (e 0 : Nat), .int .i64 (X : Nat), .int .i64 (e 2 : Nat)]] w fun r w' => r = .returned (.tuple #[.int .i64 (den n nx mk F (upd e 1 X) : Nat), .int .i64 (z : Nat)]) ∧ Below w.heap.size w w') := by
    intro X w hX hb
    have := ih _ l (a + 2) z (upd e 1 X) aN n cN aM cM nx mk w hl hA1 (hk.keep (Nat.le_refl _) hb) (hE.upd 1 hX)
    rw [show ((a + 2 : Nat) : Int) = (a : Int) + 2 by omega] at this
    exact this
  have HIt : Hid (∀ i, iter (fun X => den n nx mk F (upd e 1 X)) (beg false n) i < 2 ^ n) := iter_lt (fun X hX => den_lt F (hE.upd 1 hX)) (beg_lt false n)
  have HFst := Lib.hid hF
  have hw := Lib.hid (wrap_full (show n ≤ 9 by omega))
  have hs : (st l).size = l.length := st_size l
  have hg : ∀ h : a < (st l).size, (st l)[a] = 109 := fun h => hx
  have hgb : ∀ h : a + 1 < (st l).size, (st l)[a + 1] = 121 := fun h => hx1
  have hsz : (st l).size ≤ 5000 := by omega
  have has : a < (st l).size := by omega
  have has1 : a + 1 < (st l).size := by omega
  have hi0 := HInv.start (aN := aN) (n := n) (cN := cN) (aM := aM) (cM := cM) (e := upd e 1 (e 1)) (W := W)
  have HI0 : Hid (HInv aN n cN aM cM (upd e 1 (e 1)) W ((W.alloc (.cells #[.slice aN n cN, .slice aM n cM] 24)).alloc (.cells #[.int .i64 (e 0 : Nat), .int .i64 (e 1 : Nat), .int .i64 (e 2 : Nat)] 55))) := by rw [upd_self] at hi0 ⊢; exact hi0
  have hk6 : k ≤ 6 := by omega
  have hz5 : z ≤ 5000 := by omega
  generalize st l = L at *
  have hg' := hg has
  have hgb' := hgb has1
  generalize hFF : (fun X => den n nx mk F (upd e 1 X)) = FF at *
  have HFF : Hid (∀ X, den n nx mk F (upd e 1 X) = FF X) := fun X => by rw [← hFF]
  clear hx hs hl hA hk hE hx1 hA1 hi0 hF hle hFF
  have HBeg : Hid (beg false n = 0) := rfl
  go_enter Try.func42, Try.ntmps42
  go_wp2
  go_loopw [11, 12] (fun sv kv wr => ∃ i : Nat, i ≤ k ∧ sv = .int .i64 ((iter FF (beg false n) i : Nat) : Int) ∧ kv = .int .i64 ((i : Int) + 1) ∧ ∃ Z, HInv aN n cN aM cM (upd e 1 Z) W wr) (fun _ kv _ => 7 - (intOf kv).toNat)
  case atStart => exact ⟨0, Nat.zero_le _, rfl, rfl, _, HI0.out⟩
  case round =>
    obtain ⟨i, hi, rfl, rfl, Z, hI⟩ := hrel
    have HI := Lib.hid hI
    have HIs := Lib.hid (hI.set1 (iter FF (beg false n) i))
    have hX := HIt.out i
    have HE : Hid (FF (iter FF (beg false n) i) = iter FF (beg false n) (i + 1)) := rfl
    have H1x := Lib.hid (H1.out (iter FF (beg false n) i))
    rw [HFF.out, HE.out] at H1x
    obtain ⟨q0, q1, q2, q3, q4⟩ := hI.cells
    have f := block_free hI.b1 1
    have hsz1 : W.heap.size + 1 < wr.heap.size := (Array.getElem?_eq_some_iff.1 hI.b1).1
    have p2 : wr.cell? ⟨W.heap.size + 1, 0, none⟩ = some (.int .i64 (e 0 : Nat)) := q2
    have p3 : wr.cell? ⟨W.heap.size + 1, 1, none⟩ = some (.int .i64 (Z : Nat)) := q3
    have p4 : wr.cell? ⟨W.heap.size + 1, 2, none⟩ = some (.int .i64 (e 2 : Nat)) := q4
    clear q2 q3 q4 hI
    have h4 := two_le6 h6
    by_cases hlt : i < k
    · have hne : ¬ ((iter FF (beg false n) (i + 1) : Nat) : Int) = ((iter FF (beg false n) i : Nat) : Int) := by
        have := HFst.out.2 i hlt
        rw [HE.out] at this
        omega
      have h3 := HIt.out (i + 1)
      obtain ⟨Y, hY⟩ : ∃ Y, iter FF (beg false n) i = Y := ⟨_, rfl⟩
      obtain ⟨V, hV⟩ : ∃ V, iter FF (beg false n) (i + 1) = V := ⟨_, rfl⟩
      rw [hY] at hX hne HIs H1x ⊢
      rw [hV] at h3 hne H1x
      have HV := Lib.hid hV
      have H1y := Lib.hid (H1x.out _ hX HIs.out.bel)
      clear hY hV H1x
      go_wp2_with (first | (go_at_call 39; refine H1y.out.mono ?_) | go_in)
      rintro r w1 ⟨rfl, hb⟩
      have HI1 := Lib.hid (HIs.out.keep hb)
      clear hb q0 q1 p2 p3 p4 f
      go_wp2
      go_roundw
      case rel => exact ⟨i + 1, by omega, by rw [HV.out], by go_num, _, HI1.out⟩
      case measure => simp [intOf]; omega
    · obtain rfl : i = k := by omega
      have he := HFst.out.1
      rw [HE.out] at he
      rw [he] at H1x
      obtain ⟨Y, hY⟩ : ∃ Y, iter FF (beg false n) i = Y := ⟨_, rfl⟩
      rw [hY] at hX HIs H1x ⊢
      have HY := Lib.hid hY
      have H1y := Lib.hid (H1x.out _ hX HIs.out.bel)
      clear hY H1x he
      go_wp2_with (first | (go_at_call 39; refine H1y.out.mono ?_) | go_in)
      rintro r w1 ⟨rfl, hb⟩
      have HI1 := Lib.hid (HIs.out.keep hb)
      clear hb q0 q1 p2 p3 p4 f
      go_wp2
      exact bodyPost_ret (v := .tuple #[.int .i64 (Y : Int), .int .i64 (z : Nat), .int .i64 ((i : Int) + 1)]) (by simp [results, Try.results42, go_sem]) rfl ⟨by rw [HY.out], HI1.out.bel⟩

set_option maxHeartbeats 4000000 in
set_option maxRecDepth 100000 in
theorem rf_m2 (F : Fm) (ih : HR F) (m : Nat → Bool) (l : List UInt8) (a z : Nat) (e : Nat → Nat) (aN : Option Addr) (n cN : Nat) (aM : Option Addr) (cM : Nat) (nx mk : Nat → Nat) (k : Nat) (W : World) (hl : l.length ≤ 5000) (hA : At m l a (.fix false 2 F) z) (hk : Wk W aN n aM nx mk) (hE : EnvOk n e)
    (hkn : k ≤ n) (hF : First (fun X => den n nx mk F (upd e 2 X)) (beg false n) k) :
    Calls Try.prog 42 #[wkV aN n cN aM n cM, .string (st l), .int .i64 (a : Nat), S3 e] W fun r w' => r = .returned (.tuple #[.int .i64 (iter (fun X => den n nx mk F (upd e 2 X)) (beg false n) k : Nat), .int .i64 (z : Nat), .int .i64 ((k : Int) + 1)]) ∧ Below W.heap.size W w' := by
  obtain ⟨ha, hx⟩ := at_head hA (x := 109) (t := 122 :: str F) rfl
  obtain ⟨ha1, hx1⟩ := at_head2 hA (x := 109) (y := 122) (t := str F) rfl
  have hA1 := at_fix_part hA
  have h6 := hk.n6
  have hle := hA.le
  have H1 : Hid (∀ X w, X < 2 ^ n → Below W.heap.size W w → Calls Try.prog 39 #[wkV aN n cN aM n cM, .string (st l), .int .i64 ((a : Int) + 2), .agg #[.int .i64 (e 0 : Nat), .int .i64 (e 1 : Nat), .int .i64 (X : Nat)]] w fun r w' => r = .returned (.tuple #[.int .i64 (den n nx mk F (upd e 2 X) : Nat), .int .i64 (z : Nat)]) ∧ Below w.heap.size w w') := by
    intro X w hX hb
    have := ih _ l (a + 2) z (upd e 2 X) aN n cN aM cM nx mk w hl hA1 (hk.keep (Nat.le_refl _) hb) (hE.upd 2 hX)
    rw [show ((a + 2 : Nat) : Int) = (a : Int) + 2 by omega] at this
    exact this
  have HIt : Hid (∀ i, iter (fun X => den n nx mk F (upd e 2 X)) (beg false n) i < 2 ^ n) := iter_lt (fun X hX => den_lt F (hE.upd 2 hX)) (beg_lt false n)
  have HFst := Lib.hid hF
  have hw := Lib.hid (wrap_full (show n ≤ 9 by omega))
  have hs : (st l).size = l.length := st_size l
  have hg : ∀ h : a < (st l).size, (st l)[a] = 109 := fun h => hx
  have hgb : ∀ h : a + 1 < (st l).size, (st l)[a + 1] = 122 := fun h => hx1
  have hsz : (st l).size ≤ 5000 := by omega
  have has : a < (st l).size := by omega
  have has1 : a + 1 < (st l).size := by omega
  have hi0 := HInv.start (aN := aN) (n := n) (cN := cN) (aM := aM) (cM := cM) (e := upd e 2 (e 2)) (W := W)
  have HI0 : Hid (HInv aN n cN aM cM (upd e 2 (e 2)) W ((W.alloc (.cells #[.slice aN n cN, .slice aM n cM] 24)).alloc (.cells #[.int .i64 (e 0 : Nat), .int .i64 (e 1 : Nat), .int .i64 (e 2 : Nat)] 55))) := by rw [upd_self] at hi0 ⊢; exact hi0
  have hk6 : k ≤ 6 := by omega
  have hz5 : z ≤ 5000 := by omega
  generalize st l = L at *
  have hg' := hg has
  have hgb' := hgb has1
  generalize hFF : (fun X => den n nx mk F (upd e 2 X)) = FF at *
  have HFF : Hid (∀ X, den n nx mk F (upd e 2 X) = FF X) := fun X => by rw [← hFF]
  clear hx hs hl hA hk hE hx1 hA1 hi0 hF hle hFF
  have HBeg : Hid (beg false n = 0) := rfl
  go_enter Try.func42, Try.ntmps42
  go_wp2
  go_loopw [11, 12] (fun sv kv wr => ∃ i : Nat, i ≤ k ∧ sv = .int .i64 ((iter FF (beg false n) i : Nat) : Int) ∧ kv = .int .i64 ((i : Int) + 1) ∧ ∃ Z, HInv aN n cN aM cM (upd e 2 Z) W wr) (fun _ kv _ => 7 - (intOf kv).toNat)
  case atStart => exact ⟨0, Nat.zero_le _, rfl, rfl, _, HI0.out⟩
  case round =>
    obtain ⟨i, hi, rfl, rfl, Z, hI⟩ := hrel
    have HI := Lib.hid hI
    have HIs := Lib.hid (hI.set2 (iter FF (beg false n) i))
    have hX := HIt.out i
    have HE : Hid (FF (iter FF (beg false n) i) = iter FF (beg false n) (i + 1)) := rfl
    have H1x := Lib.hid (H1.out (iter FF (beg false n) i))
    rw [HFF.out, HE.out] at H1x
    obtain ⟨q0, q1, q2, q3, q4⟩ := hI.cells
    have f := block_free hI.b1 2
    have hsz1 : W.heap.size + 1 < wr.heap.size := (Array.getElem?_eq_some_iff.1 hI.b1).1
    have p2 : wr.cell? ⟨W.heap.size + 1, 0, none⟩ = some (.int .i64 (e 0 : Nat)) := q2
    have p3 : wr.cell? ⟨W.heap.size + 1, 1, none⟩ = some (.int .i64 (e 1 : Nat)) := q3
    have p4 : wr.cell? ⟨W.heap.size + 1, 2, none⟩ = some (.int .i64 (Z : Nat)) := q4
    clear q2 q3 q4 hI
    have h4 := two_le6 h6
    by_cases hlt : i < k
    · have hne : ¬ ((iter FF (beg false n) (i + 1) : Nat) : Int) = ((iter FF (beg false n) i : Nat) : Int) := by
        have := HFst.out.2 i hlt
        rw [HE.out] at this
        omega
      have h3 := HIt.out (i + 1)
      obtain ⟨Y, hY⟩ : ∃ Y, iter FF (beg false n) i = Y := ⟨_, rfl⟩
      obtain ⟨V, hV⟩ : ∃ V, iter FF (beg false n) (i + 1) = V := ⟨_, rfl⟩
      rw [hY] at hX hne HIs H1x ⊢
      rw [hV] at h3 hne H1x
      have HV := Lib.hid hV
      have H1y := Lib.hid (H1x.out _ hX HIs.out.bel)
      clear hY hV H1x
      go_wp2_with (first | (go_at_call 39; refine H1y.out.mono ?_) | go_in)
      rintro r w1 ⟨rfl, hb⟩
      have HI1 := Lib.hid (HIs.out.keep hb)
      clear hb q0 q1 p2 p3 p4 f
      go_wp2
      go_roundw
      case rel => exact ⟨i + 1, by omega, by rw [HV.out], by go_num, _, HI1.out⟩
      case measure => simp [intOf]; omega
    · obtain rfl : i = k := by omega
      have he := HFst.out.1
      rw [HE.out] at he
      rw [he] at H1x
      obtain ⟨Y, hY⟩ : ∃ Y, iter FF (beg false n) i = Y := ⟨_, rfl⟩
      rw [hY] at hX HIs H1x ⊢
      have HY := Lib.hid hY
      have H1y := Lib.hid (H1x.out _ hX HIs.out.bel)
      clear hY H1x he
      go_wp2_with (first | (go_at_call 39; refine H1y.out.mono ?_) | go_in)
      rintro r w1 ⟨rfl, hb⟩
      have HI1 := Lib.hid (HIs.out.keep hb)
      clear hb q0 q1 p2 p3 p4 f
      go_wp2
      exact bodyPost_ret (v := .tuple #[.int .i64 (Y : Int), .int .i64 (z : Nat), .int .i64 ((i : Int) + 1)]) (by simp [results, Try.results42, go_sem]) rfl ⟨by rw [HY.out], HI1.out.bel⟩

set_option maxHeartbeats 4000000 in
set_option maxRecDepth 100000 in
theorem rf_g0 (F : Fm) (ih : HR F) (m : Nat → Bool) (l : List UInt8) (a z : Nat) (e : Nat → Nat) (aN : Option Addr) (n cN : Nat) (aM : Option Addr) (cM : Nat) (nx mk : Nat → Nat) (k : Nat) (W : World) (hl : l.length ≤ 5000) (hA : At m l a (.fix true 0 F) z) (hk : Wk W aN n aM nx mk) (hE : EnvOk n e)
    (hkn : k ≤ n) (hF : First (fun X => den n nx mk F (upd e 0 X)) (beg true n) k) :
    Calls Try.prog 42 #[wkV aN n cN aM n cM, .string (st l), .int .i64 (a : Nat), S3 e] W fun r w' => r = .returned (.tuple #[.int .i64 (iter (fun X => den n nx mk F (upd e 0 X)) (beg true n) k : Nat), .int .i64 (z : Nat), .int .i64 ((k : Int) + 1)]) ∧ Below W.heap.size W w' := by
  obtain ⟨ha, hx⟩ := at_head hA (x := 103) (t := 120 :: str F) rfl
  obtain ⟨ha1, hx1⟩ := at_head2 hA (x := 103) (y := 120) (t := str F) rfl
  have hA1 := at_fix_part hA
  have h6 := hk.n6
  have hle := hA.le
  have H1 : Hid (∀ X w, X < 2 ^ n → Below W.heap.size W w → Calls Try.prog 39 #[wkV aN n cN aM n cM, .string (st l), .int .i64 ((a : Int) + 2), .agg #[.int .i64 (X : Nat), .int .i64 (e 1 : Nat), .int .i64 (e 2 : Nat)]] w fun r w' => r = .returned (.tuple #[.int .i64 (den n nx mk F (upd e 0 X) : Nat), .int .i64 (z : Nat)]) ∧ Below w.heap.size w w') := by
    intro X w hX hb
    have := ih _ l (a + 2) z (upd e 0 X) aN n cN aM cM nx mk w hl hA1 (hk.keep (Nat.le_refl _) hb) (hE.upd 0 hX)
    rw [show ((a + 2 : Nat) : Int) = (a : Int) + 2 by omega] at this
    exact this
  have HIt : Hid (∀ i, iter (fun X => den n nx mk F (upd e 0 X)) (beg true n) i < 2 ^ n) := iter_lt (fun X hX => den_lt F (hE.upd 0 hX)) (beg_lt true n)
  have HFst := Lib.hid hF
  have hw := Lib.hid (wrap_full (show n ≤ 9 by omega))
  have hs : (st l).size = l.length := st_size l
  have hg : ∀ h : a < (st l).size, (st l)[a] = 103 := fun h => hx
  have hgb : ∀ h : a + 1 < (st l).size, (st l)[a + 1] = 120 := fun h => hx1
  have hsz : (st l).size ≤ 5000 := by omega
  have has : a < (st l).size := by omega
  have has1 : a + 1 < (st l).size := by omega
  have hi0 := HInv.start (aN := aN) (n := n) (cN := cN) (aM := aM) (cM := cM) (e := upd e 0 (e 0)) (W := W)
  have HI0 : Hid (HInv aN n cN aM cM (upd e 0 (e 0)) W ((W.alloc (.cells #[.slice aN n cN, .slice aM n cM] 24)).alloc (.cells #[.int .i64 (e 0 : Nat), .int .i64 (e 1 : Nat), .int .i64 (e 2 : Nat)] 55))) := by rw [upd_self] at hi0 ⊢; exact hi0
  have hk6 : k ≤ 6 := by omega
  have hz5 : z ≤ 5000 := by omega
  generalize st l = L at *
  have hg' := hg has
  have hgb' := hgb has1
  generalize hFF : (fun X => den n nx mk F (upd e 0 X)) = FF at *
  have HFF : Hid (∀ X, den n nx mk F (upd e 0 X) = FF X) := fun X => by rw [← hFF]
  clear hx hs hl hA hk hE hx1 hA1 hi0 hF hle hFF
  have HBeg : Hid (beg true n = 2 ^ n - 1) := rfl
  go_enter Try.func42, Try.ntmps42
  go_wp2
  rw [hw.out]
  go_loopw [11, 12] (fun sv kv wr => ∃ i : Nat, i ≤ k ∧ sv = .int .i64 ((iter FF (beg true n) i : Nat) : Int) ∧ kv = .int .i64 ((i : Int) + 1) ∧ ∃ Z, HInv aN n cN aM cM (upd e 0 Z) W wr) (fun _ kv _ => 7 - (intOf kv).toNat)
  case atStart => exact ⟨0, Nat.zero_le _, rfl, rfl, _, HI0.out⟩
  case round =>
    obtain ⟨i, hi, rfl, rfl, Z, hI⟩ := hrel
    have HI := Lib.hid hI
    have HIs := Lib.hid (hI.set0 (iter FF (beg true n) i))
    have hX := HIt.out i
    have HE : Hid (FF (iter FF (beg true n) i) = iter FF (beg true n) (i + 1)) := rfl
    have H1x := Lib.hid (H1.out (iter FF (beg true n) i))
    rw [HFF.out, HE.out] at H1x
    obtain ⟨q0, q1, q2, q3, q4⟩ := hI.cells
    have f := block_free hI.b1 0
    have hsz1 : W.heap.size + 1 < wr.heap.size := (Array.getElem?_eq_some_iff.1 hI.b1).1
    have p2 : wr.cell? ⟨W.heap.size + 1, 0, none⟩ = some (.int .i64 (Z : Nat)) := q2
    have p3 : wr.cell? ⟨W.heap.size + 1, 1, none⟩ = some (.int .i64 (e 1 : Nat)) := q3
    have p4 : wr.cell? ⟨W.heap.size + 1, 2, none⟩ = some (.int .i64 (e 2 : Nat)) := q4
    clear q2 q3 q4 hI
    have h4 := two_le6 h6
    by_cases hlt : i < k
    · have hne : ¬ ((iter FF (beg true n) (i + 1) : Nat) : Int) = ((iter FF (beg true n) i : Nat) : Int) := by
        have := HFst.out.2 i hlt
        rw [HE.out] at this
        omega
      have h3 := HIt.out (i + 1)
      obtain ⟨Y, hY⟩ : ∃ Y, iter FF (beg true n) i = Y := ⟨_, rfl⟩
      obtain ⟨V, hV⟩ : ∃ V, iter FF (beg true n) (i + 1) = V := ⟨_, rfl⟩
      rw [hY] at hX hne HIs H1x ⊢
      rw [hV] at h3 hne H1x
      have HV := Lib.hid hV
      have H1y := Lib.hid (H1x.out _ hX HIs.out.bel)
      clear hY hV H1x
      go_wp2_with (first | (go_at_call 39; refine H1y.out.mono ?_) | go_in)
      rintro r w1 ⟨rfl, hb⟩
      have HI1 := Lib.hid (HIs.out.keep hb)
      clear hb q0 q1 p2 p3 p4 f
      go_wp2
      go_roundw
      case rel => exact ⟨i + 1, by omega, by rw [HV.out], by go_num, _, HI1.out⟩
      case measure => simp [intOf]; omega
    · obtain rfl : i = k := by omega
      have he := HFst.out.1
      rw [HE.out] at he
      rw [he] at H1x
      obtain ⟨Y, hY⟩ : ∃ Y, iter FF (beg true n) i = Y := ⟨_, rfl⟩
      rw [hY] at hX HIs H1x ⊢
      have HY := Lib.hid hY
      have H1y := Lib.hid (H1x.out _ hX HIs.out.bel)
      clear hY H1x he
      go_wp2_with (first | (go_at_call 39; refine H1y.out.mono ?_) | go_in)
      rintro r w1 ⟨rfl, hb⟩
      have HI1 := Lib.hid (HIs.out.keep hb)
      clear hb q0 q1 p2 p3 p4 f
      go_wp2
      exact bodyPost_ret (v := .tuple #[.int .i64 (Y : Int), .int .i64 (z : Nat), .int .i64 ((i : Int) + 1)]) (by simp [results, Try.results42, go_sem]) rfl ⟨by rw [HY.out], HI1.out.bel⟩

set_option maxHeartbeats 4000000 in
set_option maxRecDepth 100000 in
theorem rf_g1 (F : Fm) (ih : HR F) (m : Nat → Bool) (l : List UInt8) (a z : Nat) (e : Nat → Nat) (aN : Option Addr) (n cN : Nat) (aM : Option Addr) (cM : Nat) (nx mk : Nat → Nat) (k : Nat) (W : World) (hl : l.length ≤ 5000) (hA : At m l a (.fix true 1 F) z) (hk : Wk W aN n aM nx mk) (hE : EnvOk n e)
    (hkn : k ≤ n) (hF : First (fun X => den n nx mk F (upd e 1 X)) (beg true n) k) :
    Calls Try.prog 42 #[wkV aN n cN aM n cM, .string (st l), .int .i64 (a : Nat), S3 e] W fun r w' => r = .returned (.tuple #[.int .i64 (iter (fun X => den n nx mk F (upd e 1 X)) (beg true n) k : Nat), .int .i64 (z : Nat), .int .i64 ((k : Int) + 1)]) ∧ Below W.heap.size W w' := by
  obtain ⟨ha, hx⟩ := at_head hA (x := 103) (t := 121 :: str F) rfl
  obtain ⟨ha1, hx1⟩ := at_head2 hA (x := 103) (y := 121) (t := str F) rfl
  have hA1 := at_fix_part hA
  have h6 := hk.n6
  have hle := hA.le
  have H1 : Hid (∀ X w, X < 2 ^ n → Below W.heap.size W w → Calls Try.prog 39 #[wkV aN n cN aM n cM, .string (st l), .int .i64 ((a : Int) + 2), .agg #[.int .i64 (e 0 : Nat), .int .i64 (X : Nat), .int .i64 (e 2 : Nat)]] w fun r w' => r = .returned (.tuple #[.int .i64 (den n nx mk F (upd e 1 X) : Nat), .int .i64 (z : Nat)]) ∧ Below w.heap.size w w') := by
    intro X w hX hb
    have := ih _ l (a + 2) z (upd e 1 X) aN n cN aM cM nx mk w hl hA1 (hk.keep (Nat.le_refl _) hb) (hE.upd 1 hX)
    rw [show ((a + 2 : Nat) : Int) = (a : Int) + 2 by omega] at this
    exact this
  have HIt : Hid (∀ i, iter (fun X => den n nx mk F (upd e 1 X)) (beg true n) i < 2 ^ n) := iter_lt (fun X hX => den_lt F (hE.upd 1 hX)) (beg_lt true n)
  have HFst := Lib.hid hF
  have hw := Lib.hid (wrap_full (show n ≤ 9 by omega))
  have hs : (st l).size = l.length := st_size l
  have hg : ∀ h : a < (st l).size, (st l)[a] = 103 := fun h => hx
  have hgb : ∀ h : a + 1 < (st l).size, (st l)[a + 1] = 121 := fun h => hx1
  have hsz : (st l).size ≤ 5000 := by omega
  have has : a < (st l).size := by omega
  have has1 : a + 1 < (st l).size := by omega
  have hi0 := HInv.start (aN := aN) (n := n) (cN := cN) (aM := aM) (cM := cM) (e := upd e 1 (e 1)) (W := W)
  have HI0 : Hid (HInv aN n cN aM cM (upd e 1 (e 1)) W ((W.alloc (.cells #[.slice aN n cN, .slice aM n cM] 24)).alloc (.cells #[.int .i64 (e 0 : Nat), .int .i64 (e 1 : Nat), .int .i64 (e 2 : Nat)] 55))) := by rw [upd_self] at hi0 ⊢; exact hi0
  have hk6 : k ≤ 6 := by omega
  have hz5 : z ≤ 5000 := by omega
  generalize st l = L at *
  have hg' := hg has
  have hgb' := hgb has1
  generalize hFF : (fun X => den n nx mk F (upd e 1 X)) = FF at *
  have HFF : Hid (∀ X, den n nx mk F (upd e 1 X) = FF X) := fun X => by rw [← hFF]
  clear hx hs hl hA hk hE hx1 hA1 hi0 hF hle hFF
  have HBeg : Hid (beg true n = 2 ^ n - 1) := rfl
  go_enter Try.func42, Try.ntmps42
  go_wp2
  rw [hw.out]
  go_loopw [11, 12] (fun sv kv wr => ∃ i : Nat, i ≤ k ∧ sv = .int .i64 ((iter FF (beg true n) i : Nat) : Int) ∧ kv = .int .i64 ((i : Int) + 1) ∧ ∃ Z, HInv aN n cN aM cM (upd e 1 Z) W wr) (fun _ kv _ => 7 - (intOf kv).toNat)
  case atStart => exact ⟨0, Nat.zero_le _, rfl, rfl, _, HI0.out⟩
  case round =>
    obtain ⟨i, hi, rfl, rfl, Z, hI⟩ := hrel
    have HI := Lib.hid hI
    have HIs := Lib.hid (hI.set1 (iter FF (beg true n) i))
    have hX := HIt.out i
    have HE : Hid (FF (iter FF (beg true n) i) = iter FF (beg true n) (i + 1)) := rfl
    have H1x := Lib.hid (H1.out (iter FF (beg true n) i))
    rw [HFF.out, HE.out] at H1x
    obtain ⟨q0, q1, q2, q3, q4⟩ := hI.cells
    have f := block_free hI.b1 1
    have hsz1 : W.heap.size + 1 < wr.heap.size := (Array.getElem?_eq_some_iff.1 hI.b1).1
    have p2 : wr.cell? ⟨W.heap.size + 1, 0, none⟩ = some (.int .i64 (e 0 : Nat)) := q2
    have p3 : wr.cell? ⟨W.heap.size + 1, 1, none⟩ = some (.int .i64 (Z : Nat)) := q3
    have p4 : wr.cell? ⟨W.heap.size + 1, 2, none⟩ = some (.int .i64 (e 2 : Nat)) := q4
    clear q2 q3 q4 hI
    have h4 := two_le6 h6
    by_cases hlt : i < k
    · have hne : ¬ ((iter FF (beg true n) (i + 1) : Nat) : Int) = ((iter FF (beg true n) i : Nat) : Int) := by
        have := HFst.out.2 i hlt
        rw [HE.out] at this
        omega
      have h3 := HIt.out (i + 1)
      obtain ⟨Y, hY⟩ : ∃ Y, iter FF (beg true n) i = Y := ⟨_, rfl⟩
      obtain ⟨V, hV⟩ : ∃ V, iter FF (beg true n) (i + 1) = V := ⟨_, rfl⟩
      rw [hY] at hX hne HIs H1x ⊢
      rw [hV] at h3 hne H1x
      have HV := Lib.hid hV
      have H1y := Lib.hid (H1x.out _ hX HIs.out.bel)
      clear hY hV H1x
      go_wp2_with (first | (go_at_call 39; refine H1y.out.mono ?_) | go_in)
      rintro r w1 ⟨rfl, hb⟩
      have HI1 := Lib.hid (HIs.out.keep hb)
      clear hb q0 q1 p2 p3 p4 f
      go_wp2
      go_roundw
      case rel => exact ⟨i + 1, by omega, by rw [HV.out], by go_num, _, HI1.out⟩
      case measure => simp [intOf]; omega
    · obtain rfl : i = k := by omega
      have he := HFst.out.1
      rw [HE.out] at he
      rw [he] at H1x
      obtain ⟨Y, hY⟩ : ∃ Y, iter FF (beg true n) i = Y := ⟨_, rfl⟩
      rw [hY] at hX HIs H1x ⊢
      have HY := Lib.hid hY
      have H1y := Lib.hid (H1x.out _ hX HIs.out.bel)
      clear hY H1x he
      go_wp2_with (first | (go_at_call 39; refine H1y.out.mono ?_) | go_in)
      rintro r w1 ⟨rfl, hb⟩
      have HI1 := Lib.hid (HIs.out.keep hb)
      clear hb q0 q1 p2 p3 p4 f
      go_wp2
      exact bodyPost_ret (v := .tuple #[.int .i64 (Y : Int), .int .i64 (z : Nat), .int .i64 ((i : Int) + 1)]) (by simp [results, Try.results42, go_sem]) rfl ⟨by rw [HY.out], HI1.out.bel⟩

set_option maxHeartbeats 4000000 in
set_option maxRecDepth 100000 in
theorem rf_g2 (F : Fm) (ih : HR F) (m : Nat → Bool) (l : List UInt8) (a z : Nat) (e : Nat → Nat) (aN : Option Addr) (n cN : Nat) (aM : Option Addr) (cM : Nat) (nx mk : Nat → Nat) (k : Nat) (W : World) (hl : l.length ≤ 5000) (hA : At m l a (.fix true 2 F) z) (hk : Wk W aN n aM nx mk) (hE : EnvOk n e)
    (hkn : k ≤ n) (hF : First (fun X => den n nx mk F (upd e 2 X)) (beg true n) k) :
    Calls Try.prog 42 #[wkV aN n cN aM n cM, .string (st l), .int .i64 (a : Nat), S3 e] W fun r w' => r = .returned (.tuple #[.int .i64 (iter (fun X => den n nx mk F (upd e 2 X)) (beg true n) k : Nat), .int .i64 (z : Nat), .int .i64 ((k : Int) + 1)]) ∧ Below W.heap.size W w' := by
  obtain ⟨ha, hx⟩ := at_head hA (x := 103) (t := 122 :: str F) rfl
  obtain ⟨ha1, hx1⟩ := at_head2 hA (x := 103) (y := 122) (t := str F) rfl
  have hA1 := at_fix_part hA
  have h6 := hk.n6
  have hle := hA.le
  have H1 : Hid (∀ X w, X < 2 ^ n → Below W.heap.size W w → Calls Try.prog 39 #[wkV aN n cN aM n cM, .string (st l), .int .i64 ((a : Int) + 2), .agg #[.int .i64 (e 0 : Nat), .int .i64 (e 1 : Nat), .int .i64 (X : Nat)]] w fun r w' => r = .returned (.tuple #[.int .i64 (den n nx mk F (upd e 2 X) : Nat), .int .i64 (z : Nat)]) ∧ Below w.heap.size w w') := by
    intro X w hX hb
    have := ih _ l (a + 2) z (upd e 2 X) aN n cN aM cM nx mk w hl hA1 (hk.keep (Nat.le_refl _) hb) (hE.upd 2 hX)
    rw [show ((a + 2 : Nat) : Int) = (a : Int) + 2 by omega] at this
    exact this
  have HIt : Hid (∀ i, iter (fun X => den n nx mk F (upd e 2 X)) (beg true n) i < 2 ^ n) := iter_lt (fun X hX => den_lt F (hE.upd 2 hX)) (beg_lt true n)
  have HFst := Lib.hid hF
  have hw := Lib.hid (wrap_full (show n ≤ 9 by omega))
  have hs : (st l).size = l.length := st_size l
  have hg : ∀ h : a < (st l).size, (st l)[a] = 103 := fun h => hx
  have hgb : ∀ h : a + 1 < (st l).size, (st l)[a + 1] = 122 := fun h => hx1
  have hsz : (st l).size ≤ 5000 := by omega
  have has : a < (st l).size := by omega
  have has1 : a + 1 < (st l).size := by omega
  have hi0 := HInv.start (aN := aN) (n := n) (cN := cN) (aM := aM) (cM := cM) (e := upd e 2 (e 2)) (W := W)
  have HI0 : Hid (HInv aN n cN aM cM (upd e 2 (e 2)) W ((W.alloc (.cells #[.slice aN n cN, .slice aM n cM] 24)).alloc (.cells #[.int .i64 (e 0 : Nat), .int .i64 (e 1 : Nat), .int .i64 (e 2 : Nat)] 55))) := by rw [upd_self] at hi0 ⊢; exact hi0
  have hk6 : k ≤ 6 := by omega
  have hz5 : z ≤ 5000 := by omega
  generalize st l = L at *
  have hg' := hg has
  have hgb' := hgb has1
  generalize hFF : (fun X => den n nx mk F (upd e 2 X)) = FF at *
  have HFF : Hid (∀ X, den n nx mk F (upd e 2 X) = FF X) := fun X => by rw [← hFF]
  clear hx hs hl hA hk hE hx1 hA1 hi0 hF hle hFF
  have HBeg : Hid (beg true n = 2 ^ n - 1) := rfl
  go_enter Try.func42, Try.ntmps42
  go_wp2
  rw [hw.out]
  go_loopw [11, 12] (fun sv kv wr => ∃ i : Nat, i ≤ k ∧ sv = .int .i64 ((iter FF (beg true n) i : Nat) : Int) ∧ kv = .int .i64 ((i : Int) + 1) ∧ ∃ Z, HInv aN n cN aM cM (upd e 2 Z) W wr) (fun _ kv _ => 7 - (intOf kv).toNat)
  case atStart => exact ⟨0, Nat.zero_le _, rfl, rfl, _, HI0.out⟩
  case round =>
    obtain ⟨i, hi, rfl, rfl, Z, hI⟩ := hrel
    have HI := Lib.hid hI
    have HIs := Lib.hid (hI.set2 (iter FF (beg true n) i))
    have hX := HIt.out i
    have HE : Hid (FF (iter FF (beg true n) i) = iter FF (beg true n) (i + 1)) := rfl
    have H1x := Lib.hid (H1.out (iter FF (beg true n) i))
    rw [HFF.out, HE.out] at H1x
    obtain ⟨q0, q1, q2, q3, q4⟩ := hI.cells
    have f := block_free hI.b1 2
    have hsz1 : W.heap.size + 1 < wr.heap.size := (Array.getElem?_eq_some_iff.1 hI.b1).1
    have p2 : wr.cell? ⟨W.heap.size + 1, 0, none⟩ = some (.int .i64 (e 0 : Nat)) := q2
    have p3 : wr.cell? ⟨W.heap.size + 1, 1, none⟩ = some (.int .i64 (e 1 : Nat)) := q3
    have p4 : wr.cell? ⟨W.heap.size + 1, 2, none⟩ = some (.int .i64 (Z : Nat)) := q4
    clear q2 q3 q4 hI
    have h4 := two_le6 h6
    by_cases hlt : i < k
    · have hne : ¬ ((iter FF (beg true n) (i + 1) : Nat) : Int) = ((iter FF (beg true n) i : Nat) : Int) := by
        have := HFst.out.2 i hlt
        rw [HE.out] at this
        omega
      have h3 := HIt.out (i + 1)
      obtain ⟨Y, hY⟩ : ∃ Y, iter FF (beg true n) i = Y := ⟨_, rfl⟩
      obtain ⟨V, hV⟩ : ∃ V, iter FF (beg true n) (i + 1) = V := ⟨_, rfl⟩
      rw [hY] at hX hne HIs H1x ⊢
      rw [hV] at h3 hne H1x
      have HV := Lib.hid hV
      have H1y := Lib.hid (H1x.out _ hX HIs.out.bel)
      clear hY hV H1x
      go_wp2_with (first | (go_at_call 39; refine H1y.out.mono ?_) | go_in)
      rintro r w1 ⟨rfl, hb⟩
      have HI1 := Lib.hid (HIs.out.keep hb)
      clear hb q0 q1 p2 p3 p4 f
      go_wp2
      go_roundw
      case rel => exact ⟨i + 1, by omega, by rw [HV.out], by go_num, _, HI1.out⟩
      case measure => simp [intOf]; omega
    · obtain rfl : i = k := by omega
      have he := HFst.out.1
      rw [HE.out] at he
      rw [he] at H1x
      obtain ⟨Y, hY⟩ : ∃ Y, iter FF (beg true n) i = Y := ⟨_, rfl⟩
      rw [hY] at hX HIs H1x ⊢
      have HY := Lib.hid hY
      have H1y := Lib.hid (H1x.out _ hX HIs.out.bel)
      clear hY H1x he
      go_wp2_with (first | (go_at_call 39; refine H1y.out.mono ?_) | go_in)
      rintro r w1 ⟨rfl, hb⟩
      have HI1 := Lib.hid (HIs.out.keep hb)
      clear hb q0 q1 p2 p3 p4 f
      go_wp2
      exact bodyPost_ret (v := .tuple #[.int .i64 (Y : Int), .int .i64 (z : Nat), .int .i64 ((i : Int) + 1)]) (by simp [results, Try.results42, go_sem]) rfl ⟨by rw [HY.out], HI1.out.bel⟩
end Go.Proofs.Ytkbbijhknbcflaa
