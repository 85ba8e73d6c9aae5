import Derived.Test.YtmbccdjoliegiaaM1
namespace Go.Proofs.Ytmbccdjoliegiaa
open Go.RowKit

/-- The columns' creases of a map. -/
def colN (n k : Nat) : List Tri := (List.range k).map fun (c : Nat) => (⟨2, (c : Int), ((n + c : Nat) : Int)⟩ : Tri)
theorem colN_snoc (n k : Nat) : colN n (k + 1) = colN n k ++ [⟨2, (k : Int), ((n + k : Nat) : Int)⟩] := by simp [colN, List.range_succ]
theorem colN_len (n k : Nat) : (colN n k).length = k := by simp [colN]
/-- The creases of a map. -/
def mapN (n : Nat) : List Tri := rowN 0 (n - 1) ++ rowN n (n - 1) ++ colN n n
theorem mapN_len (n : Nat) (h : 1 ≤ n) : (mapN n).length = 3 * n - 2 := by unfold mapN; rw [List.length_append, List.length_append, rowN_len, rowN_len, colN_len]; omega

theorem OwnT.some {e : TypeId} {w : World} {base : Nat} {v : Value} {l : List Tri} (h : OwnT e w base v l) (hl : 1 ≤ l.length) : ∃ g cap, v = .slice (Option.some ⟨g, 0, none⟩) l.length cap ∧ l.length ≤ cap ∧ cap ≤ maxLen := by
  rcases h.2 with ⟨_, h0⟩ | ⟨g, cp, cur, rfl, _, _, h1, h2, _⟩
  · omega
  · exact ⟨g, cp, rfl, h1, h2⟩
theorem OwnT.none {e : TypeId} {w : World} {base : Nat} {v : Value} (h : OwnT e w base v []) : v = .slice none 0 0 ∨ ∃ g cap, v = .slice (Option.some ⟨g, 0, none⟩) 0 cap := by
  rcases h.2 with ⟨h0, _⟩ | ⟨g, cp, cur, rfl, _⟩
  · exact Or.inl h0
  · exact Or.inr ⟨g, cp, rfl⟩

set_option maxHeartbeats 4000000 in
set_option maxRecDepth 100000 in
theorem twoRows_any (n : Nat) (w : World) (h2 : 2 ≤ n) (h4 : n ≤ 4) :
    Calls Try.prog 67 #[.int .i64 n] w fun e w' => ∃ a cap, e = .returned (.agg #[.int .i64 (2 * (n : Int)), .slice a (3 * n - 2) cap]) ∧ TriAt w' a (mapN n) ∧ 3 * n - 2 ≤ cap ∧ cap ≤ maxLen ∧ (∀ b o s, a = some ⟨b, o, s⟩ → w.heap.size < b ∧ b < w'.heap.size) ∧ Below w.heap.size w w' := by
  have HR : Hid (∀ f : Nat, f ≤ 100 → ∀ w, Calls Try.prog 69 #[.int .i64 f, .int .i64 n] w fun e w' => ∃ g cap, e = .returned (.slice (some ⟨g, 0, none⟩) (n - 1) cap) ∧ OwnT 84 w' w.heap.size (.slice (some ⟨g, 0, none⟩) (n - 1) cap) (rowN f (n - 1)) ∧ Below w.heap.size w w') := fun f hf w =>
    (row_any f n w hf (by omega) (by omega)).mono (by
      rintro e w' ⟨v, rfl, h1, hb⟩
      obtain ⟨g, cap, rfl, -, -⟩ := h1.some (by rw [rowN_len]; omega)
      rw [rowN_len] at h1 ⊢
      exact ⟨g, cap, rfl, h1, hb⟩)
  obtain ⟨i0, hi, hz0, hz1, hz2⟩ := info_parts Try.infoC
  have HR0 := HR.out 0 (by omega)
  go_enter Try.func67, Try.ntmps67
  go_wp2_with fail
  refine (HR0 _).mono ?_
  rintro e w1 ⟨g1, c1, rfl, hO1, hb1⟩
  have HO1 := Lib.hid hO1
  have HB1 := Lib.hid hb1
  clear hO1 hb1 HR0
  go_wp2_with fail
  refine (HR.out n (by omega) _).mono ?_
  rintro e w2 ⟨g2, c2, rfl, hO2, hb2⟩
  obtain ⟨w3, hw3⟩ : ∃ w3, w3 = w2.alloc (.cells #[.slice (some ⟨g1, 0, none⟩) (n - 1) c1, .slice (some ⟨g2, 0, none⟩) (n - 1) c2] 60) := ⟨_, rfl⟩
  have hb3 : Below w2.heap.size w2 w3 := by rw [hw3]; exact (Below.refl _ _).alloc (Nat.le_refl _) _
  have hs1 : w.heap.size + 1 ≤ w1.heap.size := by have := HB1.out.size; simpa using this
  have hs2 := hb2.size
  have hs3 : w3.heap.size = w2.heap.size + 1 := by rw [hw3]; simp
  have HB3 : Hid (Below (w.heap.size + 1) (w.alloc (.cells #[.int .i64 0, .slice none 0 0] 62)) w3) := by
    have h1 := HB1.out
    rw [World.size_alloc] at h1
    exact (h1.trans (hb2.mono hs1)).trans (hb3.mono (by omega))
  have hcc := concatC_any w2.heap.size 2 ⟨g1, 0, none⟩ ⟨g2, 0, none⟩ c1 c2 (n - 1) (n - 1) _ _ (rowN 0 (n - 1)) (rowN n (n - 1)) w3 (by omega) (by omega) (rowN_len _ _) (rowN_len _ _) ((HO1.out.keep hb2).keep hb3) (hO2.keep hb3)
    (by rw [hw3]; exact block_cell (heap_alloc_new w2 _) 0) (by rw [hw3]; exact block_cell (heap_alloc_new w2 _) 1)
  have HC := Lib.hid hcc
  clear hO2 hb2 hb3 hcc HO1 HB1
  go_wp2_with fail
  rw [← hw3]
  clear hw3
  refine HC.out.mono ?_
  rintro e w4 ⟨v4, rfl, hO4, hb4⟩
  have HO4 := Lib.hid hO4
  have HB4 : Hid (Below (w.heap.size + 1) (w.alloc (.cells #[.int .i64 0, .slice none 0 0] 62)) w4) := HB3.out.trans (hb4.mono (by omega))
  have hs4 := hb4.size
  clear hO4 hb4 HC
  go_wp2
  go_loopw [3, 13] (fun v i wr => ∃ k : Nat, k ≤ n ∧ i = .int .i64 k ∧ OwnT 84 wr w3.heap.size v (rowN 0 (n - 1) ++ rowN n (n - 1) ++ colN n k) ∧ Below w3.heap.size w4 wr) (fun _ i _ => n - (intOf i).toNat)
  case atStart => exact ⟨0, Nat.zero_le _, rfl, by simpa [colN] using HO4.out, Below.refl _ _⟩
  case round =>
    obtain ⟨k, hk, rfl, hO, hb⟩ := hrel
    have HO := Lib.hid hO
    have HB := Lib.hid hb
    have hBs := hb.size
    clear hO hb
    by_cases hlt : k < n
    · obtain ⟨l, hl⟩ : ∃ l, l = rowN 0 (n - 1) ++ rowN n (n - 1) ++ colN n k := ⟨_, rfl⟩
      have hll : l.length ≤ 100 := by rw [hl, List.length_append, List.length_append, rowN_len, rowN_len, colN_len]; omega
      have HL : Hid (rowN 0 (n - 1) ++ rowN n (n - 1) ++ colN n (k + 1) = l ++ [⟨2, (k : Int), (n : Int) + k⟩]) := by rw [Hid, colN_snoc, ← List.append_assoc, ← hl]; simp
      rw [← hl] at HO
      clear hl
      go_wp2_with (at_builtin; refine wpList_append_own _ rfl _ _ 60 rfl w3.heap.size 84 i0 (.agg #[.int .i64 0, .int .i64 0, .int .i64 0]) 3 24 Try.underlying60 hi hz0 hz1 hz2 rfl (by decide) _ _ _ rfl (HO.out.alloc _) ⟨wr.heap.size, 0, none⟩ 1 1 (tcell ⟨2, (k : Int), (n : Int) + k⟩) rfl rfl (three_new _ _ _) (three_ok _) (by unfold maxLen; omega) (by omega) (by simp; omega) ?_)
      intro v' w5 hown hgrow _
      rw [← hs3] at hown
      have HO5 : Hid (OwnT 84 w5 w3.heap.size v' (rowN 0 (n - 1) ++ rowN n (n - 1) ++ colN n (k + 1))) := by rw [HL.out]; exact OwnT.snoc hown
      have HB5 : Hid (Below w3.heap.size w4 w5) := (HB.out.alloc (by omega) _).grown hgrow (by simp; omega) (fun k hk => (World.ownsRow.lt HO.out k hk).1)
      clear hown hgrow
      go_wp2
      go_roundw
      case rel => exact ⟨k + 1, by omega, by go_num, HO5.out, HB5.out⟩
      case measure => simp [intOf]; omega
    · have e : k = n := by omega
      have HO2 : Hid (OwnT 84 wr w3.heap.size u3 (mapN n)) := by rw [e] at HO; exact HO.out
      obtain ⟨a, cap, rfl, -, hc1, hc2, -⟩ := HO2.out.read
      rw [mapN_len n (by omega)] at hc1 HO2 ⊢
      have HC1 := Lib.hid hc1
      have HC2 := Lib.hid hc2
      clear hc1 hc2 HO
      have hge : (n : Int) ≤ k := by omega
      clear e
      have HBr : Hid (Below (w.heap.size + 1) (w.alloc (.cells #[.int .i64 0, .slice none 0 0] 62)) wr) := HB4.out.trans (HB.out.mono (by omega))
      have hblk : wr.heap[w.heap.size]? = some (.cells #[.int .i64 0, .slice none 0 0] 62) := (HBr.out.block w.heap.size (Nat.lt_succ_self _)).trans (heap_alloc_new w _)
      have c0 := block_cell hblk 0
      have c1 := block_cell hblk 1
      have f0 := block_free hblk 0
      have f1 := block_free hblk 1
      simp at c0 c1
      have HK := Lib.hid hblk
      clear hblk
      go_wp2
      have hB2 : Below w.heap.size w ((wr.setCell ⟨w.heap.size, 0, none⟩ (.int .i64 (2 * (n : Int)))).setCell ⟨w.heap.size, 1, none⟩ (.slice a (3 * n - 2) cap)) :=
        ((((Below.refl _ w).alloc (Nat.le_refl _) _).trans (HBr.out.mono (by simp))).setCell (Nat.le_refl _) _).setCell (Nat.le_refl _) _
      have hO2 : OwnT 84 ((wr.setCell ⟨w.heap.size, 0, none⟩ (.int .i64 (2 * (n : Int)))).setCell ⟨w.heap.size, 1, none⟩ (.slice a (3 * n - 2) cap)) w3.heap.size (.slice a (3 * n - 2) cap) (mapN n) :=
        own_set (own_set HO2.out (by show w.heap.size < _; omega) _) (by show w.heap.size < _; omega) _
      obtain ⟨a', cap', he, hT, _, _, hlt2⟩ := hO2.read
      injection he with he1 he2 he3
      subst he1
      exact bodyPost_ret (v := .agg #[.int .i64 (2 * (n : Int)), .slice a (3 * n - 2) cap]) (by simp [results, Try.results67, go_sem, c0, c1]) rfl ⟨a, cap, rfl, hT, HC1.out, HC2.out, fun b o s h => by have := hlt2 b o s h; omega, hB2⟩

end Go.Proofs.Ytmbccdjoliegiaa
