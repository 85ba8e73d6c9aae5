import Derived.Test.YtfommfgokpiieaaDoorG4
import Derived.Test.YtfommfgokpiieaaDoorX4
namespace Go.Proofs.YtfommfgokpiieaaDoor
open Go.RowKit Go.Shelf

theorem facL_mem {s : ByteArray} {x : Fa} (h : x ∈ facL s) : x.k < s.size ∧ 1 ≤ x.a ∧ 1 ≤ x.b ∧ x.a + x.b ≤ s.size / 2 ∧ isF s x.k x.a x.b = true := by
  simp only [facL, facK, facA, facRow, List.mem_flatMap, List.mem_map, List.mem_filter, List.mem_range] at h
  obtain ⟨k, hk, i, hi, j, ⟨hj, hF⟩, rfl⟩ := h
  exact ⟨hk, by simp, by simp, by simp; omega, hF⟩

theorem step_odd {b : UInt8} (h : isL b = true) : sx b + sy b = 1 ∨ sx b + sy b = -1 := by
  rcases isL_or h with rfl | rfl | rfl | rfl <;> decide
/-- An outline's length is even. -/
theorem par_at {l : List UInt8} (h : wordB l = true) : ∀ k : Nat, k ≤ l.length → ∃ m : Int, px l k + py l k + k = 2 * m
  | 0, _ => ⟨0, by simp [px, py]⟩
  | k + 1, hk => by
    obtain ⟨m, hm⟩ := par_at h k (by omega)
    rcases step_odd (wordB_at h (show k < l.length by omega)) with e | e
    · exact ⟨m + 1, by simp only [px, py]; push_cast; omega⟩
    · exact ⟨m, by simp only [px, py]; push_cast; omega⟩
theorem out_even {l : List UInt8} (h : outB l = true) : l.length = 2 * (l.length / 2) := by
  obtain ⟨h1, _, ⟨h2, h3⟩, _⟩ := outB_iff.1 h
  obtain ⟨m, hm⟩ := par_at h1 l.length (Nat.le_refl _)
  rw [h2, h3] at hm
  omega

theorem back_mid (L : List UInt8) (i j n : Nat) (hn : L.length = n) (hij : i ≤ j) (hj : j ≤ n) : ((backL L).take (n - i)).drop (n - j) = backL ((L.take j).drop i) := by
  have e : L = L.take i ++ ((L.take j).drop i ++ L.drop j) := by
    rw [← List.append_assoc]
    have : L.take i = (L.take j).take i := by rw [List.take_take, Nat.min_eq_left hij]
    rw [this, List.take_append_drop, List.take_append_drop]
  have hB : backL L = backL (L.drop j) ++ backL ((L.take j).drop i) ++ backL (L.take i) := by
    rw [← backL_append, ← backL_append, ← e]
  rw [hB]
  have l1 : (backL (L.drop j)).length = n - j := by rw [backL_len, List.length_drop, hn]
  have l2 : (backL ((L.take j).drop i)).length = j - i := by rw [backL_len, List.length_drop, List.length_take, hn]; omega
  rw [List.take_left' (by rw [List.length_append, l1, l2]; omega), List.drop_left' l1]
theorem backs_eq (s : ByteArray) (k a b h : Nat) (L : List UInt8) (hL : turnL s.data.toList k = L) (hk : k ≤ s.size) (hh : s.size = 2 * h) (hab : a + b ≤ h) :
    backsB (bkB s k) a b = ⟨(backL (L.take a)).toArray⟩ ++ ⟨(backL ((L.take (a + b)).drop a)).toArray⟩ ++ ⟨(backL ((L.take h).drop (a + b))).toArray⟩ := by
  have hs := bkB_size s k hk
  have hd : (bkB s k).data.toList = backL L := by unfold bkB; rw [hL]
  have hn : L.length = 2 * h := by
    rw [← backL_len, ← hd]
    show (bkB s k).size = _
    omega
  have e1 := back_mid L 0 a (2 * h) hn (by omega) (by omega)
  have e2 := back_mid L a (a + b) (2 * h) hn (by omega) (by omega)
  have e3 := back_mid L (a + b) h (2 * h) hn (by omega) (by omega)
  rw [List.drop_zero] at e1
  apply ByteArray.ext
  apply Array.toList_inj.1
  unfold backsB
  simp only [ByteArray.data_append, Array.toList_append, extract_list _ _ hd]
  rw [hs, hh, ← e1, ← e2, ← e3, show 2 * h - a - b = 2 * h - (a + b) by omega, show 2 * h / 2 = 2 * h - h by omega, Nat.sub_zero]

set_option maxRecDepth 100000 in
set_option maxHeartbeats 4000000 in
theorem isf_any (s : ByteArray) (l : List UInt8) (k a b h : Nat) (r : Bool) (w : World) (hl : s.data.toList = l) (hw : wordB l = true) (hh : s.size = 2 * h) (hk : k < s.size) (ha : 1 ≤ a) (hb : 1 ≤ b) (hab : a + b ≤ h) (hF : isF s k a b = r) :
    Calls Tryd.prog 61 #[.string s, .agg #[.int .i64 k, .int .i64 a, .int .i64 b, .int .i64 ((h : Int) - a - b)]] w fun e w' => e = .returned (.bool r) ∧ Below w.heap.size w w' := by
  have hs : s.size ≤ 24 := by have := (wordB_iff.1 hw).1; rw [← hl] at this; exact this
  obtain ⟨L, hL⟩ : ∃ L, turnL s.data.toList k = L := ⟨_, rfl⟩
  have hLw : wordB L = true := by rw [← hL, hl]; exact turnL_word hw k
  have hpart : ∀ i j, wordB ((L.take j).drop i) = true := fun i j => by
    obtain ⟨h1, h2⟩ := wordB_iff.1 hLw
    exact wordB_iff.2 ⟨by rw [List.length_drop, List.length_take]; omega, fun b hb => h2 b (List.mem_of_mem_take (List.mem_of_mem_drop hb))⟩
  obtain ⟨t, ht⟩ : ∃ t, turnB s k = t := ⟨_, rfl⟩
  have htl : t.data.toList = L := by rw [← ht, turnB_list, hL]
  have hts : t.size = 2 * h := by rw [← ht, turnB_size s k (by omega), hh]
  have htk : s.extract k s.size ++ s.extract 0 k = t := by rw [← ht]; rfl
  obtain ⟨c, hc⟩ : ∃ c, a + b = c := ⟨_, rfl⟩
  have HB1 := Lib.hid (fun W => back_r (t.extract 0 a) ((L.take a).drop 0) W (extract_list t L htl 0 a) (hpart _ _))
  have HB2 := Lib.hid (fun W => back_r (t.extract a c) ((L.take c).drop a) W (extract_list t L htl a c) (hpart _ _))
  have HB3 := Lib.hid (fun W => back_r (t.extract c h) ((L.take h).drop c) W (extract_list t L htl c h) (hpart _ _))
  have HEq : Hid (decide ((t.extract h t.size).toList = (⟨(backL ((L.take a).drop 0)).toArray⟩ ++ ⟨(backL ((L.take c).drop a)).toArray⟩ ++ ⟨(backL ((L.take h).drop c)).toArray⟩ : ByteArray).toList) = r) := by
    unfold isF at hF
    rw [ht, backs_eq s k a b h L hL (by omega) hh hab, hc, hh, show 2 * h / 2 = h by omega] at hF
    rw [List.drop_zero, hts]
    exact hF
  have HLn := Lib.hid (show (backL ((L.take a).drop 0)).length ≤ 24 ∧ (backL ((L.take c).drop a)).length ≤ 24 ∧ (backL ((L.take h).drop c)).length ≤ 24 from by
    have h1 := (wordB_iff.1 hLw).1
    simp only [backL_len, List.length_drop, List.length_take]; omega)
  obtain ⟨p1, p2, p3⟩ := HLn.out
  clear HLn
  rw [← mk_size] at p1 p2 p3
  generalize (⟨(backL ((L.take a).drop 0)).toArray⟩ : ByteArray) = u1 at HB1 HEq p1
  generalize (⟨(backL ((L.take c).drop a)).toArray⟩ : ByteArray) = u2 at HB2 HEq p2
  generalize (⟨(backL ((L.take h).drop c)).toArray⟩ : ByteArray) = u3 at HB3 HEq p3
  have Ho1 : Hid (¬ 9223372036854775807 < u1.size + u2.size) := by simp only [Hid]; omega
  have Ho2 : Hid (¬ 9223372036854775807 < u1.size + u2.size + u3.size) := by simp only [Hid]; omega
  clear p1 p2 p3
  have HTk := Lib.hid htk
  have HTs := Lib.hid hts
  have k1 : ¬ (k : Int) < 0 := by omega
  have k2 : ¬ (s.size : Int) ≤ k := by omega
  have e3 : (s.size : Int) / 2 = h := by omega
  have a1 : ¬ (a : Int) < 1 := by omega
  have a2 : ¬ h < a := by omega
  have b1 : ¬ (b : Int) < 1 := by omega
  have b2 : ¬ h < b := by omega
  have c1 : ¬ (h : Int) - a - b < 0 := by omega
  have c2 : ¬ (h : Int) < h - a - b := by omega
  have c3 : (a : Int) + b + (h - a - b) = h := by omega
  have Hc : Hid ((a : Int) + b = c) := by simp only [Hid]; omega
  have HLe := Lib.hid (show a ≤ c ∧ c ≤ h ∧ k ≤ s.size ∧ h ≤ 12 from by omega)
  have Hhh := Lib.hid hh
  have h12 : h ≤ 12 := by omega
  clear hF hL hLw hpart ht htl hl hw htk hts hh
  go_enter Tryd.func61, Tryd.ntmps61
  go_wp2
  obtain ⟨W0, hW0⟩ : ∃ W0, W0 = w.alloc (.cells #[.int .i64 k, .int .i64 a, .int .i64 b, .int .i64 ((h : Int) - a - b)] 39) := ⟨_, rfl⟩
  rw [← hW0]
  have HBw : Hid (Below w.heap.size w W0) := by rw [Hid, hW0]; exact one_le _ _
  have hx : W0.heap[w.heap.size]? = some (.cells #[.int .i64 k, .int .i64 a, .int .i64 b, .int .i64 ((h : Int) - a - b)] 39) := by rw [hW0]; exact heap_alloc_new w _
  have HK : Hid (∀ v, Below W0.heap.size W0 v → v.cell? ⟨w.heap.size, 0, none⟩ = some (.int .i64 k) ∧ v.cell? ⟨w.heap.size, 1, none⟩ = some (.int .i64 a) ∧ v.cell? ⟨w.heap.size, 2, none⟩ = some (.int .i64 b)) := by
    intro v hv
    have hy := (hv.block _ (Array.getElem?_eq_some_iff.1 hx).1).trans hx
    exact ⟨block_cell hy 0, block_cell hy 1, block_cell hy 2⟩
  have HS0 := Lib.hid (HK.out _ (Below.refl _ _))
  obtain ⟨l1, l2, l3, l4⟩ := HLe.out
  have n1 : (k : Int) ≤ s.size := by omega
  have n2 : (0 : Int) ≤ k := by omega
  have n3 : (0 : Int) ≤ a := by omega
  have o1 : ¬ 9223372036854775807 < (s.extract k s.size).size + (s.extract 0 k).size := by
    rw [extract_size _ _ _ (Nat.le_refl _), extract_size _ _ _ (by omega)]; omega
  clear hW0 hx e3 c1 c2 c3 k1 k2 a1 a2 b1 b2
  obtain ⟨z0, z1, z2⟩ := HS0.out
  go_quiet (fail)
  rw [HTk.out]
  obtain ⟨W1, hW1⟩ : ∃ W1, W1 = W0.drewN nq := ⟨_, rfl⟩
  rw [← hW1]
  have HK1 : Hid (∀ v, Below W1.heap.size W1 v → v.cell? ⟨w.heap.size, 0, none⟩ = some (.int .i64 k) ∧ v.cell? ⟨w.heap.size, 1, none⟩ = some (.int .i64 a) ∧ v.cell? ⟨w.heap.size, 2, none⟩ = some (.int .i64 b)) := by
    intro v hv
    rw [hW1] at hv
    exact HK.out v (band (below_drewN (Below.refl _ _) _) hv)
  have HBw1 : Hid (Below w.heap.size w W1) := by rw [Hid, hW1]; exact below_drewN HBw.out _
  have HS1 := Lib.hid (HK1.out _ (Below.refl _ _))
  have Hab := Lib.hid hab
  have Hcc := Lib.hid hc
  have hts := HTs.out
  have q1 : (h : Int) ≤ t.size := by omega
  have q2 : (a : Int) ≤ t.size := by omega
  have q3 : (c : Int) ≤ t.size := by omega
  have q4 : (a : Int) ≤ c := by omega
  have q5 : (c : Int) ≤ h := by omega
  have q6 : (0 : Int) ≤ h := by omega
  have q7 : (0 : Int) ≤ c := by omega
  have q8 : c ≤ 12 := by omega
  have s1 : IntKind.i64.wrap ((a : Int) + b) = c := (IntWalk.i64_in _ (by omega)).trans Hc.out
  have o2 := Ho1.out
  have o3 := Ho2.out
  clear HS0 HK HBw z0 z1 z2 hab hc hts l1 l2 l3 l4 n1 n2 o1 hW1 hk ha hb
  go_wp2_with fail
  go_region_held3 (fun v => v.cell? ⟨w.heap.size, 0, none⟩ = some (.int .i64 k) ∧ v.cell? ⟨w.heap.size, 1, none⟩ = some (.int .i64 a) ∧ v.cell? ⟨w.heap.size, 2, none⟩ = some (.int .i64 b))
    (first
      | (go_split_ands; exact HS4.out)
      | (go_split_ands; exact HS3.out)
      | (go_split_ands; exact HS2.out)
      | (go_split_ands; exact HS1.out)
      | go_keep)
    ((first
      | (go_at_call 22; (with_reducible refine (HB1.out _).mono ?_); rintro r w1 ⟨rfl, hb⟩; have HBa := Lib.hid (below_drew1 hb); have HS2 := Lib.hid (HK1.out _ HBa.out); clear hb HB1)
      | (go_at_call 22; (with_reducible refine (HB2.out _).mono ?_); rintro r w2 ⟨rfl, hb⟩; have HBb := Lib.hid (band HBa.out hb); have HS3 := Lib.hid (HK1.out _ HBb.out); clear hb HB2)
      | (go_at_call 22; (with_reducible refine (HB3.out _).mono ?_); rintro r w3 ⟨rfl, hb⟩; have HBc := Lib.hid (band HBb.out hb); have HS4 := Lib.hid (HK1.out _ HBc.out); clear hb HB3)))
  have he : ((t.extract h t.size).toList == (u1 ++ u2 ++ u3).toList) = r := by
    rw [← HEq.out]
    exact Bool.eq_iff_iff.2 (by simp)
  rw [he]
  have HFin := Lib.hid (band HBw1.out HBc.out)
  clear he
  go_wp2
  go_ret
  exact ⟨rfl, HFin.out⟩
theorem isf_r (s : ByteArray) (l : List UInt8) (k a b h : Nat) (w : World) (hl : s.data.toList = l) (hw : wordB l = true) (hh : s.size = 2 * h) (hk : k < s.size) (ha : 1 ≤ a) (hb : 1 ≤ b) (hab : a + b ≤ h) (hF : isF s k a b = true) :
    Calls Tryd.prog 61 #[.string s, .agg #[.int .i64 k, .int .i64 a, .int .i64 b, .int .i64 ((h : Int) - a - b)]] w fun e w' => e = .returned (.bool true) ∧ Below w.heap.size w w' :=
  isf_any s l k a b h true w hl hw hh hk ha hb hab hF
end Go.Proofs.YtfommfgokpiieaaDoor
