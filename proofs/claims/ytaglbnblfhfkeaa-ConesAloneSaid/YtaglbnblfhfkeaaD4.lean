import Derived.Test.YtaglbnblfhfkeaaD3
namespace Go.Proofs.Ytaglbnblfhfkeaa
open Go.RowKit

def firstTo : Nat → List Vec
  | 0 => []
  | k + 1 => firstTo k ++ [stepTo Vec.zero k 1, stepTo Vec.zero k (-1)]
theorem firstTo_len : ∀ k, (firstTo k).length = 2 * k
  | 0 => rfl
  | k + 1 => by simp only [firstTo, List.length_append, firstTo_len k]; simp; omega
theorem mem_firstTo {v : Vec} : ∀ {k : Nat}, v ∈ firstTo k ↔ ∃ j, j < k ∧ (v = stepTo Vec.zero j 1 ∨ v = stepTo Vec.zero j (-1))
  | 0 => by simp [firstTo]
  | k + 1 => by
    rw [firstTo, List.mem_append, mem_firstTo]
    simp only [List.mem_cons, List.not_mem_nil, or_false]
    constructor
    · rintro (⟨j, hj, h⟩ | h)
      · exact ⟨j, by omega, h⟩
      · exact ⟨k, by omega, h⟩
    · rintro ⟨j, hj, h⟩
      by_cases e : j = k
      · subst e; exact Or.inr h
      · exact Or.inl ⟨j, by omega, h⟩
theorem firstTo_nodup : ∀ k, k ≤ 4 → (firstTo k).Nodup := by
  intro k hk
  have : k = 0 ∨ k = 1 ∨ k = 2 ∨ k = 3 ∨ k = 4 := by omega
  rcases this with rfl | rfl | rfl | rfl | rfl <;> decide

theorem OwnV.snoc2 {w : World} {base : Nat} {val : Value} {l : List Vec} {u v : Vec} (h : w.ownsRow base 61 4 val (l.length + 2) (l.flatMap vcell ++ (vcell u ++ vcell v))) : OwnV w base val (l ++ [u, v]) := by
  simpa [OwnV] using h

theorem eight_new (w : World) (u v : Vec) (T : TypeId) : ∀ j x, (vcell u ++ vcell v)[j]? = some x →
    (w.alloc (.cells #[.int .i64 u.a, .int .i64 u.b, .int .i64 u.c, .int .i64 u.d, .int .i64 v.a, .int .i64 v.b, .int .i64 v.c, .int .i64 v.d] T)).cell? ((⟨w.heap.size, 0, none⟩ : Addr).add j) = some x := by
  intro j x hj
  rw [add_at, World.cell?_alloc_at _ _ _ _ rfl, Nat.zero_add]
  match j, hj with
  | 0, hj | 1, hj | 2, hj | 3, hj | 4, hj | 5, hj | 6, hj | 7, hj => simpa [vcell] using hj
  | _ + 8, hj => simp [vcell] at hj
theorem eight_ok (u v : Vec) : ∀ x ∈ vcell u ++ vcell v, x.oneCell' = true := by
  intro x hx
  rcases List.mem_append.1 hx with h | h
  · exact four_ok _ _ h
  · exact four_ok _ _ h

set_option maxHeartbeats 4000000 in
set_option maxRecDepth 100000 in
theorem firstSteps_any (m : Mx) (w : World) (hn : m.n ≤ 4) :
    Calls Try.prog 92 #[.agg #[.int .i64 (m).r0.a, .int .i64 (m).r0.b, .int .i64 (m).r0.c, .int .i64 (m).r0.d, .int .i64 (m).r1.a, .int .i64 (m).r1.b, .int .i64 (m).r1.c, .int .i64 (m).r1.d, .int .i64 ((m).n : Int)]] w fun e w' => ∃ val, e = .returned val ∧ OwnV w' w.heap.size val (firstTo m.n) ∧ Below w.heap.size w w' := by
  have hb0 := Lib.hid ((Below.refl w.heap.size w).alloc (Nat.le_refl _) (.cells #[.int .i64 (m).r0.a, .int .i64 (m).r0.b, .int .i64 (m).r0.c, .int .i64 (m).r0.d, .int .i64 (m).r1.a, .int .i64 (m).r1.b, .int .i64 (m).r1.c, .int .i64 (m).r1.d, .int .i64 ((m).n : Int)] 64))
  have hz : near 1000000000 Vec.zero := by simp [near, Vec.zero]
  have HZ := Lib.hid hz
  clear hz
  go_enter Try.func92, Try.ntmps92
  go_wp2
  obtain ⟨W0, hW0⟩ : ∃ W0, W0 = w.alloc (.cells #[.int .i64 (m).r0.a, .int .i64 (m).r0.b, .int .i64 (m).r0.c, .int .i64 (m).r0.d, .int .i64 (m).r1.a, .int .i64 (m).r1.b, .int .i64 (m).r1.c, .int .i64 (m).r1.d, .int .i64 ((m).n : Int)] 64) := ⟨_, rfl⟩
  rw [← hW0]
  have HB0 : Hid (Below w.heap.size w W0) := by rw [hW0]; exact hb0.out
  have Hs0 : Hid (W0.heap.size = w.heap.size + 1) := by rw [hW0]; simp [Hid]
  clear hW0 hb0
  go_loopw [3, 7] (fun val i wr => ∃ k : Nat, k ≤ m.n ∧ i = .int .i64 k ∧ OwnV wr w.heap.size val (firstTo k) ∧ Below w.heap.size w wr) (fun _ i _ => m.n - (intOf i).toNat)
  case atStart => exact ⟨0, Nat.zero_le _, rfl, OwnV.nil _ _, HB0.out⟩
  case round =>
    obtain ⟨k, hk, rfl, hO, hb⟩ := hrel
    have HO := Lib.hid hO
    have HB := Lib.hid hb
    clear hO hb
    by_cases hlt : k < m.n
    · have hk4 : k < 4 := by omega
      have hlen := firstTo_len k
      have Hlen := Lib.hid hlen
      clear hlen
      go_wp2_with fail
      refine (vstep_any Vec.zero k 1 _ hk4 (by omega) HZ.out).mono ?_
      rintro e w1 ⟨rfl, hb1⟩
      have HB1 : Hid (Below w.heap.size w w1) := HB.out.trans (hb1.mono HB.out.size)
      have HO1 := Lib.hid (HO.out.keep hb1)
      clear hb1
      go_wp2_with fail
      refine (vstep_any Vec.zero k (-1) _ hk4 (by omega) HZ.out).mono ?_
      rintro e w2 ⟨rfl, hb2⟩
      have HB2 : Hid (Below w.heap.size w w2) := HB1.out.trans (hb2.mono HB1.out.size)
      have HO2 := Lib.hid (HO1.out.keep hb2)
      have hs2 := HB2.out.size
      have hl8 : (firstTo k).length ≤ 8 := by have := Hlen.out; omega
      clear hb2
      obtain ⟨i0, hi, hz0, hz1, hz2⟩ := info_parts Try.info61
      go_wp2_with (at_builtin; refine wpList_append_own _ rfl _ _ 67 rfl w.heap.size 61 i0 (.agg #[.int .i64 0, .int .i64 0, .int .i64 0, .int .i64 0]) 4 32 Try.underlying67 hi hz0 hz1 hz2 rfl (by decide) _ _ _ rfl (HO2.out.alloc _) ⟨w2.heap.size, 0, none⟩ 2 2 (vcell (stepTo Vec.zero k 1) ++ vcell (stepTo Vec.zero k (-1))) rfl rfl (eight_new _ _ _ _) (eight_ok _ _) (by unfold maxLen; omega) (by omega) (by simp; omega) ?_)
      intro v' w5 hown hgrow _
      have HO5 : Hid (OwnV w5 w.heap.size v' (firstTo (k + 1))) := OwnV.snoc2 hown
      have HB5 : Hid (Below w.heap.size w w5) := (HB2.out.alloc hs2 _).grown hgrow (by simp; omega) (fun k hk => (World.ownsRow.lt HO2.out k hk).1)
      clear hown hgrow
      go_wp2
      go_roundw
      case rel => exact ⟨_, by omega, by go_num, HO5.out, HB5.out⟩
      case measure => simp [intOf]; omega
    · have e : k = m.n := by omega
      subst e
      go_wp2
      go_ret
      exact ⟨_, rfl, HO.out, HB.out⟩
end Go.Proofs.Ytaglbnblfhfkeaa
