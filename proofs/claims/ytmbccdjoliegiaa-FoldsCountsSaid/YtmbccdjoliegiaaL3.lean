import Derived.Test.YtmbccdjoliegiaaMath3
import Derived.Test.YtmbccdjoliegiaaL2
import Derived.Deep.RegionLaw
import Derived.Deep.AppendLies
namespace Go.Proofs.Ytmbccdjoliegiaa
open Go.RowKit

/-- Append onto a row of the call's own, as a step of a region that draws. -/
theorem step_append_own {P : Program} {ops : Array Oper} {o : Oper} {a : Act} {w : World} {K : Act → World → Prop} {Q : Exit → Act → World → Prop} {E : Prop}
    (hg : o.guard = none) (s x : Operand) (t : TypeId) (hop : o.op = Op.call { callee := Callee.builtin Builtin.append, args := #[s, x], argTypes := #[t, t] })
    (base : Nat) (e : TypeId) (i : TypeInfo) (z : Value) (size bytes : Nat) (h1 : P.underlying t = some (.slice e)) (h2 : P.info? e = some i) (h3 : i.zero = some z) (h4 : i.size = size) (h5 : i.bytes = bytes) (h6 : z.cells.size = size) (h7 : 0 < size)
    (v : Value) (n : Nat) (xs : List Value) (hs : a.eval s = v) (hown : w.ownsRow base e size v n xs)
    (ad : Addr) (m c : Nat) (news : List Value) (hx : a.eval x = .slice (some ad) m c) (hn : news.length = m * size) (hc : ∀ j u, news[j]? = some u → w.cell? (ad.add j) = some u) (h1c : ∀ u ∈ news, u.oneCell' = true)
    (b1 : n + m ≤ maxLen) (b2 : (n + m) * bytes ≤ 140737488355328) (hbase : base ≤ w.heap.size)
    (hK : ∀ v' w', w'.ownsRow base e size v' (n + m) (xs ++ news) → w.grownBy w' v.ownBlock → K (a.put o.dst v') w') :
    if Region.wanted o (yielded ops a.tmps) = true then Oper.wp P o a w K Q else E := by
  have hw : Region.wanted o (yielded ops a.tmps) = true := by simp [Region.wanted, hg]
  rw [if_pos hw]
  obtain ⟨v', w', hrun, r1, r2, _⟩ := run_append_own (P := P) w base t o.type e i z size bytes h1 h2 h3 h4 h5 h6 h7 v n xs hown ad m c news hn hc h1c b1 b2 hbase
  unfold Oper.wp
  simp [execOp, hop, resolve, invoke, builtin, hs, hx, hrun, Result.andThen]
  exact hK v' w' r1 r2

theorem mod_ok (x : Int) (n : Nat) (h1 : 1 ≤ n) (h7 : n ≤ 7) : ∃ k : Nat, k < n ∧ wrap64 ((IntKind.u64.wrap x).tmod n) = k := by
  have e : IntKind.u64.wrap x = x % 18446744073709551616 := by simp [IntKind.wrap, IntKind.bits, IntKind.signed]
  have h0 : 0 ≤ x % 18446744073709551616 := Int.emod_nonneg _ (by decide)
  rw [e, Int.tmod_eq_emod_of_nonneg h0]
  generalize x % 18446744073709551616 = y at h0
  have h2 : 0 ≤ y % (n : Int) := Int.emod_nonneg _ (by omega)
  have h3 : y % (n : Int) < n := Int.emod_lt_of_pos _ (by omega)
  refine ⟨(y % (n : Int)).toNat, by omega, ?_⟩
  rw [IntWalk.wrap64_in _ (by omega)]
  omega

theorem rot_row (n k : Nat) (z : Nat → Int) (hk : k < n) : (List.range (n - k)).map (fun j => Value.int .i64 (z (k + j))) ++ (List.range k).map (fun j => .int .i64 (z j)) = (List.range n).map (fun j => Value.int .i64 (rotN n k z j)) := by
  refine List.ext_getElem (by simp; omega) fun i h1 h2 => ?_
  simp at h2
  simp only [List.getElem_map, List.getElem_range]
  by_cases e : i < n - k
  · rw [List.getElem_append_left (by simpa using e)]
    simp [rotN, e]
  · rw [List.getElem_append_right (by simp; omega)]
    simp [rotN, e]

/-- A slice from its k-th number on. -/
theorem ints_from {w : World} {b o n : Nat} {z : Nat → Int} (h : Ints w (some ⟨b, o, none⟩) n z) {k : Nat} (hk : k ≤ n) : Ints w (some ⟨b, o + k, none⟩) (n - k) (fun j => z (k + j)) := by
  intro j hj
  obtain ⟨b', o', he, hc⟩ := h (k + j) (by omega)
  cases he
  exact ⟨b, o + k, rfl, by rw [Nat.add_assoc]; exact hc⟩

set_option maxHeartbeats 4000000 in
set_option maxRecDepth 100000 in
theorem foldsMoves_core (W : World) (a : Option Addr) (n cap : Nat) (z : Nat → Int) (hn : n ≤ cap) (h8 : n * 8 ≤ 140737488355328) (hI : Ints W a n z) (by' : Int) (hby : -9223372036854775808 ≤ by' ∧ by' ≤ 9223372036854775807) :
    Calls Try.prog 12 #[.slice a n cap, .int .i64 by'] W fun e W' => e = .returned (.bool true) ∧ Below W.heap.size W W' := by
  obtain ⟨hby1, hby2⟩ := hby
  have HI := Lib.hid hI
  have Hl1 := Lib.hid (list_any a cap n z W hn h8 hI)
  clear hI
  cases hP : isP n z
  · have HP : Hid (isP (min n 11) z = false) := by rw [Hid, isP_min]; exact hP
    clear hP
    go_enter Try.func12, Try.ntmps12
    go_wp2_with fail
    refine Hl1.out.mono ?_
    rintro e w1 ⟨a1, c1, rfl, hO1, hb1⟩
    have HB1 := Lib.hid hb1
    have Hq := Lib.hid (possible_bad a1 c1 _ z w1 HP.out (by omega) hO1.ints)
    clear hO1 hb1
    go_wp2_with fail
    refine Hq.out.mono ?_
    rintro e w2 ⟨rfl, hb2⟩
    have HB2 : Hid (Below W.heap.size W w2) := HB1.out.trans (hb2.mono HB1.out.size)
    clear hb2 HB1 Hq
    go_wp2_with fail
    refine (awake_any _).mono ?_
    rintro e w6 ⟨rfl, hb6⟩
    have HB6 : Hid (Below W.heap.size W w6) := HB2.out.trans (hb6.mono HB2.out.size)
    clear hb6
    go_wp2
    go_ret
    exact ⟨rfl, HB6.out⟩
  · have hp := isP_iff'.1 hP
    have hmin : min n 11 = n := by omega
    have h7 := hp.2.1
    have h1 := hp.1
    have HG := Lib.hid hp.2.2
    have HP := Lib.hid hP
    rw [hmin] at Hl1
    clear hP hp
    go_enter Try.func12, Try.ntmps12
    go_wp2_with fail
    refine Hl1.out.mono ?_
    rintro e w1 ⟨a1, c1, rfl, hO1, hb1⟩
    have HB1 := Lib.hid hb1
    have Hq := Lib.hid (possible_good a1 c1 _ z w1 HP.out hO1.ints)
    clear hO1 hb1
    go_wp2_with fail
    refine Hq.out.mono ?_
    rintro e w2 ⟨rfl, hb2⟩
    have HB2 : Hid (Below W.heap.size W w2) := HB1.out.trans (hb2.mono HB1.out.size)
    have Hs := Lib.hid (stripL_r true a cap n z _ HP.out (by omega) (HI.out.keep (Nat.le_refl _) HB2.out))
    clear hb2 HB1 Hq hmin
    go_wp2_with fail
    refine Hs.out.mono ?_
    rintro e w5 ⟨rfl, rfl⟩
    go_wp2
    obtain ⟨k, hk, ek⟩ := mod_ok by' n h1 h7
    rw [ek]
    have Hk := Lib.hid ek
    clear ek
    obtain ⟨b, o, rfl, hc0⟩ := (HI.out.keep (Nat.le_refl _) HB2.out) 0 (by omega)
    have hcapn : k ≤ n := by omega
    have hi1 : (k : Int) ≤ n := by omega
    have hi2 : (n : Int) ≤ cap := by omega
    have hi3 : (k : Int) ≤ cap := by omega
    have hkc : ¬ cap = k := by omega
    clear hc0
    have hl5 := list_any (some ⟨b, o + k, none⟩) (cap - k) (n - k) (fun j => z (k + j)) w2.drew (by omega) (by omega) (fun j hj => ints_from (HI.out.keep (Nat.le_refl _) HB2.out) hcapn j hj)
    rw [show min (n - k) 11 = n - k by omega] at hl5
    have Hl5 := Lib.hid hl5
    clear hl5
    have HPr : Hid (isP n (rotN n k z) = true) := isP_iff'.2 ⟨h1, h7, good_rot hk HG.out⟩
    have HPo : Hid (poss n (rotN n k z) = poss n z) := poss_rot hk HG.out
    have HN := Lib.hid ((HI.out.keep (Nat.le_refl _) HB2.out).take hcapn)
    obtain ⟨i0, hi, hz0, hz1, hz2⟩ := info_parts Try.info3
    go_region_law (first
      | (refine step_append_own rfl (.tmp 37) (.tmp 40) 22 rfl w2.heap.size 3 i0 (.int .i64 0) 1 8 Try.underlying22 hi hz0 hz1 hz2 rfl (by decide) _ (n - k) _ rfl HO3.out ⟨b, o, none⟩ k cap ((List.range k).map fun j => .int .i64 (z j)) rfl (by simp) (HN.out.keep (Nat.le_refl _) HB3.out).news (fun u hu => by obtain ⟨x, _, rfl⟩ := List.mem_map.1 hu; rfl) (by unfold maxLen; omega) (by omega) HB3.out.size ?_; intro v' w4 hown hgrow; have hrot := rot_row n k z hk; rw [hrot, show n - k + k = n by omega] at hown; obtain ⟨a4, c4, rfl, hO4⟩ := own_mk hown; have HO4 := Lib.hid hO4; have HB4 : Hid (Below w2.heap.size w2 w4) := HB3.out.grown hgrow HB3.out.size (fun k hk => (World.ownsRow.lt HO3.out k hk).1); clear hown hgrow hO4 hrot)
      | (go_simp; go_at_call 16; refine Hl5.out.mono ?_; rintro e w3 ⟨a3, c3, rfl, hO3, hb3⟩; have HO3 : Hid (Own w3 w2.heap.size a3 (n - k) c3 (fun j => z (k + j))) := hO3; have HB3 : Hid (Below w2.heap.size w2 w3) := (Below.refl _ w2).drew.trans hb3; clear hO3 hb3)
      | (go_simp; go_at_call 15; refine (possible_good a4 c4 _ _ w4 HPr.out HO4.out.ints).mono ?_; rintro e w5 ⟨rfl, hb5⟩; have HB5 : Hid (Below w2.heap.size w2 w5) := HB4.out.trans (hb5.mono HB4.out.size); rw [HPo.out]; clear hb5))
    have hbb : (poss n z == poss n z) = true := by simp
    go_wp2_with fail
    refine (awake_any _).mono ?_
    rintro e w6 ⟨rfl, hb6⟩
    have HB6 : Hid (Below W.heap.size W w6) := (HB2.out.trans (HB5.out.mono HB2.out.size)).trans (hb6.mono (Nat.le_trans HB2.out.size HB5.out.size))
    clear hb6
    go_wp2
    go_ret
    exact ⟨rfl, HB6.out⟩

end Go.Proofs.Ytmbccdjoliegiaa
