import Derived.Test.YtmbccdjoliegiaaM4
import Derived.Test.YtmbccdjoliegiaaR5
namespace Go.Proofs.Ytmbccdjoliegiaa
open Go.RowKit

/-- The reference's creases of a map. -/
def rrowsN (n : Nat) : Nat → List Tri
  | 0 => []
  | k + 1 => rrowsN n k ++ [⟨(k : Int), (k : Int) + 1, (k : Int) % 2⟩, ⟨(n : Int) + k, (n : Int) + k + 1, (k : Int) % 2⟩]
def rcolN (n k : Nat) : List Tri := (List.range k).map fun (c : Nat) => (⟨(c : Int), (n : Int) + c, 2⟩ : Tri)
theorem rcolN_snoc (n k : Nat) : rcolN n (k + 1) = rcolN n k ++ [⟨(k : Int), (n : Int) + k, 2⟩] := by simp [rcolN, List.range_succ]
def rmapN (n : Nat) : List Tri := rrowsN n (n - 1) ++ rcolN n n
theorem rrowsN_len (n k : Nat) : (rrowsN n k).length = 2 * k := by
  induction k with
  | zero => rfl
  | succ k ih => simp [rrowsN, ih]; omega
theorem rcolN_len (n k : Nat) : (rcolN n k).length = k := by simp [rcolN]
theorem rmapN_len (n : Nat) (h : 1 ≤ n) : (rmapN n).length = 3 * n - 2 := by unfold rmapN; rw [List.length_append, rrowsN_len, rcolN_len]; omega

theorem six_new (w : World) (t u : Tri) (T : TypeId) : ∀ j x, (tcell t ++ tcell u)[j]? = some x → (w.alloc (.cells #[.int .i64 t.p, .int .i64 t.q, .int .i64 t.r, .int .i64 u.p, .int .i64 u.q, .int .i64 u.r] T)).cell? ((⟨w.heap.size, 0, none⟩ : Addr).add j) = some x := by
  intro j x hj
  match j, hj with
  | 0, hj => simp [tcell] at hj; subst hj; simp [Addr.add]
  | 1, hj => simp [tcell] at hj; subst hj; simp [Addr.add]
  | 2, hj => simp [tcell] at hj; subst hj; simp [Addr.add]
  | 3, hj => simp [tcell] at hj; subst hj; simp [Addr.add]
  | 4, hj => simp [tcell] at hj; subst hj; simp [Addr.add]
  | 5, hj => simp [tcell] at hj; subst hj; simp [Addr.add]
theorem six_ok (t u : Tri) : ∀ x ∈ tcell t ++ tcell u, x.oneCell' = true := by
  intro x hx
  rcases List.mem_append.1 hx with h | h
  · exact three_ok t x h
  · exact three_ok u x h
theorem OwnT.snoc2 {e : TypeId} {w : World} {base : Nat} {val : Value} {l : List Tri} {t u : Tri} (h : w.ownsRow base e 3 val (l.length + 2) (l.flatMap tcell ++ (tcell t ++ tcell u))) : OwnT e w base val (l ++ [t, u]) := by
  unfold OwnT
  rw [List.length_append, List.flatMap_append]
  simpa using h

theorem rrows_in {n k : Nat} (hk : k + 1 ≤ n) : ∀ t ∈ rrowsN n k, TriIn (2 * n) t := by
  induction k with
  | zero => intro t ht; cases ht
  | succ k ih =>
    intro t ht
    rw [rrowsN, List.mem_append] at ht
    rcases ht with ht | ht
    · exact ih (by omega) t ht
    · simp at ht
      rcases ht with rfl | rfl
      · exact ⟨by simp, by show (k : Int) < _; omega, by show (0 : Int) ≤ (k : Int) + 1; omega, by show (k : Int) + 1 < _; omega⟩
      · exact ⟨by show (0 : Int) ≤ (n : Int) + k; omega, by show (n : Int) + k < _; omega, by show (0 : Int) ≤ (n : Int) + k + 1; omega, by show (n : Int) + k + 1 < _; omega⟩
theorem rmap_in {n : Nat} (h1 : 1 ≤ n) : ∀ t ∈ rmapN n, TriIn (2 * n) t := by
  intro t ht
  rw [rmapN, List.mem_append] at ht
  rcases ht with ht | ht
  · exact rrows_in (by omega) t ht
  · obtain ⟨c, hc, rfl⟩ := List.mem_map.1 ht
    have := List.mem_range.1 hc
    exact ⟨by simp, by show (c : Int) < _; omega, by show (0 : Int) ≤ (n : Int) + c; omega, by show (n : Int) + c < _; omega⟩

set_option maxHeartbeats 4000000 in
set_option maxRecDepth 100000 in
theorem rmap_any (n : Nat) (a : Option Addr) (cap k : Nat) (z : Nat → Int) (w : World) (h1 : 1 ≤ n) (h4 : n ≤ 4) (hk : k = 2 * n) (hg : goodP k z k) (hc : Ints w a k z) :
    Calls Try.prog 45 #[.int .i64 n, .slice a k cap] w fun e w' => e = .returned (.bool (noXB (3 * n - 2) (crossTAt (fun x => ix k z x) (rmapN n)))) ∧ Below w.heap.size w w' := by
  have HI := Lib.hid hc
  have HG := Lib.hid hg
  have HK := Lib.hid hk
  have hk8 : k ≤ 8 := by omega
  clear hc hg hk
  obtain ⟨i0, hi, hz0, hz1, hz2⟩ := info_parts Try.infoRC
  go_enter Try.func45, Try.ntmps45
  go_wp2
  go_loopw [5, 12] (fun v i wr => ∃ j : Nat, j ≤ n - 1 ∧ i = .int .i64 j ∧ OwnT 80 wr w.heap.size v (rrowsN n j) ∧ Below w.heap.size w wr) (fun _ i _ => n - (intOf i).toNat)
  case atStart => exact ⟨0, Nat.zero_le _, rfl, OwnT.nil _ _ _, Below.refl _ _⟩
  case round =>
    obtain ⟨j, hj, rfl, hO, hb⟩ := hrel
    have HO := Lib.hid hO
    have HB := Lib.hid hb
    have hBs := hb.size
    clear hO hb
    by_cases hlt : j < n - 1
    · have hlt2 : (j : Int) < (n : Int) - 1 := by omega
      obtain ⟨l, hl⟩ : ∃ l, l = rrowsN n j := ⟨_, rfl⟩
      have hll : l.length ≤ 100 := by rw [hl, rrowsN_len]; omega
      have HL : Hid (rrowsN n (j + 1) = l ++ [⟨(j : Int), (j : Int) + 1, (j : Int) % 2⟩, ⟨(n : Int) + j, (n : Int) + j + 1, (j : Int) % 2⟩]) := by rw [Hid, rrowsN, ← hl]
      rw [← hl] at HO
      clear hl
      go_wp2_with (at_builtin; refine wpList_append_own _ rfl _ _ 67 rfl w.heap.size 80 i0 (.agg #[.int .i64 0, .int .i64 0, .int .i64 0]) 3 24 Try.underlying67 hi hz0 hz1 hz2 rfl (by decide) _ _ _ rfl (HO.out.alloc _) ⟨wr.heap.size, 0, none⟩ 2 2 (tcell ⟨(j : Int), (j : Int) + 1, (j : Int) % 2⟩ ++ tcell ⟨(n : Int) + j, (n : Int) + j + 1, (j : Int) % 2⟩) rfl rfl (six_new _ _ _ _) (six_ok _ _) (by unfold maxLen; omega) (by omega) (by simp; omega) ?_)
      intro v' w5 hown hgrow _
      have hO5 : OwnT 80 w5 w.heap.size v' (rrowsN n (j + 1)) := by rw [HL.out]; exact OwnT.snoc2 hown
      have HO5 := Lib.hid hO5
      have HB5 : Hid (Below w.heap.size w w5) := (HB.out.alloc hBs _).grown hgrow (by simp; omega) (fun k hk => (World.ownsRow.lt HO.out k hk).1)
      clear hown hgrow
      go_wp2
      go_roundw
      case rel => exact ⟨j + 1, by omega, by go_num, HO5.out, HB5.out⟩
      case measure => simp [intOf]; omega
    · have hge : (n : Int) - 1 ≤ j := by omega
      have e : j = n - 1 := by omega
      have HO0 : Hid (OwnT 80 wr w.heap.size u5 (rrowsN n (n - 1))) := by rw [← e]; exact HO.out
      clear e HO
      go_wp2
      obtain ⟨w1, hw1⟩ : ∃ w1, w1 = wr := ⟨_, rfl⟩
      go_loopw [5, 36] (fun v i wq => ∃ c : Nat, c ≤ n ∧ i = .int .i64 c ∧ OwnT 80 wq w.heap.size v (rrowsN n (n - 1) ++ rcolN n c) ∧ Below w.heap.size w wq) (fun _ i _ => n - (intOf i).toNat)
      case atStart => exact ⟨0, Nat.zero_le _, rfl, by simpa [rcolN] using HO0.out, HB.out⟩
      case round =>
        obtain ⟨c, hcn, rfl, hO, hb⟩ := hrel
        have HO := Lib.hid hO
        have HBq := Lib.hid hb
        have hBs := hb.size
        clear hO hb
        by_cases hlt : c < n
        · obtain ⟨l, hl⟩ : ∃ l, l = rrowsN n (n - 1) ++ rcolN n c := ⟨_, rfl⟩
          have hll : l.length ≤ 100 := by rw [hl, List.length_append, rrowsN_len, rcolN_len]; omega
          have HL : Hid (rrowsN n (n - 1) ++ rcolN n (c + 1) = l ++ [⟨(c : Int), (n : Int) + c, 2⟩]) := by rw [Hid, rcolN_snoc, ← List.append_assoc, ← hl]
          rw [← hl] at HO
          clear hl
          go_wp2_with (at_builtin; refine wpList_append_own _ rfl _ _ 67 rfl w.heap.size 80 i0 (.agg #[.int .i64 0, .int .i64 0, .int .i64 0]) 3 24 Try.underlying67 hi hz0 hz1 hz2 rfl (by decide) _ _ _ rfl (HO.out.alloc _) ⟨wr.heap.size, 0, none⟩ 1 1 (tcell ⟨(c : Int), (n : Int) + c, 2⟩) rfl rfl (three_new _ _ _) (three_ok _) (by unfold maxLen; omega) (by omega) (by simp; omega) ?_)
          intro v' w5 hown hgrow _
          have hO5 : OwnT 80 w5 w.heap.size v' (rrowsN n (n - 1) ++ rcolN n (c + 1)) := by rw [HL.out]; exact OwnT.snoc hown
          have HO5 := Lib.hid hO5
          have HB5 : Hid (Below w.heap.size w w5) := (HBq.out.alloc hBs _).grown hgrow (by simp; omega) (fun k hk => (World.ownsRow.lt HO.out k hk).1)
          clear hown hgrow hO5
          go_wp2
          go_roundw
          case rel => exact ⟨c + 1, by omega, by go_num, HO5.out, HB5.out⟩
          case measure => simp [intOf]; omega
        · have e : c = n := by omega
          have hge : (n : Int) ≤ c := by omega
          have HO2 : Hid (OwnT 80 wr w.heap.size u5 (rmapN n)) := by rw [e] at HO; exact HO.out
          obtain ⟨ca, cc, rfl, hT, hc1, hc2, -⟩ := HO2.out.read
          clear e HO
          rw [rmapN_len n h1] at hc1 ⊢
          have HF := Lib.hid (first_any ca _ cc (rmapN n) a cap k z wr (by omega) (by omega) (rmapN_len n h1) (fun t ht => by rw [HK.out]; exact rmap_in h1 t ht) HG.out hT (HI.out.keep (Nat.le_refl _) HBq.out))
          clear hT hc1 hc2
          go_wp2_with fail
          refine HF.out.mono ?_
          rintro e w6 ⟨p, q, r, rfl, hf, hb6⟩
          have HR : Hid (noXB (3 * n - 2) (crossTAt (fun x => ix k z x) (rmapN n)) = !r) := FindX.no hf
          have HB6 : Hid (Below w.heap.size w w6) := HBq.out.trans (hb6.mono hBs)
          have HB7 : Hid (Below w.heap.size w (w6.alloc (.cells #[.int .i64 p, .int .i64 q] 27))) := HB6.out.alloc HB6.out.size _
          clear hf hb6
          go_wp2
          go_ret
          exact ⟨by rw [HR.out]; rfl, HB7.out⟩
end Go.Proofs.Ytmbccdjoliegiaa
