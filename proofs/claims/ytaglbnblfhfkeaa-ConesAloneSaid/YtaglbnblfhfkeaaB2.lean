import Derived.Test.YtaglbnblfhfkeaaB1
import Derived.Laws.CopyOwn
namespace Go.Proofs.Ytaglbnblfhfkeaa
open Go.RowKit

/-- The first n numbers, and 0 behind them. -/
def padN (z : Nat → Int) (n : Nat) : Nat → Int := fun j => if j < n then z j else 0

theorem below_two (w : World) (o1 o2 : Obj) : Below w.heap.size w ((w.alloc o1).alloc o2) := ((Below.refl _ _).alloc (Nat.le_refl _) _).alloc (by simp) _

set_option maxHeartbeats 2000000 in
set_option maxRecDepth 100000 in
theorem read_no1 (a : Option Addr) (cap n : Nat) (c lo hi : Int) (w : World) (hs : n ≤ 140737488351232) (h : ¬ ((n : Int) = c ∧ c ≤ 4)) :
    Calls Try.prog 60 #[.slice a n cap, .int .i64 c, .int .i64 lo, .int .i64 hi] w fun e w' =>
      e = .returned (.tuple #[.agg #[.int .i64 0, .int .i64 0, .int .i64 0, .int .i64 0], .bool false]) ∧ Below w.heap.size w w' := by
  by_cases h1 : (n : Int) = c
  · subst h1
    have h2 : (4 : Int) < (n : Int) := by omega
    clear h
    go_enter Try.func60, Try.ntmps60
    go_wp2
    exact bodyPost_ret (v := .tuple #[.agg #[.int .i64 0, .int .i64 0, .int .i64 0, .int .i64 0], .bool false]) (by simp [results, Try.results60, go_sem]) rfl ⟨rfl, below_two _ _ _⟩
  · have G1 : ((n : Int) != c) = true := by simp [h1]
    clear h
    go_enter Try.func60, Try.ntmps60
    go_wp2
    exact bodyPost_ret (v := .tuple #[.agg #[.int .i64 0, .int .i64 0, .int .i64 0, .int .i64 0], .bool false]) (by simp [results, Try.results60, go_sem]) rfl ⟨rfl, below_two _ _ _⟩

theorem splice_pad (k : Nat) (z : Nat → Int) (hk : k ≤ 4) : splice [Value.int .i64 0, .int .i64 0, .int .i64 0, .int .i64 0] 0 ((List.range k).map fun j => Value.int .i64 (z j)) =
    [Value.int .i64 (padN z k 0), .int .i64 (padN z k 1), .int .i64 (padN z k 2), .int .i64 (padN z k 3)] := by
  have h5 : k = 0 ∨ k = 1 ∨ k = 2 ∨ k = 3 ∨ k = 4 := by omega
  rcases h5 with rfl | rfl | rfl | rfl | rfl <;> simp [splice, padN, List.range_succ]

set_option maxHeartbeats 2000000 in
set_option maxRecDepth 100000 in
theorem read_yes (r : Bool) (a : Option Addr) (cap n : Nat) (z : Nat → Int) (lo hi : Int) (w : World) (hn : n ≤ 4) (hc : Ints w a n z) (hr : allIn z n lo hi = r) :
    Calls Try.prog 60 #[.slice a n cap, .int .i64 n, .int .i64 lo, .int .i64 hi] w fun e w' =>
      e = .returned (if r then .tuple #[.agg #[.int .i64 (padN z n 0), .int .i64 (padN z n 1), .int .i64 (padN z n 2), .int .i64 (padN z n 3)], .bool true]
        else .tuple #[.agg #[.int .i64 0, .int .i64 0, .int .i64 0, .int .i64 0], .bool false]) ∧ Below w.heap.size w w' := by
  have hnn : (n : Int) ≤ 4 := by omega
  go_enter Try.func60, Try.ntmps60
  go_wp2
  go_loop [24] (fun i => ∃ k : Nat, k ≤ n ∧ i = .int .i64 k ∧ Hid (∀ j, j < k → lo ≤ z j ∧ z j ≤ hi)) (fun i => n - (intOf i).toNat)
  case atStart => exact ⟨0, Nat.zero_le _, rfl, fun j hj => absurd hj (Nat.not_lt_zero _)⟩
  case round =>
    obtain ⟨k, hk, rfl, hd⟩ := hrel
    by_cases hlt : k < n
    · have hc2 : Ints ((w.alloc (.cells #[.int .i64 0, .int .i64 0, .int .i64 0, .int .i64 0] 61)).alloc (.cells #[.int .i64 0, .int .i64 0, .int .i64 0, .int .i64 0] 61)) a n z := hc.keep (Nat.le_refl _) (below_two _ _ _)
      obtain ⟨b, o, rfl, hck⟩ := hc2 k hlt
      clear hc hc2
      by_cases h1 : z k < lo
      · have hf := allIn_no (lo := lo) (hi := hi) k hlt (Or.inl h1)
        rw [hf] at hr
        subst hr
        clear hf
        go_wp2
        exact bodyPost_ret (v := .tuple #[.agg #[.int .i64 0, .int .i64 0, .int .i64 0, .int .i64 0], .bool false]) (by simp [results, Try.results60, go_sem]) rfl ⟨rfl, below_two _ _ _⟩
      · by_cases h2 : hi < z k
        · have hf := allIn_no (lo := lo) (hi := hi) k hlt (Or.inr h2)
          rw [hf] at hr
          subst hr
          clear hf
          go_wp2
          exact bodyPost_ret (v := .tuple #[.agg #[.int .i64 0, .int .i64 0, .int .i64 0, .int .i64 0], .bool false]) (by simp [results, Try.results60, go_sem]) rfl ⟨rfl, below_two _ _ _⟩
        · have hn : Hid (∀ j, j < k + 1 → lo ≤ z j ∧ z j ≤ hi) := by
            intro j hj
            by_cases e : j = k
            · subst e; omega
            · exact hd.out j (by omega)
          have Hr := Lib.hid hr
          clear hr
          go_wp2
          go_round
          case rel => exact ⟨k + 1, by omega, by go_num, hn⟩
          case measure => simp [intOf]; omega
    · have e : k = n := by omega
      subst e
      have hf := allIn_yes hd.out
      rw [hf] at hr
      subst hr
      clear hf hd
      have Hc := Lib.hid hc
      clear hc
      have hsz : (Try.prog.info? 3).map (·.size) = some 1 := by kernel_rfl
      obtain ⟨cs, hcs⟩ : ∃ cs, cs = (List.range k).map fun j => Value.int .i64 (z j) := ⟨_, rfl⟩
      have hcl : cs.length = k := by subst hcs; simp
      have hone : ∀ v ∈ cs, v.oneCell' = true := by subst hcs; intro v hv; obtain ⟨x, _, rfl⟩ := List.mem_map.1 hv; rfl
      have hsp := splice_pad k z hn
      rw [← hcs] at hsp
      have hb0 := (Below.refl (w.heap.size + 1) (w.alloc (.cells #[.int .i64 0, .int .i64 0, .int .i64 0, .int .i64 0] 61))).alloc (by simp) (.cells #[.int .i64 0, .int .i64 0, .int .i64 0, .int .i64 0] 61)
      have hnews : 0 < cs.length → some (⟨w.heap.size + 1, 0, none⟩ : Addr) = some ⟨w.heap.size + 1, 0, none⟩ ∧ ∃ ad, a = some ad ∧ ∀ (j : Nat) (v : Value), cs[j]? = some v →
          ((w.alloc (.cells #[.int .i64 0, .int .i64 0, .int .i64 0, .int .i64 0] 61)).alloc (.cells #[.int .i64 0, .int .i64 0, .int .i64 0, .int .i64 0] 61)).cell? (ad.add j) = some v := by
        intro hpos
        refine ⟨rfl, ?_⟩
        obtain ⟨b, o, he, _⟩ := Hc.out 0 (by omega)
        subst he
        exact ⟨_, rfl, by subst hcs; exact ((Hc.out.keep (Nat.le_refl _) (below_two _ _ _)).news)⟩
      have hq1 : ((w.alloc (.cells #[.int .i64 0, .int .i64 0, .int .i64 0, .int .i64 0] 61)).alloc (.cells #[.int .i64 0, .int .i64 0, .int .i64 0, .int .i64 0] 61)).heap[w.heap.size + 1]? =
          some (.cells [Value.int .i64 0, .int .i64 0, .int .i64 0, .int .i64 0].toArray 61) := by
        have := heap_alloc_new (w.alloc (.cells #[.int .i64 0, .int .i64 0, .int .i64 0, .int .i64 0] 61)) (.cells #[.int .i64 0, .int .i64 0, .int .i64 0, .int .i64 0] 61)
        simpa using this
      have Hq1 := Lib.hid hq1
      have Hq2 : Hid (cs.length = k.min 4) := by rw [hcl]; show k = min k 4; omega
      have Hq3 : Hid (0 + cs.length ≤ [Value.int .i64 0, .int .i64 0, .int .i64 0, .int .i64 0].length) := by simp [Hid]; omega
      have Hcs := Lib.hid hcs
      have Hsp := Lib.hid hsp
      have Hnews := Lib.hid hnews
      have Hone := Lib.hid hone
      clear hcs hsp hcl hnews hone hq1
      go_wp2_with (with_reducible refine wpList_copy_splice rfl (.tmp 38) (.tmp 39) 23 23 rfl 3 Try.underlying23 hsz (some ⟨w.heap.size + 1, 0, none⟩) a 4 4 k cap rfl rfl (w.heap.size + 1) 0 [.int .i64 0, .int .i64 0, .int .i64 0, .int .i64 0] 61 Hq1.out cs Hq2.out Hnews.out Hq3.out Hone.out (w.heap.size + 1) _ hb0 (Nat.le_refl _) ?_)
      intro w2 hg2 hb2
      have hg := hg2.out
      rw [Hsp.out] at hg
      clear hg2
      have c0 : w2.cell? ⟨w.heap.size + 1, 0, none⟩ = some (.int .i64 (padN z k 0)) := by simp [World.cell?, hg]
      have c1 : w2.cell? ⟨w.heap.size + 1, 1, none⟩ = some (.int .i64 (padN z k 1)) := by simp [World.cell?, hg]
      have c2 : w2.cell? ⟨w.heap.size + 1, 2, none⟩ = some (.int .i64 (padN z k 2)) := by simp [World.cell?, hg]
      have c3 : w2.cell? ⟨w.heap.size + 1, 3, none⟩ = some (.int .i64 (padN z k 3)) := by simp [World.cell?, hg]
      have hr0 := hb2.block w.heap.size (by omega)
      rw [heap_alloc_new] at hr0
      have r0 : w2.cell? ⟨w.heap.size, 0, none⟩ = some (.int .i64 0) := by simp [World.cell?, hr0]
      have r1 : w2.cell? ⟨w.heap.size, 1, none⟩ = some (.int .i64 0) := by simp [World.cell?, hr0]
      have r2 : w2.cell? ⟨w.heap.size, 2, none⟩ = some (.int .i64 0) := by simp [World.cell?, hr0]
      have r3 : w2.cell? ⟨w.heap.size, 3, none⟩ = some (.int .i64 0) := by simp [World.cell?, hr0]
      have f : ∀ o, w2.frozen? ⟨w.heap.size, o, none⟩ = false := by intro o; simp [World.frozen?, hr0]
      have HB : Hid (Below w.heap.size w w2) := ((Below.refl _ w).alloc (Nat.le_refl _) _).trans (hb2.mono (by omega))
      clear hb2 hr0 hg hb0
      go_wp2
      exact bodyPost_ret (v := .tuple #[.agg #[.int .i64 (padN z k 0), .int .i64 (padN z k 1), .int .i64 (padN z k 2), .int .i64 (padN z k 3)], .bool true]) (by simp [results, Try.results60, go_sem, r0, r1, r2, r3]) rfl
        ⟨rfl, (((HB.out.setCell (Nat.le_refl _) _).setCell (Nat.le_refl _) _).setCell (Nat.le_refl _) _).setCell (Nat.le_refl _) _⟩
end Go.Proofs.Ytaglbnblfhfkeaa
