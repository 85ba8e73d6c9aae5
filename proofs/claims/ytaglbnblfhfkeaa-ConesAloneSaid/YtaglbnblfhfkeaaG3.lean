import Derived.Test.YtaglbnblfhfkeaaG2
namespace Go.Proofs.Ytaglbnblfhfkeaa
open Go.RowKit

def CheckOut (m : Mx) (x : Vec) (L : Nat → Nat) (Z : Nat → Nat → Int) (Rl : Nat) (w : World) (e : Ending) (w' : World) : Prop :=
  ∃ F, AllBasic m F ∧ e = .returned (.tuple #[.bool (chkB F m.n L Z x Rl), .int .i64 0]) ∧ Below w.heap.size w w'
def CheckFails (w : World) (e : Ending) (w' : World) : Prop := e = .returned (.tuple #[.bool false, .int .i64 2]) ∧ Below w.heap.size w w'

set_option maxHeartbeats 4000000 in
set_option maxRecDepth 100000 in
theorem fCheck_core (m : Mx) (x : Vec) (arg ax : Value) (al : Option Addr) (cl Rl : Nat) (A : Nat → Option Addr) (L C : Nat → Nat) (Z : Nat → Nat → Int) (w : World) (hm : m.ok) (hx : near 100 x) (hRl : Rl ≤ 140737488351232) (hl : Mat w al Rl A L C Z)
    (Hr : Calls Try.prog 58 #[arg, ax, .int .i64 (-100), .int .i64 100] w fun e w' => ReadsBoth m x w e w') :
    Calls Try.prog 32 #[arg, ax, .slice al Rl cl] w fun e w' => CheckOut m x L Z Rl w e w' := by
  have HM := Lib.hid hm
  have HR := Lib.hid Hr
  have HX := Lib.hid hx
  have HL := Lib.hid hl
  clear hm Hr hx hl
  go_enter Try.func32, Try.ntmps32
  go_wp2_with fail
  refine HR.out.mono ?_
  rintro e w1 ⟨rfl, hb⟩
  have HB : Hid (Below w.heap.size w ((w1.alloc (.cells #[.int .i64 (m).r0.a, .int .i64 (m).r0.b, .int .i64 (m).r0.c, .int .i64 (m).r0.d, .int .i64 (m).r1.a, .int .i64 (m).r1.b, .int .i64 (m).r1.c, .int .i64 (m).r1.d, .int .i64 ((m).n : Int)] 64)).alloc (.cells #[.int .i64 (x).a, .int .i64 (x).b, .int .i64 (x).c, .int .i64 (x).d] 61))) := (hb.alloc hb.size _).alloc (by have := hb.size; simp; omega) _
  have hsz := hb.size
  clear hb HR
  go_wp2
  go_region_with (first
    | (go_at_call 65; refine (newTask_any m _ HM.out).mono ?_; rintro e wc ⟨a1, c1, F, rfl, hO, hA, hb3⟩; have HA := Lib.hid hA; have HO := Lib.hid hO; have HB3 : Hid (Below w.heap.size w wc) := HB.out.drew.trans (hb3.mono (by simp; omega)); have q1 := vecS_cells ((hb3.block (w1.heap.size + 1) (by simp)).trans (heap_two2 w1 (.cells #[.int .i64 (m).r0.a, .int .i64 (m).r0.b, .int .i64 (m).r0.c, .int .i64 (m).r0.d, .int .i64 (m).r1.a, .int .i64 (m).r1.b, .int .i64 (m).r1.c, .int .i64 (m).r1.d, .int .i64 ((m).n : Int)] 64) (.cells #[.int .i64 (x).a, .int .i64 (x).b, .int .i64 (x).c, .int .i64 (x).d] 61))); clear hO hA hb3)
    | (go_at_call 73; refine (isSplit_any m _ _ F x _ _ _ _ _ _ _ _ HM.out HO.out.vecs HA.out HX.out hRl (HL.out.keep (Nat.le_refl _) HB3.out)).mono ?_; rintro e wd ⟨rfl, hb4⟩; have HB4 : Hid (Below w.heap.size w wd) := HB3.out.trans (hb4.mono HB3.out.size); clear hb4))
  all_goals (go_wp2; go_ret2; exact ⟨F, HA.out, rfl, HB4.out⟩)

set_option maxHeartbeats 4000000 in
set_option maxRecDepth 100000 in
theorem fCheck_fails (arg ax al : Value) (w : World) (Hr : Calls Try.prog 58 #[arg, ax, .int .i64 (-100), .int .i64 100] w fun e w' => SomeBoth w e w') :
    Calls Try.prog 32 #[arg, ax, al] w fun e w' => CheckFails w e w' := by
  have HR := Lib.hid Hr
  clear Hr
  go_enter Try.func32, Try.ntmps32
  go_wp2_with fail
  refine HR.out.mono ?_
  rintro e w1 ⟨r0, r1, v, c, rfl, hb⟩
  have HB := Lib.hid ((hb.alloc hb.size (.cells #[.int .i64 (r0 0), .int .i64 (r0 1), .int .i64 (r0 2), .int .i64 (r0 3), .int .i64 (r1 0), .int .i64 (r1 1), .int .i64 (r1 2), .int .i64 (r1 3), .int .i64 c] 64)).alloc (by have := hb.size; simp; omega) (.cells #[.int .i64 (v 0), .int .i64 (v 1), .int .i64 (v 2), .int .i64 (v 3)] 61))
  clear hb
  go_wp2
  go_ret2
  exact ⟨rfl, HB.out⟩

/-! ### slices.ContainsFunc over numbers -/
set_option maxHeartbeats 4000000 in
set_option maxRecDepth 100000 in
theorem indexI_any (g : Nat) (cb : Array Value) (p : Nat → Bool) (a : Option Addr) (c R : Nat) (z : Nat → Int) (w : World) (hR : R ≤ 140737488351232) (hm : Ints w a R z)
    (eg : ∀ args w, (callFunc g args).run Try.prog w = .ok (.enter g args) w) (Hc : ∀ j, j < R → ∀ q, Calls Try.prog g (#[.int .i64 (z j)] ++ cb) (w.drewN q) fun e w' => Drawn (p j) w e w') :
    Calls Try.prog 90 #[.slice a R c, .func (.func g) #[] cb] w fun e w' => IdxOut (someP R p) w e w' := by
  have M := Lib.hid hm
  have HC := Lib.hid Hc
  clear hm Hc
  go_enter Try.func90, Try.ntmps90
  go_wp2
  go_loopw [8] (fun i wr => ∃ k : Nat, k ≤ R ∧ i = .int .i64 k ∧ (∃ q, wr = w.drewN q) ∧ Hid (∀ j, j < k → p j = false)) (fun i _ => R - (intOf i).toNat)
  case atStart => exact ⟨0, Nat.zero_le _, rfl, ⟨0, rfl⟩, fun j hj => absurd hj (Nat.not_lt_zero _)⟩
  case round =>
    obtain ⟨k, hk, rfl, ⟨q, rfl⟩, hr⟩ := hrel
    by_cases hlt : k < R
    · obtain ⟨b, o, rfl, hck⟩ := M.out k hlt
      have Hk := Lib.hid (HC.out k hlt q)
      cases hE : p k
      · have hn : Hid (∀ j, j < k + 1 → p j = false) := by
          intro j hj
          by_cases e : j = k
          · subst e; exact hE
          · exact hr.out j (by omega)
        have HE := Lib.hid hE
        rw [hE] at Hk
        clear hE
        go_wp2_with (go_at_fn g; refine Hk.out.mono ?_; rintro e w' ⟨rfl, q2, rfl⟩)
        go_roundw
        case rel => exact ⟨k + 1, by omega, by go_num, ⟨_, rfl⟩, hn⟩
        case measure => simp [intOf]; omega
      · have hf : Hid (someP R p = true) := someP_iff.2 ⟨k, hlt, hE⟩
        rw [hE] at Hk
        clear hE
        go_wp2_with (go_at_fn g; refine Hk.out.mono ?_; rintro e w' ⟨rfl, q2, rfl⟩)
        go_ret
        exact ⟨(k : Int), by rw [hf.out]; simp, rfl, ⟨_, rfl⟩⟩
    · have e : k = R := by omega
      subst e
      have hf := Lib.hid (someP_no hr.out)
      go_wp2
      go_ret
      exact ⟨-1, by rw [hf.out]; simp, rfl, ⟨_, rfl⟩⟩

set_option maxHeartbeats 4000000 in
set_option maxRecDepth 100000 in
theorem containsI_r (r : Bool) (g : Nat) (cb : Array Value) (p : Nat → Bool) (a : Option Addr) (c R : Nat) (z : Nat → Int) (w : World) (hp : someP R p = r) (hR : R ≤ 140737488351232) (hm : Ints w a R z)
    (eg : ∀ args w, (callFunc g args).run Try.prog w = .ok (.enter g args) w) (Hc : ∀ j, j < R → ∀ q, Calls Try.prog g (#[.int .i64 (z j)] ++ cb) (w.drewN q) fun e w' => Drawn (p j) w e w') :
    Calls Try.prog 48 #[.slice a R c, .func (.func g) #[] cb] w fun e w' => Drawn r w e w' := by
  have H := Lib.hid (indexI_any g cb p a c R z w hR hm eg Hc)
  rw [hp] at H
  clear hp hm eg Hc
  cases r
  · go_enter Try.func48, Try.ntmps48
    go_wp2_with (go_at_call 90; refine H.out.mono ?_; rintro e w' ⟨i, rfl, rfl, q, rfl⟩)
    go_ret
    exact ⟨rfl, q, rfl⟩
  · go_enter Try.func48, Try.ntmps48
    go_wp2_with (go_at_call 90; refine H.out.mono ?_; rintro e w' ⟨i, hi, rfl, q, rfl⟩; simp only [if_true] at hi)
    go_ret
    exact ⟨rfl, q, rfl⟩

/-- func(n int) bool { return n != 0 } -/
theorem sumsClo1 (n : Int) (w : World) (q : Nat) : Calls Try.prog 52 (#[.int .i64 n] ++ #[]) (w.drewN q) fun e w' => Drawn (n != 0) w e w' := by
  show Calls Try.prog 52 #[.int .i64 n] (w.drewN q) _
  go_enter Try.func52, Try.ntmps52
  go_wp2
  go_ret
  exact ⟨rfl, q, rfl⟩

/-- func(z []int) bool { return slices.Equal(y, z) } -/
theorem sumsClo2 (b : Nat) (ay az : Option Addr) (ny cy nz cz : Nat) (y z : Nat → Int) (w : World) (q : Nat) (hb : w.heap[b]? = some (.cells #[.slice ay ny cy] 23)) (hn : ny ≤ 140737488351232) (hz : nz ≤ 140737488351232) (hy : Ints w ay ny y) (hzz : Ints w az nz z) :
    Calls Try.prog 53 (#[.slice az nz cz] ++ #[.pointer (some ⟨b, 0, none⟩)]) (w.drewN q) fun e w' => Drawn (eqN ny nz y z) w e w' := by
  have c0 : (w.drewN q).cell? ⟨b, 0, none⟩ = some (.slice ay ny cy) := block_cell (w := w) hb 0
  have H := Lib.hid (equal_any ay az cy cz ny nz y z (w.drewN q) hn hz (ints_drewN hy q) (ints_drewN hzz q))
  clear hb hy hzz
  show Calls Try.prog 53 #[.slice az nz cz, .pointer (some ⟨b, 0, none⟩)] (w.drewN q) _
  go_enter Try.func53, Try.ntmps53
  go_wp2_with (go_at_call 20; refine H.out.mono ?_; rintro e w' ⟨rfl, q2, rfl⟩)
  go_ret
  exact ⟨rfl, q + q2, rfl⟩
end Go.Proofs.Ytaglbnblfhfkeaa
