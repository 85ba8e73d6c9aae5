import Derived.Test.YtaglbnblfhfkeaaB7
import Derived.WalkSmall
namespace Go.Proofs.Ytaglbnblfhfkeaa
open Go.RowKit

theorem equal_r (r : Bool) (ax ay : Option Addr) (cx cy n m : Nat) (x y : Nat → Int) (w : World) (hr : eqN n m x y = r) (hs : n ≤ 140737488351232) (hsm : m ≤ 140737488351232) (hx : Ints w ax n x) (hy : Ints w ay m y) :
    Calls Try.prog 20 #[.slice ax n cx, .slice ay m cy] w fun e w' => e = .returned (.bool r) ∧ ∃ q, w' = w.drewN q := by
  subst hr; exact equal_any ax ay cx cy n m x y w hs hsm hx hy

/-- [][]int{{1, 2}} and []int{3, 4}, as 'awake' lays them. -/
def awW (w : World) : World := ((w.alloc (.cells #[.int .i64 1, .int .i64 2] 3)).alloc (.cells #[.slice (some ⟨w.heap.size, 0, none⟩) 2 2] 23)).alloc (.cells #[.int .i64 3, .int .i64 4] 3)
def awZ : Nat → Nat → Int := fun _ i => if i = 0 then 1 else 2
def awz : Nat → Int := fun i => if i = 0 then 3 else 4

theorem aw0 (w : World) : (awW w).heap[w.heap.size]? = some (.cells #[.int .i64 1, .int .i64 2] 3) := by
  unfold awW; rw [Below.heap_alloc _ _ _ (by simp; omega)]; exact heap_two1 _ _ _
theorem aw1 (w : World) : (awW w).heap[w.heap.size + 1]? = some (.cells #[.slice (some ⟨w.heap.size, 0, none⟩) 2 2] 23) := by
  unfold awW; rw [Below.heap_alloc _ _ _ (by simp)]; exact heap_two2 _ _ _
theorem aw2 (w : World) : (awW w).heap[w.heap.size + 1 + 1]? = some (.cells #[.int .i64 3, .int .i64 4] 3) := by
  have := heap_alloc_new ((w.alloc (.cells #[.int .i64 1, .int .i64 2] 3)).alloc (.cells #[.slice (some ⟨w.heap.size, 0, none⟩) 2 2] 23)) (.cells #[.int .i64 3, .int .i64 4] 3)
  simpa [awW] using this

theorem awMat (w : World) : Mat (awW w) (some ⟨w.heap.size + 1, 0, none⟩) 1 (fun _ => some ⟨w.heap.size, 0, none⟩) (fun _ => 2) (fun _ => 2) awZ := by
  refine ⟨fun j hj => ?_, fun j _ => ⟨Nat.le_refl _, by omega⟩, fun j _ i hi => ?_⟩
  · have : j = 0 := by omega
    subst this
    exact ⟨_, _, rfl, block_cell (aw1 w) 0⟩
  · have : i = 0 ∨ i = 1 := by omega
    rcases this with rfl | rfl
    · exact ⟨_, _, rfl, block_cell (aw0 w) 0⟩
    · exact ⟨_, _, rfl, block_cell (aw0 w) 1⟩

theorem awInts (w : World) : Ints (awW w) (some ⟨w.heap.size + 1 + 1, 0, none⟩) 2 awz := by
  intro i hi
  have : i = 0 ∨ i = 1 := by omega
  rcases this with rfl | rfl
  · exact ⟨_, _, rfl, block_cell (aw2 w) 0⟩
  · exact ⟨_, _, rfl, block_cell (aw2 w) 1⟩

theorem awVec : isVec 1 (fun _ => 2) awZ 2 awz (-1000) 1000 = true := by
  refine isVec_iff.2 ⟨isMat_iff.2 ⟨by omega, by omega, fun j _ => ⟨rfl, by omega, by omega, fun i _ => ?_⟩⟩, rfl, allIn_iff.2 fun j _ => ?_⟩
  · unfold awZ; split <;> omega
  · unfold awz; split <;> omega

theorem awBelow (w : World) : Below w.heap.size w (awW w) := (below_two w _ _).alloc (by simp; omega) _

set_option maxHeartbeats 4000000 in
set_option maxRecDepth 100000 in
theorem awake_any (w : World) : Calls Try.prog 23 #[] w fun e w' => e = .returned (.bool true) ∧ Below w.heap.size w w' := by
  have main := times_yes _ 1 1 _ _ _ _ _ 2 2 _ _ (awMat w) (awInts w) awVec
  have HB := Lib.hid (awBelow w)
  unfold awW at main HB
  have Main := Lib.hid main
  clear main
  go_enter Try.func23, Try.ntmps23
  go_wp2_with fail
  refine Main.out.mono ?_
  rintro e w1 ⟨a', cap', rfl, hO, hb⟩
  have Hb1 : Hid (Below w.heap.size w w1) := HB.out.trans (hb.mono HB.out.size)
  have HI := Lib.hid (Ints.keep hO.ints (Nat.le_refl _) ((Below.refl _ w1).alloc (Nat.le_refl _) (.cells #[.int .i64 11] 3)))
  have HJ : Hid (Ints (w1.alloc (.cells #[.int .i64 11] 3)) (some ⟨w1.heap.size, 0, none⟩) 1 (fun _ => 11)) := by
    intro j hj
    have : j = 0 := by omega
    subst this
    exact ⟨_, _, rfl, block_cell (heap_alloc_new w1 _) 0⟩
  have HE : Hid (eqN 1 1 (fun j => dotN (awZ j) awz 2) (fun _ => 11) = true) := eqN_iff.2 ⟨rfl, fun j _ => by simp [dotN, awZ, awz]⟩
  clear hO hb Main
  go_wp2_with fail
  refine (equal_r true _ _ _ _ _ _ _ _ _ HE.out (by omega) (by omega) HI.out HJ.out).mono ?_
  rintro e w2 ⟨rfl, q, rfl⟩
  have Hb2 := Lib.hid ((Hb1.out.alloc Hb1.out.size (.cells #[.int .i64 11] 3)))
  go_wp2
  go_ret
  exact ⟨rfl, below_drewN Hb2.out q⟩
end Go.Proofs.Ytaglbnblfhfkeaa
