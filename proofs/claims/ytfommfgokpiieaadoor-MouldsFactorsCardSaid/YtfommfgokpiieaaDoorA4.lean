import Derived.Test.YtfommfgokpiieaaDoorA3
import Derived.Test.YtfommfgokpiieaaDoorMap
namespace Go.Proofs.YtfommfgokpiieaaDoor
open Go.RowKit

theorem CellsAt.grown {w w' : World} {a : Option Addr} {s m : Nat} {c : Nat → List Value} {row : Option Nat} (h : CellsAt w a s m c) (hg : w.grownBy w' row) (hn : ∀ b o, a = some ⟨b, o, none⟩ → some b ≠ row) : CellsAt w' a s m c := by
  intro k hk
  obtain ⟨b, o, ha, hc⟩ := h k hk
  refine ⟨b, o, ha, fun i u hu => ?_⟩
  have := hc i u hu
  have hb := World.block_lt_of_cell? _ _ this
  rw [World.cell?_of_block (w := w) (hg.block b hb (hn b o ha))]
  exact this
def came (l : List UInt8) (k : Nat) (v : Pt) : Prop := ∃ i, i < k ∧ v = ⟨px l i, py l i⟩
theorem pt_near {l : List UInt8} {k : Nat} (hk : k ≤ 30) : near ⟨px l k, py l k⟩ := by
  have := px_bd l k
  have := py_bd l k
  constructor <;> simp only <;> omega

/-- What holds ahead of a round of 'meetsItself'. -/
structure MInv (l : List UInt8) (w wr : World) (b o k : Nat) : Prop where
  bel : Below w.heap.size w wr
  map : OwnSet wr w.heap.size k (came l k)
  cells : CellsAt wr (some ⟨b, o, none⟩) 2 (l.length + 1) (fun i => pcell (px l i) (py l i))
  free : freeB l k = true
theorem MInv.keep {l : List UInt8} {w wr w' : World} {b o k : Nat} (h : MInv l w wr b o k) (hb : Below wr.heap.size wr w') : MInv l w w' b o k :=
  ⟨band h.bel hb, h.map.keep hb, h.cells.keep (Nat.le_refl _) hb, h.free⟩
theorem came_next {l : List UInt8} {k : Nat} : (fun u => came l k u ∨ u = ⟨px l k, py l k⟩) = came l (k + 1) := by
  funext u
  apply propext
  constructor
  · rintro (⟨i, hi, rfl⟩ | rfl)
    · exact ⟨i, by omega, rfl⟩
    · exact ⟨k, by omega, rfl⟩
  · rintro ⟨i, hi, rfl⟩
    by_cases e : i = k
    · subst e; exact .inr rfl
    · exact .inl ⟨i, by omega, rfl⟩
theorem free_next {l : List UInt8} {k : Nat} (h : freeB l k = true) (hn : ¬ came l k ⟨px l k, py l k⟩) : freeB l (k + 1) = true := by
  rw [freeB_iff] at h ⊢
  intro j hj i hi
  by_cases e : j = k
  · subst e
    by_cases hx : px l i = px l j
    · right
      intro hy
      exact hn ⟨i, hi, by rw [hx, hy]⟩
    · exact .inl hx
  · exact h j (by omega) i hi
theorem MInv.next {l : List UInt8} {w wr w' : World} {b o k : Nat} (h : MInv l w wr b o k) (hb : w.heap.size < b) (hn : ¬ came l k ⟨px l k, py l k⟩) (hm : OwnSet w' w.heap.size (k + 1) (fun u => came l k u ∨ u = ⟨px l k, py l k⟩)) (hg : wr.grownBy w' (some w.heap.size)) : MInv l w w' b o (k + 1) :=
  ⟨h.bel.grown hg h.bel.size (fun j hj => by injection hj with hj; omega), by rw [← came_next]; exact hm, h.cells.grown hg (fun b' o' e => by injection e with e; injection e with e; subst e; intro e2; injection e2 with e2; omega), free_next h.free hn⟩

set_option maxHeartbeats 2000000 in
set_option maxRecDepth 100000 in
theorem meets_any (s : ByteArray) (l : List UInt8) (w : World) (hl : s.data.toList = l) (hw : wordB l = true) (h4 : 4 ≤ l.length) (hS : StepsAt w) :
    Calls Tryd.prog 47 #[.string s] w fun r w' => r = .returned (.bool (!freeB l l.length)) ∧ Below w.heap.size w w' := by
  have hn : s.size ≤ 24 := by have := (wordB_iff.1 hw).1; rw [← hl] at this; exact this
  have hn4 : 4 ≤ s.size := by rw [← hl] at h4; exact h4
  have HN : Hid (l.length = s.size) := by simp only [Hid]; rw [← hl]; rfl
  have HB := Lib.hid (one_le w (.map #[] 0))
  have HM := Lib.hid (OwnSet.made w)
  have HP := Lib.hid (path_any s l (w.alloc (.map #[] 0)) hl hw (hS.keep HB.out))
  clear hl hw hS h4
  have hmm := @run_makeMap Tryd.prog
  go_enter Tryd.func47, Tryd.ntmps47
  go_wp2_with fail
  refine HP.out.mono ?_
  rintro r w0 ⟨v, rfl, hO, hb2⟩
  have hbb := World.ownsRow.lt hO
  obtain ⟨a, cap, rfl, hC, hc1, hc2⟩ := OwnC.read (s := 2) (fun i => pcell_len (px l i) (py l i)) hO
  obtain ⟨b, o, rfl, d0, d1⟩ := hC.two (show 0 < l.length + 1 by omega)
  have hbw : w.heap.size < b := by have := (hbb b rfl).1; simp at this; omega
  have I0 : Hid (MInv l w w0 b o 0) := by
    refine ⟨band HB.out hb2, ?_, hC, by rw [freeB_iff]; intro j hj; omega⟩
    have h := HM.out.keep hb2
    have e : came l 0 = fun _ => False := by funext u; apply propext; constructor; (rintro ⟨i, hi, _⟩; omega); exact fun h => h.elim
    rw [e]; exact h
  rw [HN.out] at hc1
  have hcs : (s.size : Int) ≤ cap := by omega
  have hc0 : (0 : Int) ≤ s.size := by omega
  clear hO hC hb2 HP hbb HM d0 d1
  unfold maxLen at hc2
  rw [HN.out]
  go_wp2
  go_loopw [13] (fun i wr => ∃ k : Nat, i = .int .i64 k ∧ k ≤ s.size ∧ MInv l w wr b o k) (fun i _ => s.size - (intOf i).toNat)
  case atStart => exact ⟨0, rfl, Nat.zero_le _, I0.out⟩
  case round =>
    obtain ⟨k, rfl, hk, hI⟩ := hrel
    have HI := Lib.hid hI
    have hsz := hI.bel.size
    have hml := hI.map.lt
    by_cases hlt : k < s.size
    · obtain ⟨b', o', e1, d0, d1⟩ := hI.cells.two (show k < l.length + 1 by rw [HN.out]; omega)
      injection e1 with e1; injection e1 with e1 e1'; subst e1; subst e1'
      have hxn : near ⟨px l k, py l k⟩ := pt_near (by omega)
      have HXN := Lib.hid hxn
      have hblt := World.block_lt_of_cell? _ _ d0
      have HK := Lib.hid (hI.keep (one_le wr (.cells #[.int .i64 (px l k), .int .i64 (py l k)] 33)))
      clear hI hxn
      by_cases hc : came l k ⟨px l k, py l k⟩
      · have HC := Lib.hid hc
        have HR : Hid (freeB l l.length = false) := by
          obtain ⟨i, hi, e⟩ := hc
          injection e with e1 e2
          exact freeB_no (i := i) (j := k) (by rw [HN.out]; omega) hi e1.symm e2.symm
        clear hc
        generalize px l k = X at *
        generalize py l k = Y at *
        go_wp2_with (at_lookup; refine wpList_lookup_set _ rfl _ _ rfl w.heap.size _ _ rfl HK.out.map ⟨X, Y⟩ HXN.out true ⟨fun _ => rfl, fun h => absurd HC.out h⟩ rfl ?_)
        go_ret
        exact ⟨by rw [HR.out]; rfl, HK.out.bel⟩
      · have HC := Lib.hid hc
        clear hc
        obtain ⟨X, hX⟩ : ∃ X, px l k = X := ⟨_, rfl⟩
        obtain ⟨Y, hY⟩ : ∃ Y, py l k = Y := ⟨_, rfl⟩
        have HNx := Lib.hid (fun w' (hm : OwnSet w' w.heap.size (k + 1) (fun u => came l k u ∨ u = ⟨X, Y⟩)) hg => HK.out.next (w' := w') hbw HC.out (by rw [hX, hY]; exact hm) hg)
        rw [hX] at d0 HXN HC HNx HK
        rw [hY] at d1 HXN HC HNx HK
        clear hX hY
        go_wp2_with (first
          | (at_lookup; refine wpList_lookup_set _ rfl _ _ rfl w.heap.size _ _ rfl HK.out.map ⟨X, Y⟩ HXN.out false ⟨fun h => absurd h HC.out, fun _ => rfl⟩ rfl ?_)
          | (at_mapUpdate; refine wpList_mapUpdate_set _ rfl _ _ _ rfl w.heap.size _ _ rfl HK.out.map (by unfold maxLen; omega) ⟨X, Y⟩ HXN.out rfl rfl ?_))
        intro w5 hm hg
        have HN5 := Lib.hid (HNx.out w5 hm hg)
        clear hm hg
        go_wp2
        go_roundw
        case rel => exact ⟨k + 1, by go_num, by omega, HN5.out⟩
        case measure => simp [intOf]; omega
    · have e : l.length = k := by rw [HN.out]; omega
      have E : Hid (freeB l l.length = true) := by simp only [Hid]; rw [e]; exact hI.free
      have hge : (s.size : Int) ≤ k := by omega
      clear e hI
      go_wp2
      go_ret
      exact ⟨by rw [E.out]; rfl, HI.out.bel⟩
end Go.Proofs.YtfommfgokpiieaaDoor
