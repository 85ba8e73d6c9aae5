import Derived.Test.YtfommfgokpiieaaDoorR1
import Derived.Laws.IdiomStrings
namespace Go.Proofs.YtfommfgokpiieaaDoor
open Go.RowKit

/-- Bytes of the call's own, from the beginning of a block on. -/
structure BytesAt (w : World) (b n : Nat) (z : Nat → UInt8) : Prop where
  cell : ∀ j, j < n → w.cell? ⟨b, j, none⟩ = some (.int .u8 (z j).toNat)
  free : ∀ j, j < n → w.frozen? ⟨b, j, none⟩ = false
  lt : b < w.heap.size
theorem BytesAt.keep {w w' : World} {b n : Nat} {z : Nat → UInt8} (h : BytesAt w b n z) (hb : Below w.heap.size w w') : BytesAt w' b n z :=
  ⟨fun j hj => by rw [hb.cell (p := ⟨b, j, none⟩) h.lt]; exact h.cell j hj, fun j hj => by rw [hb.frozen (p := ⟨b, j, none⟩) h.lt]; exact h.free j hj, Nat.lt_of_lt_of_le h.lt hb.size⟩
theorem BytesAt.congr {w : World} {b n : Nat} {z z' : Nat → UInt8} (h : BytesAt w b n z) (hz : ∀ j, j < n → z j = z' j) : BytesAt w b n z' :=
  ⟨fun j hj => by rw [← hz j hj]; exact h.cell j hj, h.free, h.lt⟩
theorem BytesAt.set {w : World} {b n : Nat} {z : Nat → UInt8} (h : BytesAt w b n z) {k : Nat} (hk : k < n) (x : UInt8) : BytesAt (w.setCell ⟨b, k, none⟩ (.int .u8 x.toNat)) b n (fun j => if j = k then x else z j) := by
  have hc := h.cell k hk
  have hf := h.free k hk
  refine ⟨fun j hj => ?_, fun j hj => ?_, by simp [World.setCell]; exact h.lt⟩
  · by_cases e : j = k
    · subst e; simp only [if_true]; go_simp
    · have c := h.cell j hj
      simp only [e, if_false]
      rw [World.cell?_setCell_other]
      · exact c
      · intro hh; injection hh with _ h2; exact e h2.symm
  · have f := h.free j hj
    go_simp

theorem conv_bytes (src : TypeId) (hsrc : Tryd.prog.underlying src = some .string) (s : ByteArray) (l : List UInt8) (w : World) (hl : s.data.toList = l) :
    ∃ cap w1, (convert src 59 (.string s)).run Tryd.prog w = .ok (.slice (some ⟨w.heap.size, 0, none⟩) s.size cap) w1 ∧ BytesAt w1 w.heap.size s.size (fun j => lt l j) ∧ Below w.heap.size w w1 := by
  have h := run_bytes_of_string (P := Tryd.prog) w src 59 5 s hsrc Tryd.underlying59 Tryd.underlying5
  refine ⟨_, _, h, ⟨fun j hj => ?_, fun j hj => ?_, ?_⟩, ?_⟩
  · have := World.cell?_alloc_mark w.drew (bytesRow s (grownCap w s.size 0 5)) 5 ((bytesRow s (grownCap w s.size 0 5)).size, (bytesRow s (grownCap w s.size 0 5)).size + 1) j
    rw [show w.drew.heap.size = w.heap.size from rfl] at this
    rw [this, bytesRow_at s _ j hj, lt_at s l hl j hj]
    first | done | rfl
  · have hz : s.size ≤ (bytesRow s (grownCap w s.size 0 5)).size := by unfold bytesRow; simp
    have := World.frozen?_alloc_mark w.drew (bytesRow s (grownCap w s.size 0 5)) 5 (bytesRow s (grownCap w s.size 0 5)).size ((bytesRow s (grownCap w s.size 0 5)).size + 1) j
    rw [show w.drew.heap.size = w.heap.size from rfl] at this
    rw [this]
    have : ¬ (bytesRow s (grownCap w s.size 0 5)).size ≤ j := by omega
    simp [this]
  · simp
  · exact ((Below.refl w.heap.size w).drew).alloc (Nat.le_refl _) _

theorem conv_back (dst : TypeId) (hdst : Tryd.prog.underlying dst = some .string) (b n cap : Nat) (z : Nat → UInt8) (l : List UInt8) (w : World) (h : BytesAt w b n z) (hn : l.length = n) (hl : ∀ j, j < n → z j = lt l j) :
    (convert 59 dst (.slice (some ⟨b, 0, none⟩) n cap)).run Tryd.prog w = .ok (.string ⟨l.toArray⟩) w := by
  have := run_convert_bytes_back (P := Tryd.prog) w 59 dst 5 ⟨b, 0, none⟩ cap l Tryd.underlying59 Tryd.underlying5 hdst (fun j hj => by
    rw [add_at, Nat.zero_add, h.cell j (by omega), hl j (by omega)]
    unfold lt
    rw [List.getD_eq_getElem?_getD, List.getElem?_eq_getElem hj]
    first | done | rfl)
  rw [hn] at this
  exact this

/-- A letter exchanged: what stands in 'to' at its place. -/
def rep (to : List UInt8) (b : UInt8) : UInt8 := lt to (li b)
theorem lt_map (f : UInt8 → UInt8) (l : List UInt8) {k : Nat} (hk : k < l.length) : lt (l.map f) k = f (lt l k) := by
  unfold lt
  rw [List.getD_eq_getElem?_getD, List.getD_eq_getElem?_getD, List.getElem?_map, List.getElem?_eq_getElem hk]; rfl

set_option maxHeartbeats 2000000 in
set_option maxRecDepth 100000 in
theorem replaced_any (s to : ByteArray) (l lt' : List UInt8) (w : World) (hl : s.data.toList = l) (hs : s.size ≤ 24) (hL : ∀ b ∈ l, isL b = true) (ht : to.data.toList = lt') (h4 : to.size = 4) :
    Calls Tryd.prog 57 #[.string s, .string ⟨#[114, 117, 108, 100]⟩, .string to] w fun e w' => e = .returned (.string ⟨(l.map (rep lt')).toArray⟩) ∧ Below w.heap.size w w' := by
  obtain ⟨cap, w1, hcv, hB1, hb1⟩ := conv_bytes 46 Tryd.underlying46 s l w hl
  have HB1 := Lib.hid hB1
  have HBl := Lib.hid hb1
  have HLen : Hid (l.length = s.size) := by simp only [Hid]; rw [← hl]; rfl
  have HAt := Lib.hid (fun (k : Nat) (hk : k < s.size) => lt_at s l hl k hk)
  have HTo := Lib.hid (fun (k : Nat) (hk : k < to.size) => lt_at to lt' ht k hk)
  have HI : Hid (∀ k, k < s.size → isL (lt l k) = true) := by
    intro k hk
    unfold lt
    rw [List.getD_eq_getElem?_getD, List.getElem?_eq_getElem (by rw [HLen.out]; exact hk)]
    exact hL _ (List.getElem_mem _)
  have H4 := Lib.hid h4
  clear hB1 hb1 hl ht hL
  go_enter Tryd.func57, Tryd.ntmps57
  go_wp2
  clear hcv
  go_loopw [14] (fun i wr => ∃ k : Nat, i = .int .i64 k ∧ k ≤ s.size ∧ Below w.heap.size w wr ∧ BytesAt wr w.heap.size s.size (fun j => if j < k then rep lt' (lt l j) else lt l j)) (fun i _ => s.size - (intOf i).toNat)
  case atStart => exact ⟨0, rfl, Nat.zero_le _, HBl.out, HB1.out.congr (fun j _ => by simp)⟩
  case round =>
    obtain ⟨k, rfl, hk, hb, hB⟩ := hrel
    have HB := Lib.hid hB
    have HBw := Lib.hid hb
    clear hb
    by_cases hlt : k < s.size
    · have hc := hB.cell k hlt
      have hf := hB.free k hlt
      simp only [Nat.lt_irrefl, if_false] at hc
      have hbl := hB.lt
      have hIk := HI.out k hlt
      have H1 := Lib.hid (fun W => index_any (lt l k) W hIk)
      have hli : ((li (lt l k) : Nat) : Int) < to.size := by have := li_lt (lt l k); have := H4.out; omega
      have hliN : li (lt l k) < to.size := by omega
      have HT := Lib.hid (HTo.out (li (lt l k)) hliN)
      have HS2 := Lib.hid (hB.set hlt (to[li (lt l k)]))
      clear hB hIk
      go_wp2_with fail
      refine (H1.out _).mono ?_
      rintro e w2 ⟨rfl, rfl⟩
      go_wp2
      go_roundw
      case rel =>
        refine ⟨k + 1, by go_num, by omega, HBw.out.setCell (Nat.le_refl _) _, HS2.out.congr (fun j hj => ?_)⟩
        by_cases e : j = k
        · subst e; simp only [if_true, rep, HT.out]; simp
        · simp only [e, if_false]
          by_cases h1 : j < k
          · simp [h1, show j < k + 1 by omega]
          · simp [h1, show ¬ j < k + 1 by omega]
      case measure => simp [intOf]; omega
    · have e : k = s.size := by omega
      have HO := Lib.hid (conv_back 46 Tryd.underlying46 w.heap.size s.size cap _ (l.map (rep lt')) wr hB (by rw [List.length_map, HLen.out]) (fun j hj => by rw [lt_map _ l (by rw [HLen.out]; exact hj)]; simp [e, hj]))
      have HBz := HBw
      have hge : (s.size : Int) ≤ k := by omega
      clear e hB
      have ho := HO.out
      go_wp2
      go_ret
      exact ⟨rfl, HBz.out⟩

end Go.Proofs.YtfommfgokpiieaaDoor
