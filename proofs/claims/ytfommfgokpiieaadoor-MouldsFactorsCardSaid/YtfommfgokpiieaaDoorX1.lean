import Derived.Test.YtfommfgokpiieaaDoorB1
import Derived.Test.YtfommfgokpiieaaDoorR2
namespace Go.Proofs.YtfommfgokpiieaaDoor
open Go.RowKit

/-- A letter exchanged, after the first k letters of 'fr' were looked at. -/
def exF (fr to : List UInt8) (b : UInt8) : Nat → UInt8
  | 0 => b
  | k + 1 => if b = lt fr k then lt to k else exF fr to b k

set_option maxHeartbeats 8000000 in
set_option maxRecDepth 100000 in
theorem exch_any (s fr to : ByteArray) (l fl tl : List UInt8) (w : World) (hl : s.data.toList = l) (hs : s.size ≤ 24) (hf : fr.data.toList = fl) (ht : to.data.toList = tl) (h4 : fr.size ≤ 4) (h5 : to.size = fr.size) :
    Calls Tryd.prog 42 #[.string s, .string fr, .string to] w fun e w' => e = .returned (.string ⟨(l.map fun b => exF fl tl b fr.size).toArray⟩) ∧ Below w.heap.size w w' := by
  obtain ⟨cap, w1, hcv, hB1, hb1⟩ := conv_bytes 9 Tryd.underlying9 s l w hl
  have HB1 := Lib.hid hB1
  have HBl := Lib.hid hb1
  have HLen : Hid (l.length = s.size) := by simp only [Hid]; rw [← hl]; rfl
  have HFr := Lib.hid (fun (k : Nat) (hk : k < fr.size) => lt_at fr fl hf k hk)
  have HTo := Lib.hid (fun (k : Nat) (hk : k < to.size) => lt_at to tl ht k hk)
  have H5 := Lib.hid h5
  clear hB1 hb1 hl hf ht h5
  go_enter Tryd.func42, Tryd.ntmps42
  go_wp2
  clear hcv
  go_loopw [15] (fun i wr => ∃ k : Nat, i = .int .i64 k ∧ k ≤ s.size ∧ Below w.heap.size w wr ∧ BytesAt wr w.heap.size s.size (fun j => if j < k then exF fl tl (lt l j) fr.size else lt l j)) (fun i _ => s.size - (intOf i).toNat)
  case atStart => exact ⟨0, rfl, Nat.zero_le _, HBl.out, HB1.out.congr (fun j _ => by simp)⟩
  case round =>
    obtain ⟨k, rfl, hk, hb, hB⟩ := hrel
    obtain ⟨wo, hwo⟩ : ∃ wo : World, wo = wr := ⟨_, rfl⟩
    subst hwo
    have HB := Lib.hid hB
    have HBw := Lib.hid hb
    clear hb
    by_cases hlt : k < s.size
    rotate_left
    · have e : k = s.size := by omega
      have HO := Lib.hid (conv_back 9 Tryd.underlying9 w.heap.size s.size cap _ (l.map fun b => exF fl tl b fr.size) wo hB (by rw [List.length_map, HLen.out]) (fun j hj => by rw [lt_map _ l (by rw [HLen.out]; exact hj)]; simp [e, hj]))
      have hge : (s.size : Int) ≤ k := by omega
      clear e hB
      have ho := HO.out
      go_wp2
      go_ret
      exact ⟨rfl, HBw.out⟩
    have hc := hB.cell k hlt
    simp only [Nat.lt_irrefl, if_false] at hc
    have hbl := hB.lt
    have HI0 : Hid (BytesAt wo w.heap.size s.size (fun j => if j = k then exF fl tl (lt l k) 0 else if j < k then exF fl tl (lt l j) fr.size else lt l j)) := hB.congr (fun j _ => by
      by_cases e : j = k
      · subst e; simp [exF]
      · simp [e])
    clear hB
    go_wp2
    go_loopw [22] (fun i wr => ∃ m : Nat, i = .int .i64 m ∧ m ≤ fr.size ∧ Below w.heap.size w wr ∧ BytesAt wr w.heap.size s.size (fun j => if j = k then exF fl tl (lt l k) m else if j < k then exF fl tl (lt l j) fr.size else lt l j)) (fun i _ => fr.size - (intOf i).toNat)
    case atStart => exact ⟨0, rfl, Nat.zero_le _, HBw.out, HI0.out⟩
    case round =>
      obtain ⟨m, rfl, hm, hb, hB⟩ := hrel
      have HBi := Lib.hid hB
      have HBv := Lib.hid hb
      clear hb hc
      by_cases hltm : m < fr.size
      · have hfr := HFr.out m hltm
        have hmt : m < to.size := by have := H5.out; omega
        have hmtI : (m : Int) < to.size := by omega
        have hto := HTo.out m hmt
        have hf := hB.free k hlt
        have hc := hB.cell k hlt
        have hbl := hB.lt
        by_cases he : lt l k = fr[m]
        · have HE : Hid (((lt l k).toNat : Int) = (fr[m].toNat : Int)) := by simp only [Hid]; rw [he]
          have HS2 : Hid (BytesAt (wr.setCell ⟨w.heap.size, k, none⟩ (.int .u8 (to[m].toNat : Int))) w.heap.size s.size (fun j => if j = k then exF fl tl (lt l k) (m + 1) else if j < k then exF fl tl (lt l j) fr.size else lt l j)) := (hB.set hlt (to[m])).congr (fun j _ => by
            by_cases e : j = k
            · subst e; simp only [if_true, exF]; rw [if_pos (by rw [hfr]; exact he), hto]
            · simp [e])
          have hg : (((lt l k).toNat : Int) == (fr[m].toNat : Int)) = true := by rw [HE.out]; simp
          clear hB hfr hto he
          go_wp2
          go_roundw
          case rel => exact ⟨m + 1, by go_num, by omega, HBv.out.setCell (Nat.le_refl _) _, HS2.out⟩
          case measure => simp [intOf]; omega
        · have hg : (((lt l k).toNat : Int) == (fr[m].toNat : Int)) = false := u8_ne he
          have HS2 : Hid (BytesAt wr w.heap.size s.size (fun j => if j = k then exF fl tl (lt l k) (m + 1) else if j < k then exF fl tl (lt l j) fr.size else lt l j)) := hB.congr (fun j _ => by
            by_cases e : j = k
            · subst e; simp only [if_true, exF]; rw [if_neg (by rw [hfr]; exact he)]
            · simp [e])
          clear hB hfr hto he
          go_wp2
          go_roundw
          case rel => exact ⟨m + 1, by go_num, by omega, HBv.out, HS2.out⟩
          case measure => simp [intOf]; omega
      · have e : m = fr.size := by omega
        have HN : Hid (BytesAt wr w.heap.size s.size (fun j => if j < k + 1 then exF fl tl (lt l j) fr.size else lt l j)) := hB.congr (fun j _ => by
          by_cases e2 : j = k
          · subst e2; simp [e]
          · simp only [e2, if_false]
            by_cases h1 : j < k
            · simp [h1, show j < k + 1 by omega]
            · simp [h1, show ¬ j < k + 1 by omega])
        have hge : (fr.size : Int) ≤ m := by omega
        clear e hB
        go_wp2
        go_roundw
        case rel => exact ⟨k + 1, by go_num, by omega, HBv.out, HN.out⟩
        case measure => simp [intOf]; omega
end Go.Proofs.YtfommfgokpiieaaDoor
