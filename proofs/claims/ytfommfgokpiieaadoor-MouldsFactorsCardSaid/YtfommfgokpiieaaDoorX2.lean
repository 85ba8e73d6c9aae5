import Derived.Test.YtfommfgokpiieaaDoorX1
import Derived.Test.YtfommfgokpiieaaDoorB3
namespace Go.Proofs.YtfommfgokpiieaaDoor
open Go.RowKit

theorem app_mk (a b : List UInt8) : (⟨a.toArray⟩ ++ ⟨b.toArray⟩ : ByteArray) = ⟨(a ++ b).toArray⟩ := by
  apply ByteArray.ext; simp
theorem mk_size (a : List UInt8) : (⟨a.toArray⟩ : ByteArray).size = a.length := by simp [ByteArray.size]
theorem one_list (s : ByteArray) (l : List UInt8) (hl : s.data.toList = l) {k : Nat} (hk : k < s.size) : (s.extract k (k + 1)).data.toList = [lt l k] := by
  have hlen : l.length = s.size := by rw [← hl]; rfl
  rw [extract_list s l hl, List.drop_take, show k + 1 - k = 1 by omega]
  have e : l.drop k = lt l k :: l.drop (k + 1) := by
    rw [List.drop_eq_getElem_cons (by omega)]
    unfold lt
    rw [List.getD_eq_getElem?_getD, List.getElem?_eq_getElem (by omega)]; rfl
  rw [e]; rfl
theorem drop_lt (l : List UInt8) {k : Nat} (hk : k < l.length) : l.drop k = lt l k :: l.drop (k + 1) := by
  rw [List.drop_eq_getElem_cons hk]
  unfold lt
  rw [List.getD_eq_getElem?_getD, List.getElem?_eq_getElem hk]; rfl
theorem back_drop (l : List UInt8) {k : Nat} (hk : k < l.length) : backL (l.drop k) = backL (l.drop (k + 1)) ++ [bk (lt l k)] := by
  rw [drop_lt l hk]; simp [backL]
theorem ex_bk {b : UInt8} (h : isL b = true) : exF [114, 108, 117, 100] [108, 114, 100, 117] b 4 = bk b := by
  rcases isL_or h with rfl | rfl | rfl | rfl <;> decide

end Go.Proofs.YtfommfgokpiieaaDoor
