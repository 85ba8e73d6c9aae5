import Derived.Test.YtaglbnblfhfkeaaD6
import Derived.Test.YtaglbnblfhfkeaaMath3
import Derived.Shelf.SlSortCmp.WholeK
namespace Go.Proofs.Ytaglbnblfhfkeaa
open Go.RowKit

instance : Inhabited Vec := ⟨Vec.zero⟩

theorem vcell_len (v : Vec) : (vcell v).length = 4 := rfl

theorem flat_list (d : Array Vec) : (Sort.flatK vcell 4 d).toList = d.toList.flatMap vcell := by
  have hl : (d.toList.flatMap vcell).length = d.size * 4 := by
    rw [← Array.length_toList]
    generalize d.toList = l
    induction l with
    | nil => rfl
    | cons v l ih => rw [List.flatMap_cons, List.length_append, ih, vcell_len, List.length_cons]; omega
  apply List.ext_getElem?
  intro t
  by_cases ht : t < d.size * 4
  · have h1 : t / 4 < d.size := by omega
    have h2 : t % 4 < 4 := by omega
    have hv : d.toList[t / 4]? = some d[t / 4]! := by rw [getElem!_pos d (t / 4) h1]; simp [h1]
    have hg := flat_get d.toList (t / 4) _ hv (t % 4) h2
    rw [show t / 4 * 4 + t % 4 = t by omega] at hg
    rw [hg]
    have hF := Sort.get_flatK vcell 4 d t ht
    have hs : t < (Sort.flatK vcell 4 d).size := by simpa using ht
    rw [getElem!_pos (Sort.flatK vcell 4 d) t hs] at hF
    rw [Array.getElem?_toList, Array.getElem?_eq_getElem hs, hF]
    rw [getElem!_pos (vcell d[t / 4]!) (t % 4) (by rw [vcell_len]; exact h2)]
    exact (List.getElem?_eq_getElem _).symm
  · rw [List.getElem?_eq_none (by simp; omega), List.getElem?_eq_none (by omega)]

theorem OwnV.holds {w : World} {base g cap n : Nat} {l : List Vec} (h : OwnV w base (.slice (some ⟨g, 0, none⟩) n cap) l) : Sort.HoldsK vcell 4 w g 0 l.toArray := by
  rcases h.2 with ⟨he, _⟩ | ⟨g', cap', cur, he, hb, hg, h1, h2, h3, h4⟩
  · cases he
  · cases he
    intro j hj
    have hF := flat_list l.toArray
    simp only [Sort.size_flatK, List.size_toArray] at hj
    have hs : j < (Sort.flatK vcell 4 l.toArray).size := by simpa using hj
    rw [getElem!_pos (Sort.flatK vcell 4 l.toArray) j hs]
    have e1 : (Sort.flatK vcell 4 l.toArray)[j] = (Sort.flatK vcell 4 l.toArray).toList[j]'(by simpa using hj) := by simp
    have hc : j < cur.size := by have := Nat.mul_le_mul_right 4 h1; omega
    have e2 : (l.flatMap vcell)[j]? = some cur[j] := by
      rw [← h4, List.getElem?_take, if_pos hj]; simp [hc]
    have e3 : (Sort.flatK vcell 4 l.toArray).toList[j]? = (l.flatMap vcell)[j]? := by rw [hF]
    rw [e2, Array.getElem?_toList, Array.getElem?_eq_getElem hs] at e3
    have e4 := Option.some.inj e3
    refine ⟨?_, block_free hg _⟩
    rw [block_cell hg, Nat.zero_add, Array.getElem?_eq_getElem hc, e4]; rfl

theorem OwnV.sorted {w : World} {base g cap : Nat} {l : List Vec} (h : OwnV w base (.slice (some ⟨g, 0, none⟩) l.length cap) l) (d : Array Vec) (hs : d.size = l.length) (n : Nat) (os : Array Obj) :
    OwnV (sortWorldK vcell 4 w g 0 n d os) base (.slice (some ⟨g, 0, none⟩) l.length cap) d.toList ∧ w.grownBy (sortWorldK vcell 4 w g 0 n d os) (some g) := by
  rcases h.2 with ⟨he, _⟩ | ⟨g', cap', cur, he, hb, hg, h1, h2, h3, h4⟩
  · cases he
  · cases he
    have hlt : g < w.heap.size := (Array.getElem?_eq_some_iff.1 hg).1
    have hheap : (sortWorldK vcell 4 w g 0 n d os).heap = (w.heap.modify g (Sort.onCells (Sort.putCells id 0 (Sort.flatK vcell 4 d)))) ++ os := rfl
    have hFs : (Sort.flatK vcell 4 d).size = l.length * 4 := by simp [hs]
    have hcs : l.length * 4 ≤ cur.size := by have := Nat.mul_le_mul_right 4 h1; omega
    constructor
    · refine ⟨?_, Or.inr ⟨g, cap, Sort.putCells id 0 (Sort.flatK vcell 4 d) cur, ?_, hb, ?_, ?_, h2, ?_, ?_⟩⟩
      · rw [← flat_list]; simp [hs]
      · simp [hs]
      · rw [hheap, Array.getElem?_append_left (by simpa using hlt), Array.getElem?_modify, if_pos rfl, hg]; rfl
      · simpa [hs] using h1
      · simp [Sort.putCells, h3]
      · rw [← flat_list]
        apply List.ext_getElem?
        intro t
        have hl : d.toList.length = l.length := by simpa using hs
        rw [hl]
        by_cases ht : t < l.length * 4
        · have hs' : t < (Sort.flatK vcell 4 d).size := by omega
          rw [List.getElem?_take, if_pos ht, Array.getElem?_toList, Array.getElem?_toList, Array.getElem?_eq_getElem hs']
          have hc : t < cur.size := by omega
          simp only [Sort.putCells, Array.getElem?_mapIdx, Array.getElem?_eq_getElem hc, Option.map_some]
          rw [if_pos ⟨Nat.zero_le _, by omega⟩, Nat.sub_zero, getElem!_pos (Sort.flatK vcell 4 d) t hs']; rfl
        · rw [List.getElem?_take, if_neg ht, Array.getElem?_toList, Array.getElem?_eq_none (by omega)]
    · refine ⟨rfl, rfl, rfl, ?_, fun k hk hne => ?_⟩
      · rw [hheap]; simp
      · rw [hheap, Array.getElem?_append_left (by simpa using hk), Array.getElem?_modify, if_neg (fun e => hne (by rw [e]))]

theorem ltOf_cmpV (x y : Vec) : ltOf cmpV x y = decide (ltV x y) := by
  unfold ltOf
  rw [Bool.eq_iff_iff]; simp [cmpV_lt]
theorem swo_cmpV : Sort.SWO (ltOf cmpV) where
  irrefl x := by rw [ltOf_cmpV]; simpa using ltV_irrefl x
  trans x y z h1 h2 := by rw [ltOf_cmpV] at *; simp at *; exact ltV_trans h1 h2
  ntrans x y z h1 h2 := by
    rw [ltOf_cmpV] at *; simp at *
    unfold ltV at *; omega

theorem sorted_list {d d' : Array Vec} (hp : Sort.PermIn 0 d.size d d') (hs : Sort.SortedIn (ltOf cmpV) 0 d.size d') (hn : d.toList.Nodup) : d'.toList.Perm d.toList ∧ d'.toList.Pairwise ltV := by
  obtain ⟨h1, _, h3⟩ := hp
  have e1 : d'.extract 0 d.size = d' := by rw [← h1]; simp
  have e2 : d.extract 0 d.size = d := by simp
  rw [e1, e2] at h3
  refine ⟨h3, List.pairwise_iff_getElem.2 fun i j hi hj hij => ?_⟩
  have hi' : i < d'.size := by simpa using hi
  have hj' : j < d'.size := by simpa using hj
  have h := hs i j (Nat.zero_le _) hij (by omega)
  rw [ltOf_cmpV, getElem!_pos d' j hj', getElem!_pos d' i hi'] at h
  have h4 : ¬ ltV d'[j] d'[i] := by simpa using h
  have hne := List.pairwise_iff_getElem.1 (h3.nodup_iff.2 hn) i j hi hj hij
  simp only [Array.getElem_toList] at hne ⊢
  exact Classical.byContradiction fun h5 => hne (ltV_total h5 h4)

end Go.Proofs.Ytaglbnblfhfkeaa
