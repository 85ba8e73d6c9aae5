import Derived.Test.YtkbbijhknbcflabG4
/-
  The reader: a formula, by its first byte.
-/
namespace Go.Proofs.Ytkbbijhknbcflab
open Go.RowKit Go.Shelf

attribute [local go_sem] eql_fn eql_nf

theorem rfix_any (N : Nat) (hN : FC N) (g : Bool) (b : Nat) (t o : List UInt8) (w : World) (hl : t.length ≤ N) (hz : t.length + o.length ≤ 4999) (h : RdAt b t o w) :
    Calls Try.prog 47 #[.pointer (some ⟨b, 0, none⟩), .int .u8 (if g then 103 else 109)] w fun e w' => FormOut b ((if g then 103 else 109) :: t) o w e w' := by
  by_cases hm : letB (hd t) = true → o.contains (hd t) = true
  · exact rfixed_no g b t o w hz h hm
  · cases t with
    | nil => exact absurd (fun h => absurd h (by decide)) hm
    | cons x t =>
      simp only [hd] at hm
      obtain ⟨h1, h2⟩ := Classical.not_imp.1 hm
      obtain ⟨c, hc, rfl⟩ := letB_iff.1 h1
      simp only [List.length_cons] at hl hz
      exact rfixed_yes N hN g c hc b t o w (by omega) (by omega) h (by simpa using h2)

set_option maxHeartbeats 4000000 in
set_option maxRecDepth 100000 in
theorem form_d0 (b : Nat) (t o : List UInt8) (w : World) (hz : t.length + o.length ≤ 4999) (h : RdAt b (48 :: t) o w) :
    Calls Try.prog 31 #[.pointer (some ⟨b, 0, none⟩)] w fun e w' => FormOut b (48 :: t) o w e w' := by
  have HSg := Lib.hid (sign_any b (48 :: t) o w h (by simp; omega))
  have hb := h.lt
  clear h
  go_enter Try.func31, Try.ntmps31
  go_wp2_with fail
  refine HSg.out.mono ?_
  rintro e w1 ⟨rfl, hr1, kp1⟩
  rw [show ((hd (48 :: t)).toNat : Int) = 48 from rfl]
  simp only [tl] at hr1
  have HR1 := Lib.hid (hr1.keep (below_one w1 (.cells #[.int .u8 48] 5)))
  have HKp1 := Lib.hid (kp1.trans (Kp.of (below_one w1 (.cells #[.int .u8 48] 5))))
  have HcY : Hid ((w1.alloc (.cells #[.int .u8 48] 5)).cell? ⟨w1.heap.size, 0, none⟩ = some (.int .u8 48)) := block_cell (heap_alloc_new w1 _) 0
  clear hr1 kp1
  go_wp2
  go_ret
  exact ⟨_, t, rfl, HR1.out, HKp1.out, by simp, Or.inl ⟨.mark 0, ⟨rfl, by show 0 < 4; decide⟩, ⟨w1.heap.size, rfl, HcY.out⟩⟩⟩

set_option maxHeartbeats 4000000 in
set_option maxRecDepth 100000 in
theorem form_d1 (b : Nat) (t o : List UInt8) (w : World) (hz : t.length + o.length ≤ 4999) (h : RdAt b (49 :: t) o w) :
    Calls Try.prog 31 #[.pointer (some ⟨b, 0, none⟩)] w fun e w' => FormOut b (49 :: t) o w e w' := by
  have HSg := Lib.hid (sign_any b (49 :: t) o w h (by simp; omega))
  have hb := h.lt
  clear h
  go_enter Try.func31, Try.ntmps31
  go_wp2_with fail
  refine HSg.out.mono ?_
  rintro e w1 ⟨rfl, hr1, kp1⟩
  rw [show ((hd (49 :: t)).toNat : Int) = 49 from rfl]
  simp only [tl] at hr1
  have HR1 := Lib.hid (hr1.keep (below_one w1 (.cells #[.int .u8 49] 5)))
  have HKp1 := Lib.hid (kp1.trans (Kp.of (below_one w1 (.cells #[.int .u8 49] 5))))
  have HcY : Hid ((w1.alloc (.cells #[.int .u8 49] 5)).cell? ⟨w1.heap.size, 0, none⟩ = some (.int .u8 49)) := block_cell (heap_alloc_new w1 _) 0
  clear hr1 kp1
  go_wp2
  go_ret
  exact ⟨_, t, rfl, HR1.out, HKp1.out, by simp, Or.inl ⟨.mark 1, ⟨rfl, by show 1 < 4; decide⟩, ⟨w1.heap.size, rfl, HcY.out⟩⟩⟩

set_option maxHeartbeats 4000000 in
set_option maxRecDepth 100000 in
theorem form_d2 (b : Nat) (t o : List UInt8) (w : World) (hz : t.length + o.length ≤ 4999) (h : RdAt b (50 :: t) o w) :
    Calls Try.prog 31 #[.pointer (some ⟨b, 0, none⟩)] w fun e w' => FormOut b (50 :: t) o w e w' := by
  have HSg := Lib.hid (sign_any b (50 :: t) o w h (by simp; omega))
  have hb := h.lt
  clear h
  go_enter Try.func31, Try.ntmps31
  go_wp2_with fail
  refine HSg.out.mono ?_
  rintro e w1 ⟨rfl, hr1, kp1⟩
  rw [show ((hd (50 :: t)).toNat : Int) = 50 from rfl]
  simp only [tl] at hr1
  have HR1 := Lib.hid (hr1.keep (below_one w1 (.cells #[.int .u8 50] 5)))
  have HKp1 := Lib.hid (kp1.trans (Kp.of (below_one w1 (.cells #[.int .u8 50] 5))))
  have HcY : Hid ((w1.alloc (.cells #[.int .u8 50] 5)).cell? ⟨w1.heap.size, 0, none⟩ = some (.int .u8 50)) := block_cell (heap_alloc_new w1 _) 0
  clear hr1 kp1
  go_wp2
  go_ret
  exact ⟨_, t, rfl, HR1.out, HKp1.out, by simp, Or.inl ⟨.mark 2, ⟨rfl, by show 2 < 4; decide⟩, ⟨w1.heap.size, rfl, HcY.out⟩⟩⟩

set_option maxHeartbeats 4000000 in
set_option maxRecDepth 100000 in
theorem form_d3 (b : Nat) (t o : List UInt8) (w : World) (hz : t.length + o.length ≤ 4999) (h : RdAt b (51 :: t) o w) :
    Calls Try.prog 31 #[.pointer (some ⟨b, 0, none⟩)] w fun e w' => FormOut b (51 :: t) o w e w' := by
  have HSg := Lib.hid (sign_any b (51 :: t) o w h (by simp; omega))
  have hb := h.lt
  clear h
  go_enter Try.func31, Try.ntmps31
  go_wp2_with fail
  refine HSg.out.mono ?_
  rintro e w1 ⟨rfl, hr1, kp1⟩
  rw [show ((hd (51 :: t)).toNat : Int) = 51 from rfl]
  simp only [tl] at hr1
  have HR1 := Lib.hid (hr1.keep (below_one w1 (.cells #[.int .u8 51] 5)))
  have HKp1 := Lib.hid (kp1.trans (Kp.of (below_one w1 (.cells #[.int .u8 51] 5))))
  have HcY : Hid ((w1.alloc (.cells #[.int .u8 51] 5)).cell? ⟨w1.heap.size, 0, none⟩ = some (.int .u8 51)) := block_cell (heap_alloc_new w1 _) 0
  clear hr1 kp1
  go_wp2
  go_ret
  exact ⟨_, t, rfl, HR1.out, HKp1.out, by simp, Or.inl ⟨.mark 3, ⟨rfl, by show 3 < 4; decide⟩, ⟨w1.heap.size, rfl, HcY.out⟩⟩⟩

set_option maxHeartbeats 4000000 in
set_option maxRecDepth 100000 in
theorem form_t (b : Nat) (t o : List UInt8) (w : World) (hz : t.length + o.length ≤ 4999) (h : RdAt b (116 :: t) o w) :
    Calls Try.prog 31 #[.pointer (some ⟨b, 0, none⟩)] w fun e w' => FormOut b (116 :: t) o w e w' := by
  have HSg := Lib.hid (sign_any b (116 :: t) o w h (by simp; omega))
  have hb := h.lt
  clear h
  go_enter Try.func31, Try.ntmps31
  go_wp2_with fail
  refine HSg.out.mono ?_
  rintro e w1 ⟨rfl, hr1, kp1⟩
  rw [show ((hd (116 :: t)).toNat : Int) = 116 from rfl]
  simp only [tl] at hr1
  have HR1 := Lib.hid (hr1.keep (below_one w1 (.cells #[.int .u8 116] 5)))
  have HKp1 := Lib.hid (kp1.trans (Kp.of (below_one w1 (.cells #[.int .u8 116] 5))))
  have HcY : Hid ((w1.alloc (.cells #[.int .u8 116] 5)).cell? ⟨w1.heap.size, 0, none⟩ = some (.int .u8 116)) := block_cell (heap_alloc_new w1 _) 0
  clear hr1 kp1
  go_wp2
  go_ret
  exact ⟨_, t, rfl, HR1.out, HKp1.out, by simp, Or.inl ⟨.tt, ⟨rfl, trivial⟩, rfl⟩⟩

set_option maxHeartbeats 4000000 in
set_option maxRecDepth 100000 in
theorem form_f (b : Nat) (t o : List UInt8) (w : World) (hz : t.length + o.length ≤ 4999) (h : RdAt b (102 :: t) o w) :
    Calls Try.prog 31 #[.pointer (some ⟨b, 0, none⟩)] w fun e w' => FormOut b (102 :: t) o w e w' := by
  have HSg := Lib.hid (sign_any b (102 :: t) o w h (by simp; omega))
  have hb := h.lt
  clear h
  go_enter Try.func31, Try.ntmps31
  go_wp2_with fail
  refine HSg.out.mono ?_
  rintro e w1 ⟨rfl, hr1, kp1⟩
  rw [show ((hd (102 :: t)).toNat : Int) = 102 from rfl]
  simp only [tl] at hr1
  have HR1 := Lib.hid (hr1.keep (below_one w1 (.cells #[.int .u8 102] 5)))
  have HKp1 := Lib.hid (kp1.trans (Kp.of (below_one w1 (.cells #[.int .u8 102] 5))))
  have HcY : Hid ((w1.alloc (.cells #[.int .u8 102] 5)).cell? ⟨w1.heap.size, 0, none⟩ = some (.int .u8 102)) := block_cell (heap_alloc_new w1 _) 0
  clear hr1 kp1
  go_wp2
  go_ret
  exact ⟨_, t, rfl, HR1.out, HKp1.out, by simp, Or.inl ⟨.ff, ⟨rfl, trivial⟩, rfl⟩⟩

set_option maxHeartbeats 4000000 in
set_option maxRecDepth 100000 in
theorem form_unm (b : Nat) (t o : List UInt8) (w : World) (hz : t.length + o.length ≤ 4999) (h : RdAt b (45 :: t) o w) :
    Calls Try.prog 31 #[.pointer (some ⟨b, 0, none⟩)] w fun e w' => FormOut b (45 :: t) o w e w' := by
  have HSg := Lib.hid (sign_any b (45 :: t) o w h (by simp; omega))
  have hb := h.lt
  have HC : Hid (∀ W, RdAt b t o W → Calls Try.prog 41 #[.pointer (some ⟨b, 0, none⟩)] W fun e w' => FormOut b (45 :: t) o W e w') := fun W h => unmarked_any b t o W h (by omega)
  clear h
  go_enter Try.func31, Try.ntmps31
  go_wp2_with fail
  refine HSg.out.mono ?_
  rintro e w1 ⟨rfl, hr1, kp1⟩
  rw [show ((hd (45 :: t)).toNat : Int) = 45 from rfl]
  simp only [tl] at hr1
  have HR1 := Lib.hid (hr1.keep (below_one w1 (.cells #[.int .u8 45] 5)))
  have HKp1 := Lib.hid (kp1.trans (Kp.of (below_one w1 (.cells #[.int .u8 45] 5))))
  have HcY : Hid ((w1.alloc (.cells #[.int .u8 45] 5)).cell? ⟨w1.heap.size, 0, none⟩ = some (.int .u8 45)) := block_cell (heap_alloc_new w1 _) 0
  clear hr1 kp1
  have H := Lib.hid (HC.out _ HR1.out)
  go_wp2_with fail
  refine H.out.mono ?_
  rintro e w2 ⟨v, r, rfl, hr2, kp2, hl2, hm2⟩
  have HE : Hid (FormOut b (45 :: t) o w (.returned v) w2) := ⟨v, r, rfl, hr2, HKp1.out.trans kp2, hl2, hm2⟩
  clear hr2 kp2 hm2
  go_wp2
  go_ret
  exact HE.out

set_option maxHeartbeats 4000000 in
set_option maxRecDepth 100000 in
theorem form_and (N : Nat) (hN : FC N) (b : Nat) (t o : List UInt8) (w : World) (hl : t.length ≤ N) (hz : t.length + o.length ≤ 4999) (h : RdAt b (38 :: t) o w) :
    Calls Try.prog 31 #[.pointer (some ⟨b, 0, none⟩)] w fun e w' => FormOut b (38 :: t) o w e w' := by
  have HSg := Lib.hid (sign_any b (38 :: t) o w h (by simp; omega))
  have hb := h.lt
  have HC : Hid (∀ W, RdAt b t o W → Calls Try.prog 44 #[.pointer (some ⟨b, 0, none⟩), .int .u8 38] W fun e w' => FormOut b (38 :: t) o W e w') := fun W h => both_any N hN true b t o W hl hz h
  clear h
  go_enter Try.func31, Try.ntmps31
  go_wp2_with fail
  refine HSg.out.mono ?_
  rintro e w1 ⟨rfl, hr1, kp1⟩
  rw [show ((hd (38 :: t)).toNat : Int) = 38 from rfl]
  simp only [tl] at hr1
  have HR1 := Lib.hid (hr1.keep (below_one w1 (.cells #[.int .u8 38] 5)))
  have HKp1 := Lib.hid (kp1.trans (Kp.of (below_one w1 (.cells #[.int .u8 38] 5))))
  have HcY : Hid ((w1.alloc (.cells #[.int .u8 38] 5)).cell? ⟨w1.heap.size, 0, none⟩ = some (.int .u8 38)) := block_cell (heap_alloc_new w1 _) 0
  clear hr1 kp1
  have H := Lib.hid (HC.out _ HR1.out)
  go_wp2_with fail
  refine H.out.mono ?_
  rintro e w2 ⟨v, r, rfl, hr2, kp2, hl2, hm2⟩
  have HE : Hid (FormOut b (38 :: t) o w (.returned v) w2) := ⟨v, r, rfl, hr2, HKp1.out.trans kp2, hl2, hm2⟩
  clear hr2 kp2 hm2
  go_wp2
  go_ret
  exact HE.out

set_option maxHeartbeats 4000000 in
set_option maxRecDepth 100000 in
theorem form_or (N : Nat) (hN : FC N) (b : Nat) (t o : List UInt8) (w : World) (hl : t.length ≤ N) (hz : t.length + o.length ≤ 4999) (h : RdAt b (124 :: t) o w) :
    Calls Try.prog 31 #[.pointer (some ⟨b, 0, none⟩)] w fun e w' => FormOut b (124 :: t) o w e w' := by
  have HSg := Lib.hid (sign_any b (124 :: t) o w h (by simp; omega))
  have hb := h.lt
  have HC : Hid (∀ W, RdAt b t o W → Calls Try.prog 44 #[.pointer (some ⟨b, 0, none⟩), .int .u8 124] W fun e w' => FormOut b (124 :: t) o W e w') := fun W h => both_any N hN false b t o W hl hz h
  clear h
  go_enter Try.func31, Try.ntmps31
  go_wp2_with fail
  refine HSg.out.mono ?_
  rintro e w1 ⟨rfl, hr1, kp1⟩
  rw [show ((hd (124 :: t)).toNat : Int) = 124 from rfl]
  simp only [tl] at hr1
  have HR1 := Lib.hid (hr1.keep (below_one w1 (.cells #[.int .u8 124] 5)))
  have HKp1 := Lib.hid (kp1.trans (Kp.of (below_one w1 (.cells #[.int .u8 124] 5))))
  have HcY : Hid ((w1.alloc (.cells #[.int .u8 124] 5)).cell? ⟨w1.heap.size, 0, none⟩ = some (.int .u8 124)) := block_cell (heap_alloc_new w1 _) 0
  clear hr1 kp1
  have H := Lib.hid (HC.out _ HR1.out)
  go_wp2_with fail
  refine H.out.mono ?_
  rintro e w2 ⟨v, r, rfl, hr2, kp2, hl2, hm2⟩
  have HE : Hid (FormOut b (124 :: t) o w (.returned v) w2) := ⟨v, r, rfl, hr2, HKp1.out.trans kp2, hl2, hm2⟩
  clear hr2 kp2 hm2
  go_wp2
  go_ret
  exact HE.out

set_option maxHeartbeats 4000000 in
set_option maxRecDepth 100000 in
theorem form_dia (N : Nat) (hN : FC N) (b : Nat) (t o : List UInt8) (w : World) (hl : t.length ≤ N) (hz : t.length + o.length ≤ 4999) (h : RdAt b (60 :: t) o w) :
    Calls Try.prog 31 #[.pointer (some ⟨b, 0, none⟩)] w fun e w' => FormOut b (60 :: t) o w e w' := by
  have HSg := Lib.hid (sign_any b (60 :: t) o w h (by simp; omega))
  have hb := h.lt
  have HC : Hid (∀ W, RdAt b t o W → Calls Try.prog 45 #[.pointer (some ⟨b, 0, none⟩), .int .u8 60] W fun e w' => FormOut b (60 :: t) o W e w') := fun W h => ahead_any N hN true b t o W hl hz h
  clear h
  go_enter Try.func31, Try.ntmps31
  go_wp2_with fail
  refine HSg.out.mono ?_
  rintro e w1 ⟨rfl, hr1, kp1⟩
  rw [show ((hd (60 :: t)).toNat : Int) = 60 from rfl]
  simp only [tl] at hr1
  have HR1 := Lib.hid (hr1.keep (below_one w1 (.cells #[.int .u8 60] 5)))
  have HKp1 := Lib.hid (kp1.trans (Kp.of (below_one w1 (.cells #[.int .u8 60] 5))))
  have HcY : Hid ((w1.alloc (.cells #[.int .u8 60] 5)).cell? ⟨w1.heap.size, 0, none⟩ = some (.int .u8 60)) := block_cell (heap_alloc_new w1 _) 0
  clear hr1 kp1
  have H := Lib.hid (HC.out _ HR1.out)
  go_wp2_with fail
  refine H.out.mono ?_
  rintro e w2 ⟨v, r, rfl, hr2, kp2, hl2, hm2⟩
  have HE : Hid (FormOut b (60 :: t) o w (.returned v) w2) := ⟨v, r, rfl, hr2, HKp1.out.trans kp2, hl2, hm2⟩
  clear hr2 kp2 hm2
  go_wp2
  go_ret
  exact HE.out

set_option maxHeartbeats 4000000 in
set_option maxRecDepth 100000 in
theorem form_box (N : Nat) (hN : FC N) (b : Nat) (t o : List UInt8) (w : World) (hl : t.length ≤ N) (hz : t.length + o.length ≤ 4999) (h : RdAt b (91 :: t) o w) :
    Calls Try.prog 31 #[.pointer (some ⟨b, 0, none⟩)] w fun e w' => FormOut b (91 :: t) o w e w' := by
  have HSg := Lib.hid (sign_any b (91 :: t) o w h (by simp; omega))
  have hb := h.lt
  have HC : Hid (∀ W, RdAt b t o W → Calls Try.prog 45 #[.pointer (some ⟨b, 0, none⟩), .int .u8 91] W fun e w' => FormOut b (91 :: t) o W e w') := fun W h => ahead_any N hN false b t o W hl hz h
  clear h
  go_enter Try.func31, Try.ntmps31
  go_wp2_with fail
  refine HSg.out.mono ?_
  rintro e w1 ⟨rfl, hr1, kp1⟩
  rw [show ((hd (91 :: t)).toNat : Int) = 91 from rfl]
  simp only [tl] at hr1
  have HR1 := Lib.hid (hr1.keep (below_one w1 (.cells #[.int .u8 91] 5)))
  have HKp1 := Lib.hid (kp1.trans (Kp.of (below_one w1 (.cells #[.int .u8 91] 5))))
  have HcY : Hid ((w1.alloc (.cells #[.int .u8 91] 5)).cell? ⟨w1.heap.size, 0, none⟩ = some (.int .u8 91)) := block_cell (heap_alloc_new w1 _) 0
  clear hr1 kp1
  have H := Lib.hid (HC.out _ HR1.out)
  go_wp2_with fail
  refine H.out.mono ?_
  rintro e w2 ⟨v, r, rfl, hr2, kp2, hl2, hm2⟩
  have HE : Hid (FormOut b (91 :: t) o w (.returned v) w2) := ⟨v, r, rfl, hr2, HKp1.out.trans kp2, hl2, hm2⟩
  clear hr2 kp2 hm2
  go_wp2
  go_ret
  exact HE.out

set_option maxHeartbeats 4000000 in
set_option maxRecDepth 100000 in
theorem form_v0 (b : Nat) (t o : List UInt8) (w : World) (hz : t.length + o.length ≤ 4999) (h : RdAt b (120 :: t) o w) :
    Calls Try.prog 31 #[.pointer (some ⟨b, 0, none⟩)] w fun e w' => FormOut b (120 :: t) o w e w' := by
  have HSg := Lib.hid (sign_any b (120 :: t) o w h (by simp; omega))
  have hb := h.lt
  have HC : Hid (∀ W, RdAt b t o W → Calls Try.prog 46 #[.pointer (some ⟨b, 0, none⟩), .int .u8 120] W fun e w' => FormOut b (120 :: t) o W e w') := fun W h => letter_any 0 (by decide) b t o W hz h
  clear h
  go_enter Try.func31, Try.ntmps31
  go_wp2_with fail
  refine HSg.out.mono ?_
  rintro e w1 ⟨rfl, hr1, kp1⟩
  rw [show ((hd (120 :: t)).toNat : Int) = 120 from rfl]
  simp only [tl] at hr1
  have HR1 := Lib.hid (hr1.keep (below_one w1 (.cells #[.int .u8 120] 5)))
  have HKp1 := Lib.hid (kp1.trans (Kp.of (below_one w1 (.cells #[.int .u8 120] 5))))
  have HcY : Hid ((w1.alloc (.cells #[.int .u8 120] 5)).cell? ⟨w1.heap.size, 0, none⟩ = some (.int .u8 120)) := block_cell (heap_alloc_new w1 _) 0
  clear hr1 kp1
  have H := Lib.hid (HC.out _ HR1.out)
  go_wp2_with fail
  refine H.out.mono ?_
  rintro e w2 ⟨v, r, rfl, hr2, kp2, hl2, hm2⟩
  have HE : Hid (FormOut b (120 :: t) o w (.returned v) w2) := ⟨v, r, rfl, hr2, HKp1.out.trans kp2, hl2, hm2⟩
  clear hr2 kp2 hm2
  go_wp2
  go_ret
  exact HE.out

set_option maxHeartbeats 4000000 in
set_option maxRecDepth 100000 in
theorem form_v1 (b : Nat) (t o : List UInt8) (w : World) (hz : t.length + o.length ≤ 4999) (h : RdAt b (121 :: t) o w) :
    Calls Try.prog 31 #[.pointer (some ⟨b, 0, none⟩)] w fun e w' => FormOut b (121 :: t) o w e w' := by
  have HSg := Lib.hid (sign_any b (121 :: t) o w h (by simp; omega))
  have hb := h.lt
  have HC : Hid (∀ W, RdAt b t o W → Calls Try.prog 46 #[.pointer (some ⟨b, 0, none⟩), .int .u8 121] W fun e w' => FormOut b (121 :: t) o W e w') := fun W h => letter_any 1 (by decide) b t o W hz h
  clear h
  go_enter Try.func31, Try.ntmps31
  go_wp2_with fail
  refine HSg.out.mono ?_
  rintro e w1 ⟨rfl, hr1, kp1⟩
  rw [show ((hd (121 :: t)).toNat : Int) = 121 from rfl]
  simp only [tl] at hr1
  have HR1 := Lib.hid (hr1.keep (below_one w1 (.cells #[.int .u8 121] 5)))
  have HKp1 := Lib.hid (kp1.trans (Kp.of (below_one w1 (.cells #[.int .u8 121] 5))))
  have HcY : Hid ((w1.alloc (.cells #[.int .u8 121] 5)).cell? ⟨w1.heap.size, 0, none⟩ = some (.int .u8 121)) := block_cell (heap_alloc_new w1 _) 0
  clear hr1 kp1
  have H := Lib.hid (HC.out _ HR1.out)
  go_wp2_with fail
  refine H.out.mono ?_
  rintro e w2 ⟨v, r, rfl, hr2, kp2, hl2, hm2⟩
  have HE : Hid (FormOut b (121 :: t) o w (.returned v) w2) := ⟨v, r, rfl, hr2, HKp1.out.trans kp2, hl2, hm2⟩
  clear hr2 kp2 hm2
  go_wp2
  go_ret
  exact HE.out

set_option maxHeartbeats 4000000 in
set_option maxRecDepth 100000 in
theorem form_v2 (b : Nat) (t o : List UInt8) (w : World) (hz : t.length + o.length ≤ 4999) (h : RdAt b (122 :: t) o w) :
    Calls Try.prog 31 #[.pointer (some ⟨b, 0, none⟩)] w fun e w' => FormOut b (122 :: t) o w e w' := by
  have HSg := Lib.hid (sign_any b (122 :: t) o w h (by simp; omega))
  have hb := h.lt
  have HC : Hid (∀ W, RdAt b t o W → Calls Try.prog 46 #[.pointer (some ⟨b, 0, none⟩), .int .u8 122] W fun e w' => FormOut b (122 :: t) o W e w') := fun W h => letter_any 2 (by decide) b t o W hz h
  clear h
  go_enter Try.func31, Try.ntmps31
  go_wp2_with fail
  refine HSg.out.mono ?_
  rintro e w1 ⟨rfl, hr1, kp1⟩
  rw [show ((hd (122 :: t)).toNat : Int) = 122 from rfl]
  simp only [tl] at hr1
  have HR1 := Lib.hid (hr1.keep (below_one w1 (.cells #[.int .u8 122] 5)))
  have HKp1 := Lib.hid (kp1.trans (Kp.of (below_one w1 (.cells #[.int .u8 122] 5))))
  have HcY : Hid ((w1.alloc (.cells #[.int .u8 122] 5)).cell? ⟨w1.heap.size, 0, none⟩ = some (.int .u8 122)) := block_cell (heap_alloc_new w1 _) 0
  clear hr1 kp1
  have H := Lib.hid (HC.out _ HR1.out)
  go_wp2_with fail
  refine H.out.mono ?_
  rintro e w2 ⟨v, r, rfl, hr2, kp2, hl2, hm2⟩
  have HE : Hid (FormOut b (122 :: t) o w (.returned v) w2) := ⟨v, r, rfl, hr2, HKp1.out.trans kp2, hl2, hm2⟩
  clear hr2 kp2 hm2
  go_wp2
  go_ret
  exact HE.out

set_option maxHeartbeats 4000000 in
set_option maxRecDepth 100000 in
theorem form_g (N : Nat) (hN : FC N) (b : Nat) (t o : List UInt8) (w : World) (hl : t.length ≤ N) (hz : t.length + o.length ≤ 4999) (h : RdAt b (103 :: t) o w) :
    Calls Try.prog 31 #[.pointer (some ⟨b, 0, none⟩)] w fun e w' => FormOut b (103 :: t) o w e w' := by
  have HSg := Lib.hid (sign_any b (103 :: t) o w h (by simp; omega))
  have hb := h.lt
  have HC : Hid (∀ W, RdAt b t o W → Calls Try.prog 47 #[.pointer (some ⟨b, 0, none⟩), .int .u8 103] W fun e w' => FormOut b (103 :: t) o W e w') := fun W h => rfix_any N hN true b t o W hl hz h
  clear h
  go_enter Try.func31, Try.ntmps31
  go_wp2_with fail
  refine HSg.out.mono ?_
  rintro e w1 ⟨rfl, hr1, kp1⟩
  rw [show ((hd (103 :: t)).toNat : Int) = 103 from rfl]
  simp only [tl] at hr1
  have HR1 := Lib.hid (hr1.keep (below_one w1 (.cells #[.int .u8 103] 5)))
  have HKp1 := Lib.hid (kp1.trans (Kp.of (below_one w1 (.cells #[.int .u8 103] 5))))
  have HcY : Hid ((w1.alloc (.cells #[.int .u8 103] 5)).cell? ⟨w1.heap.size, 0, none⟩ = some (.int .u8 103)) := block_cell (heap_alloc_new w1 _) 0
  clear hr1 kp1
  have H := Lib.hid (HC.out _ HR1.out)
  go_wp2_with fail
  refine H.out.mono ?_
  rintro e w2 ⟨v, r, rfl, hr2, kp2, hl2, hm2⟩
  have HE : Hid (FormOut b (103 :: t) o w (.returned v) w2) := ⟨v, r, rfl, hr2, HKp1.out.trans kp2, hl2, hm2⟩
  clear hr2 kp2 hm2
  go_wp2
  go_ret
  exact HE.out

set_option maxHeartbeats 4000000 in
set_option maxRecDepth 100000 in
theorem form_m (N : Nat) (hN : FC N) (b : Nat) (t o : List UInt8) (w : World) (hl : t.length ≤ N) (hz : t.length + o.length ≤ 4999) (h : RdAt b (109 :: t) o w) :
    Calls Try.prog 31 #[.pointer (some ⟨b, 0, none⟩)] w fun e w' => FormOut b (109 :: t) o w e w' := by
  have HSg := Lib.hid (sign_any b (109 :: t) o w h (by simp; omega))
  have hb := h.lt
  have HC : Hid (∀ W, RdAt b t o W → Calls Try.prog 47 #[.pointer (some ⟨b, 0, none⟩), .int .u8 109] W fun e w' => FormOut b (109 :: t) o W e w') := fun W h => rfix_any N hN false b t o W hl hz h
  clear h
  go_enter Try.func31, Try.ntmps31
  go_wp2_with fail
  refine HSg.out.mono ?_
  rintro e w1 ⟨rfl, hr1, kp1⟩
  rw [show ((hd (109 :: t)).toNat : Int) = 109 from rfl]
  simp only [tl] at hr1
  have HR1 := Lib.hid (hr1.keep (below_one w1 (.cells #[.int .u8 109] 5)))
  have HKp1 := Lib.hid (kp1.trans (Kp.of (below_one w1 (.cells #[.int .u8 109] 5))))
  have HcY : Hid ((w1.alloc (.cells #[.int .u8 109] 5)).cell? ⟨w1.heap.size, 0, none⟩ = some (.int .u8 109)) := block_cell (heap_alloc_new w1 _) 0
  clear hr1 kp1
  have H := Lib.hid (HC.out _ HR1.out)
  go_wp2_with fail
  refine H.out.mono ?_
  rintro e w2 ⟨v, r, rfl, hr2, kp2, hl2, hm2⟩
  have HE : Hid (FormOut b (109 :: t) o w (.returned v) w2) := ⟨v, r, rfl, hr2, HKp1.out.trans kp2, hl2, hm2⟩
  clear hr2 kp2 hm2
  go_wp2
  go_ret
  exact HE.out

set_option maxHeartbeats 4000000 in
set_option maxRecDepth 100000 in
theorem form_nil (b : Nat) (o : List UInt8) (w : World) (h : RdAt b [] o w) :
    Calls Try.prog 31 #[.pointer (some ⟨b, 0, none⟩)] w fun e w' => FormOut b [] o w e w' := by
  have HSg := Lib.hid (sign_any b [] o w h (by simp))
  clear h
  go_enter Try.func31, Try.ntmps31
  go_wp2_with fail
  refine HSg.out.mono ?_
  rintro e w1 ⟨rfl, hr1, kp1⟩
  rw [show ((hd []).toNat : Int) = 0 from rfl]
  simp only [tl] at hr1
  have HR1 := Lib.hid (hr1.keep (below_one w1 (.cells #[.int .u8 0] 5)))
  have HKp1 := Lib.hid (kp1.trans (Kp.of (below_one w1 (.cells #[.int .u8 0] 5))))
  clear hr1 kp1
  go_wp2
  go_ret
  exact ⟨_, [], rfl, HR1.out, HKp1.out, Nat.le_refl _, Or.inr ⟨rfl, fun _ _ => begins_nil⟩⟩

set_option maxHeartbeats 4000000 in
set_option maxRecDepth 100000 in
theorem form_none (x : UInt8) (hx : kind x = 0) (b : Nat) (t o : List UInt8) (w : World) (hz : t.length + o.length ≤ 4999) (h : RdAt b (x :: t) o w) :
    Calls Try.prog 31 #[.pointer (some ⟨b, 0, none⟩)] w fun e w' => FormOut b (x :: t) o w e w' := by
  have HSg := Lib.hid (sign_any b (x :: t) o w h (by simp; omega))
  have HX := Lib.hid hx
  have hk := kind_zero hx
  have ne : ∀ y : UInt8, x ≠ y → ((x.toNat : Int) == (y.toNat : Int)) = false := fun y h => by
    rw [beq_eq_false_iff_ne]
    intro e
    exact h (UInt8.toNat_inj.1 (by omega))
  obtain ⟨h0, h1, h2, h3, h4, h5, h6, h7, h8, h9, h10, h11, h12, h13, h14, h15⟩ := hk
  have g0 : ((x.toNat : Int) == 48) = false := ne 48 h0
  have g1 : ((x.toNat : Int) == 49) = false := ne 49 h1
  have g2 : ((x.toNat : Int) == 50) = false := ne 50 h2
  have g3 : ((x.toNat : Int) == 51) = false := ne 51 h3
  have g4 : ((x.toNat : Int) == 45) = false := ne 45 h4
  have g5 : ((x.toNat : Int) == 116) = false := ne 116 h5
  have g6 : ((x.toNat : Int) == 102) = false := ne 102 h6
  have g7 : ((x.toNat : Int) == 38) = false := ne 38 h7
  have g8 : ((x.toNat : Int) == 124) = false := ne 124 h8
  have g9 : ((x.toNat : Int) == 60) = false := ne 60 h9
  have g10 : ((x.toNat : Int) == 91) = false := ne 91 h10
  have g11 : ((x.toNat : Int) == 120) = false := ne 120 h11
  have g12 : ((x.toNat : Int) == 121) = false := ne 121 h12
  have g13 : ((x.toNat : Int) == 122) = false := ne 122 h13
  have g14 : ((x.toNat : Int) == 103) = false := ne 103 h14
  have g15 : ((x.toNat : Int) == 109) = false := ne 109 h15
  clear h0 h1 h2 h3 h4 h5 h6 h7 h8 h9 h10 h11 h12 h13 h14 h15
  have hy := UInt8.toNat_lt x
  generalize hY : (x.toNat : Int) = Y at *
  have HY := Lib.hid hY
  clear h hx ne hY
  go_enter Try.func31, Try.ntmps31
  go_wp2_with fail
  refine HSg.out.mono ?_
  rintro e w1 ⟨rfl, hr1, kp1⟩
  rw [show ((hd (x :: t)).toNat : Int) = Y from HY.out]
  simp only [tl] at hr1
  have HR1 := Lib.hid (hr1.keep (below_one w1 (.cells #[.int .u8 Y] 5)))
  have HKp1 := Lib.hid (kp1.trans (Kp.of (below_one w1 (.cells #[.int .u8 Y] 5))))
  clear hr1 kp1
  go_wp2
  go_ret
  exact ⟨_, t, rfl, HR1.out, HKp1.out, by simp, Or.inr ⟨rfl, fun _ _ => begins_none HX.out⟩⟩

theorem fc_all : ∀ N, FC N := by
  intro N
  induction N with
  | zero =>
    intro b l o w hl hz h
    obtain rfl : l = [] := List.length_eq_zero_iff.1 (by omega)
    exact form_nil b o w h
  | succ N ih =>
    intro b l o w hl hz h
    cases l with
    | nil => exact form_nil b o w h
    | cons x t =>
      simp only [List.length_cons] at hl hz
      have hl' : t.length ≤ N := by omega
      have hz' : t.length + o.length ≤ 4999 := by omega
      rcases byte_cases x with ⟨k, hk, rfl⟩ | rfl | rfl | rfl | (rfl | rfl) | (rfl | rfl) | ⟨c, hc, rfl⟩ | (rfl | rfl) | hx
      · rcases cases4 hk with rfl | rfl | rfl | rfl
        · exact form_d0 b t o w hz' h
        · exact form_d1 b t o w hz' h
        · exact form_d2 b t o w hz' h
        · exact form_d3 b t o w hz' h
      · exact form_unm b t o w hz' h
      · exact form_t b t o w hz' h
      · exact form_f b t o w hz' h
      · exact form_and N ih b t o w hl' hz' h
      · exact form_or N ih b t o w hl' hz' h
      · exact form_dia N ih b t o w hl' hz' h
      · exact form_box N ih b t o w hl' hz' h
      · rcases cases3 hc with rfl | rfl | rfl
        · exact form_v0 b t o w hz' h
        · exact form_v1 b t o w hz' h
        · exact form_v2 b t o w hz' h
      · exact form_g N ih b t o w hl' hz' h
      · exact form_m N ih b t o w hl' hz' h
      · exact form_none x hx b t o w hz' h
end Go.Proofs.Ytkbbijhknbcflab
