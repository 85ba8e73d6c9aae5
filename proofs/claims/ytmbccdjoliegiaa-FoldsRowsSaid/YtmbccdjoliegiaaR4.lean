import Derived.Test.YtmbccdjoliegiaaR3
namespace Go.Proofs.Ytmbccdjoliegiaa
open Go.RowKit

/-- The same of two triples: leaf, leaf, side. -/
def crossT (pz : Nat → Int) (x y : Tri) : Bool := crossR pz x.p.toNat x.q.toNat y.p.toNat y.q.toNat x.r y.r
def TriIn (n : Nat) (t : Tri) : Prop := 0 ≤ t.p ∧ t.p < n ∧ 0 ≤ t.q ∧ t.q < n

theorem rcrossT_any (a : Option Addr) (cap n : Nat) (pz : Nat → Int) (x y : Tri) (w : World) (hn : n ≤ 1000) (hx : TriIn n x) (hy : TriIn n y) (hc : Ints w a n pz) :
    Calls Try.prog 71 #[.slice a n cap, .agg #[.int .i64 x.p, .int .i64 x.q, .int .i64 x.r], .agg #[.int .i64 y.p, .int .i64 y.q, .int .i64 y.r]] w fun e w' => e = .returned (.bool (crossT pz x y)) ∧ Below w.heap.size w w' := by
  obtain ⟨h1, h2, h3, h4⟩ := hx
  obtain ⟨h5, h6, h7, h8⟩ := hy
  have h := rcross_any a cap n pz x.p.toNat x.q.toNat y.p.toNat y.q.toNat x.r y.r w hn (by omega) (by omega) (by omega) (by omega) hc
  rw [Int.toNat_of_nonneg h1, Int.toNat_of_nonneg h3, Int.toNat_of_nonneg h5, Int.toNat_of_nonneg h7] at h
  exact h

def rstripN (k : Nat) : List Tri := (List.range k).map fun (i : Nat) => ⟨(i : Int), (i : Int) + 1, (i : Int) % 2⟩
theorem rstripN_snoc (k : Nat) : rstripN (k + 1) = rstripN k ++ [⟨(k : Int), (k : Int) + 1, (k : Int) % 2⟩] := by simp [rstripN, List.range_succ]
theorem rstripN_len (k : Nat) : (rstripN k).length = k := by simp [rstripN]
theorem rstripN_at (k i : Nat) (h : i < k) : triAt (rstripN k) i = ⟨(i : Int), (i : Int) + 1, (i : Int) % 2⟩ := by simp [triAt, rstripN, h]
theorem rowN_at (f k i : Nat) (h : i < k) : triAt (rowN f k) i = ⟨((i % 2 : Nat) : Int), ((f + i : Nat) : Int), ((f + i + 1 : Nat) : Int)⟩ := by simp [triAt, rowN, h]

theorem Try.infoRC : (Try.prog.info? 80).map (fun i => (i.zero, i.size, i.bytes)) = some (some (.agg #[.int .i64 0, .int .i64 0, .int .i64 0]), 3, 24) := by kernel_rfl

set_option maxHeartbeats 1000000 in
set_option maxRecDepth 100000 in
theorem rstrip_any (n : Nat) (w : World) (hn : n ≤ 100) (h1 : 1 ≤ n) :
    Calls Try.prog 53 #[.int .i64 n] w fun e w' => ∃ v, e = .returned v ∧ OwnT 80 w' w.heap.size v (rstripN (n - 1)) ∧ Below w.heap.size w w' := by
  go_enter Try.func53, Try.ntmps53
  go_wp2
  go_loopw [3, 7] (fun v i wr => ∃ k : Nat, k ≤ n - 1 ∧ i = .int .i64 k ∧ OwnT 80 wr w.heap.size v (rstripN k) ∧ Below w.heap.size w wr) (fun _ i _ => n - (intOf i).toNat)
  case atStart => exact ⟨0, Nat.zero_le _, rfl, OwnT.nil _ _ _, Below.refl _ _⟩
  case round =>
    obtain ⟨k, hk, rfl, hO, hb⟩ := hrel
    have HO := Lib.hid hO
    have HB := Lib.hid hb
    have hBs := hb.size
    clear hO hb
    by_cases hlt : k + 1 < n
    · have hlt' : (k : Int) < (n : Int) - 1 := by omega
      obtain ⟨i0, hi, hz0, hz1, hz2⟩ := info_parts Try.infoRC
      have hl := Lib.hid (rstripN_len k)
      go_wp2_with (at_builtin; refine wpList_append_own _ rfl _ _ 67 rfl w.heap.size 80 i0 (.agg #[.int .i64 0, .int .i64 0, .int .i64 0]) 3 24 Try.underlying67 hi hz0 hz1 hz2 rfl (by decide) _ _ _ rfl (HO.out.alloc _) ⟨wr.heap.size, 0, none⟩ 1 1 (tcell ⟨(k : Int), (k : Int) + 1, (k : Int) % 2⟩) rfl rfl (three_new _ _ _) (three_ok _) (by have := hl.out; unfold maxLen; omega) (by have := hl.out; omega) (by simp; omega) ?_)
      intro v' w5 hown hgrow _
      have hO5 : OwnT 80 w5 w.heap.size v' (rstripN (k + 1)) := by rw [rstripN_snoc]; exact OwnT.snoc hown
      have hB5 : Below w.heap.size w w5 := (HB.out.alloc hBs _).grown hgrow (by simp; omega) (fun k hk => (World.ownsRow.lt HO.out k hk).1)
      have HO5 := Lib.hid hO5
      have HB5 := Lib.hid hB5
      clear hown hgrow hO5 hB5
      go_wp2
      go_roundw
      case rel => exact ⟨k + 1, by omega, by go_num, HO5.out, HB5.out⟩
      case measure => simp [intOf]; omega
    · have e : k = n - 1 := by omega
      have E := Lib.hid e
      clear e
      have hge : (n : Int) - 1 ≤ k := by omega
      go_wp2
      go_ret
      exact ⟨_, rfl, by rw [← E.out]; exact HO.out, HB.out⟩

/-- The boxes of 'first'. -/
structure FsAt (w wr : World) (pb n : Nat) (pz : Nat → Int) : Prop where
  bel : Below w.heap.size w wr
  b1 : wr.heap[w.heap.size]? = some (.cells #[.int .i64 0, .int .i64 0] 27)
  pl : SumAt wr pb n pz
theorem FsAt.keep {w wr w' : World} {pb n : Nat} {pz : Nat → Int} (h : FsAt w wr pb n pz) (hb : Below wr.heap.size wr w') : FsAt w w' pb n pz :=
  ⟨h.bel.trans (hb.mono h.bel.size), (hb.block _ (Array.getElem?_eq_some_iff.1 h.b1).1).trans h.b1, h.pl.keep h.pl.lt hb⟩
theorem FsAt.drew {w wr : World} {pb n : Nat} {pz : Nat → Int} (h : FsAt w wr pb n pz) : FsAt w wr.drew pb n pz := ⟨h.bel.drew, h.b1, h.pl⟩
theorem FsAt.cells {w wr : World} {pb n : Nat} {pz : Nat → Int} (h : FsAt w wr pb n pz) :
    wr.cell? ⟨w.heap.size, 0, none⟩ = some (.int .i64 0) ∧ wr.cell? ⟨w.heap.size, 1, none⟩ = some (.int .i64 0) ∧ wr.frozen? ⟨w.heap.size, 0, none⟩ = false ∧ wr.frozen? ⟨w.heap.size, 1, none⟩ = false :=
  ⟨block_cell h.b1 0, block_cell h.b1 1, block_free h.b1 0, block_free h.b1 1⟩
theorem FsAt.size {w wr : World} {pb n : Nat} {pz : Nat → Int} (h : FsAt w wr pb n pz) : w.heap.size < wr.heap.size := (Array.getElem?_eq_some_iff.1 h.b1).1
theorem FsAt.ints {w wr : World} {pb n : Nat} {pz : Nat → Int} (h : FsAt w wr pb n pz) : Ints wr (some ⟨pb, 0, none⟩) n pz := fun j hj => ⟨pb, 0, rfl, by rw [Nat.zero_add]; exact (h.pl.cell hj).1⟩
/-- The box of the crease at hand. -/
def RBox (wr : World) (b : Nat) (c : Tri) : Prop := wr.heap[b]? = some (.cells #[.int .i64 c.p, .int .i64 c.q, .int .i64 c.r] 80)
theorem RBox.keep {wr w' : World} {b : Nat} {c : Tri} (h : RBox wr b c) (hb : Below wr.heap.size wr w') : RBox w' b c := (hb.block _ (Array.getElem?_eq_some_iff.1 h).1).trans h
theorem RBox.cells {wr : World} {b : Nat} {c : Tri} (h : RBox wr b c) : wr.cell? ⟨b, 0, none⟩ = some (.int .i64 c.p) ∧ wr.cell? ⟨b, 1, none⟩ = some (.int .i64 c.q) ∧ wr.cell? ⟨b, 2, none⟩ = some (.int .i64 c.r) :=
  ⟨block_cell h 0, block_cell h 1, block_cell h 2⟩

def crossTAt (pz : Nat → Int) (l : List Tri) (i j : Nat) : Bool := crossT pz (triAt l i) (triAt l j)

set_option maxHeartbeats 4000000 in
set_option maxRecDepth 100000 in
theorem first_any (ca : Option Addr) (m cc : Nat) (l : List Tri) (a : Option Addr) (cap n : Nat) (z : Nat → Int) (w : World) (hn : n ≤ 20) (hm : m ≤ 1000) (hl : l.length = m) (hin : ∀ t ∈ l, TriIn n t) (hg : goodP n z n) (ht : TriAt w ca l) (hc : Ints w a n z) :
    Calls Try.prog 52 #[.slice a n cap, .slice ca m cc] w fun e w' => ∃ p q r, e = .returned (.tuple #[.agg #[.int .i64 p, .int .i64 q], .bool r]) ∧ FindX m (crossTAt (fun x => ix n z x) l) p q r ∧ Below w.heap.size w w' := by
  have hb0 : Below w.heap.size w (w.alloc (.cells #[.int .i64 0, .int .i64 0] 27)) := (Below.refl _ _).alloc (Nat.le_refl _) _
  have hp := places_any a cap n z _ hn hg (hc.keep (Nat.le_refl _) hb0)
  obtain ⟨pz, hpz⟩ : ∃ pz : Nat → Int, pz = fun (x : Nat) => ix n z x := ⟨_, rfl⟩
  rw [← hpz] at hp ⊢
  have HP := Lib.hid hp
  have HT := Lib.hid ht
  have HL := Lib.hid hl
  have HIn : Hid (∀ i, i < m → TriIn n (triAt l i)) := fun i hi => hin _ (List.mem_of_getElem? (triAt_get (by rw [hl]; exact hi)))
  have HX : Hid (∀ W' pb, FsAt w W' pb n pz → ∀ i j, i < m → j < m → ∀ c, Calls Try.prog 71 #[.slice (some ⟨pb, 0, none⟩) n c, .agg #[.int .i64 (triAt l i).p, .int .i64 (triAt l i).q, .int .i64 (triAt l i).r], .agg #[.int .i64 (triAt l j).p, .int .i64 (triAt l j).q, .int .i64 (triAt l j).r]] W' fun e w' => e = .returned (.bool (crossTAt pz l i j)) ∧ Below W'.heap.size W' w') :=
    fun W' pb hW i j hi hj c => rcrossT_any _ c n pz _ _ W' (by omega) (HIn.out i hi) (HIn.out j hj) hW.ints
  clear hp ht hl hin hg hc hpz
  go_enter Try.func52, Try.ntmps52
  go_wp2_with fail
  refine HP.out.mono ?_
  rintro e w2 ⟨pb, rfl, hpb, hS, hb2⟩
  have HF0 : Hid (FsAt w w2 pb n pz) := ⟨hb0.trans (hb2.mono (by simp)), (hb2.block _ (by simp)).trans (heap_alloc_new _ _), hS⟩
  clear hS hb2 hb0 HP hpb
  go_wp2
  go_loopw [14] (fun i wr => ∃ k : Nat, k ≤ m ∧ i = .int .i64 k ∧ FsAt w wr pb n pz ∧ Hid (∀ i j, i < k → i < j → j < m → crossTAt pz l i j = false)) (fun i _ => m - (intOf i).toNat)
  case atStart => exact ⟨0, Nat.zero_le _, rfl, HF0.out, fun i j hi => absurd hi (Nat.not_lt_zero _)⟩
  case round =>
    obtain ⟨k, hk, rfl, hX, hr⟩ := hrel
    obtain ⟨wo, hwo⟩ : ∃ wo : World, wo = wr := ⟨_, rfl⟩
    subst hwo
    obtain ⟨q2, q3, q4, q5⟩ := hX.cells
    have HX1 := Lib.hid hX
    clear hX HF0
    by_cases hlt : k < m
    · obtain ⟨b, rfl, t0, t1, t2⟩ := (HT.out.keep (Nat.le_refl _) HX1.out.bel) k (triAt l k) (triAt_get (by rw [HL.out]; exact hlt))
      have hX2 : FsAt w (wo.alloc (.cells #[.int .i64 (triAt l k).p, .int .i64 (triAt l k).q, .int .i64 (triAt l k).r] 80)) pb n pz := HX1.out.keep ((Below.refl _ _).alloc (Nat.le_refl _) _)
      have hC2 : RBox (wo.alloc (.cells #[.int .i64 (triAt l k).p, .int .i64 (triAt l k).q, .int .i64 (triAt l k).r] 80)) wo.heap.size (triAt l k) := heap_alloc_new _ _
      have HX2 := Lib.hid hX2
      have HC2 := Lib.hid hC2
      clear hX2 hC2
      go_wp2
      clear q2 q3 q4 q5 t0 t1 t2
      go_loopw [9] (fun j wx => ∃ k2 : Nat, k < k2 ∧ k2 ≤ m ∧ j = .int .i64 k2 ∧ FsAt w wx pb n pz ∧ RBox wx wo.heap.size (triAt l k) ∧ Hid (∀ j, k < j → j < k2 → crossTAt pz l k j = false)) (fun j _ => m - (intOf j).toNat)
      case atStart => exact ⟨k + 1, by omega, by omega, by go_num, HX2.out, HC2.out, fun j h1 h2 => absurd h1 (by omega)⟩
      case round =>
        obtain ⟨k2, hk1, hk2, rfl, hX, hC, hr2⟩ := hrel
        have HX3 := Lib.hid hX
        have HC3 := Lib.hid hC
        clear HX2 HC2
        obtain ⟨q2, q3, q4, q5⟩ := hX.cells
        obtain ⟨d0, d1, d2⟩ := hC.cells
        clear hX hC
        by_cases hlt2 : k2 < m
        · obtain ⟨b', he, t0, t1, t2⟩ := (HT.out.keep (Nat.le_refl _) HX3.out.bel) k2 (triAt l k2) (triAt_get (by rw [HL.out]; exact hlt2))
          cases he
          have HXX : Hid (∀ W', FsAt w W' pb n pz → RBox W' wo.heap.size (triAt l k) → ∀ c, Calls Try.prog 71 #[.slice (some ⟨pb, 0, none⟩) n c, .agg #[.int .i64 (triAt l k).p, .int .i64 (triAt l k).q, .int .i64 (triAt l k).r], .agg #[.int .i64 (triAt l k2).p, .int .i64 (triAt l k2).q, .int .i64 (triAt l k2).r]] W' fun e w' => e = .returned (.bool (crossTAt pz l k k2)) ∧ FsAt w w' pb n pz ∧ RBox w' wo.heap.size (triAt l k)) :=
            fun W' h1 h2 c => (HX.out W' pb h1 k k2 hlt hlt2 c).mono fun e w' h => ⟨h.1, h1.keep h.2, h2.keep h.2⟩
          have HXd : Hid (FsAt w wr.drew pb n pz) := HX3.out.drew
          have HCd : Hid (RBox wr.drew wo.heap.size (triAt l k)) := HC3.out
          have HTE : Hid (∀ W', FsAt w W' pb n pz → W'.cell? ⟨b, k2 * 3, none⟩ = some (.int .i64 (triAt l k2).p) ∧ W'.cell? ⟨b, k2 * 3 + 1, none⟩ = some (.int .i64 (triAt l k2).q) ∧ W'.cell? ⟨b, k2 * 3 + 2, none⟩ = some (.int .i64 (triAt l k2).r)) := fun W' h1 => by
            obtain ⟨b', he, t0, t1, t2⟩ := (HT.out.keep (Nat.le_refl _) h1.bel) k2 (triAt l k2) (triAt_get (by rw [HL.out]; exact hlt2))
            cases he
            exact ⟨t0, t1, t2⟩
          have hk2m : (k2 : Int) < m := by omega
          go_wp2
          go_region_held3 (fun w' => w'.cell? ⟨wo.heap.size, 0, none⟩ = some (.int .i64 (triAt l k).p) ∧ w'.cell? ⟨wo.heap.size, 1, none⟩ = some (.int .i64 (triAt l k).q) ∧ w'.cell? ⟨wo.heap.size, 2, none⟩ = some (.int .i64 (triAt l k).r) ∧
              w'.cell? ⟨b, k2 * 3, none⟩ = some (.int .i64 (triAt l k2).p) ∧ w'.cell? ⟨b, k2 * 3 + 1, none⟩ = some (.int .i64 (triAt l k2).q) ∧ w'.cell? ⟨b, k2 * 3 + 2, none⟩ = some (.int .i64 (triAt l k2).r))
            (first
              | (go_split_ands; exact ⟨HC4.out.cells.1, HC4.out.cells.2.1, HC4.out.cells.2.2, HTE.out _ HX4.out⟩)
              | (go_split_ands; exact ⟨HC3.out.cells.1, HC3.out.cells.2.1, HC3.out.cells.2.2, HTE.out _ HXd.out⟩)
              | (go_split_ands; exact ⟨HC3.out.cells.1, HC3.out.cells.2.1, HC3.out.cells.2.2, HTE.out _ HX3.out⟩)
              | go_keep)
            ((first
              | ((with_reducible refine (HXX.out _ HXd.out HCd.out _).mono ?_); rintro e w4 ⟨rfl, h4, h5⟩; have HX4 := Lib.hid h4; have HC4 := Lib.hid h5; clear h4 h5)))
          all_goals
            clear q2 q3 q4 q5
            obtain ⟨q2, q3, q4, q5⟩ := HX4.out.cells
            cases hx : crossTAt pz l k k2
            · have hr3 : Hid (∀ j, k < j → j < k2 + 1 → crossTAt pz l k j = false) := by
                intro j h1 h2
                by_cases e : j = k2
                · rw [e]; exact hx
                · exact hr2.out j h1 (by omega)
              go_wp2
              go_roundw
              case rel => exact ⟨k2 + 1, by omega, by omega, by go_num, HX4.out, HC4.out, hr3.out⟩
              case measure => simp [intOf]; omega
            · have hN : Hid (FindX m (crossTAt pz l) k k2 true) := Or.inl ⟨rfl, k, k2, rfl, rfl, hk1, hlt2, hx, hr2.out, hr.out⟩
              have HF : Hid (Below w.heap.size w ((w4.setCell ⟨w.heap.size, 0, none⟩ (.int .i64 k)).setCell ⟨w.heap.size, 1, none⟩ (.int .i64 k2))) := (HX4.out.bel.setCell (Nat.le_refl _) _).setCell (Nat.le_refl _) _
              go_wp2
              exact bodyPost_ret (v := .tuple #[.agg #[.int .i64 k, .int .i64 k2], .bool true]) (by simp [results, Try.results52, go_sem, q2, q3]) rfl ⟨k, k2, true, rfl, hN.out, HF.out⟩
        · have e : k2 = m := by omega
          have E := Lib.hid e
          clear e
          have hge : (m : Int) ≤ k2 := by omega
          have hr3 : Hid (∀ i j, i < k + 1 → i < j → j < m → crossTAt pz l i j = false) := by
            intro i j h1 h2 h3
            by_cases e : i = k
            · rw [e] at h2 ⊢; exact hr2.out j h2 (by have := E.out; omega)
            · exact hr.out i j (by omega) h2 h3
          go_wp2
          go_roundw
          case rel => exact ⟨k + 1, by omega, by go_num, HX3.out, hr3.out⟩
          case measure => simp [intOf]; omega
    · have e : k = m := by omega
      have E := Lib.hid e
      clear e
      have hge : (m : Int) ≤ k := by omega
      have hN : Hid (FindX m (crossTAt pz l) 0 0 false) := Or.inr ⟨rfl, rfl, rfl, fun i j h1 h2 => hr.out i j (by have := E.out; omega) h1 h2⟩
      have HF : Hid (Below w.heap.size w ((wo.setCell ⟨w.heap.size, 0, none⟩ (.int .i64 0)).setCell ⟨w.heap.size, 1, none⟩ (.int .i64 0))) := (HX1.out.bel.setCell (Nat.le_refl _) _).setCell (Nat.le_refl _) _
      go_wp2
      exact bodyPost_ret (v := .tuple #[.agg #[.int .i64 0, .int .i64 0], .bool false]) (by simp [results, Try.results52, go_sem, q2, q3]) rfl ⟨0, 0, false, rfl, hN.out, HF.out⟩

end Go.Proofs.Ytmbccdjoliegiaa
