import Derived.Test.YtaglbnblfhfkeaaD5
import Derived.Deep.LoopGhost
namespace Go.Proofs.Ytaglbnblfhfkeaa
open Go.RowKit

theorem flat_get : ∀ (l : List Vec) (k : Nat) (v : Vec), l[k]? = some v → ∀ i, i < 4 → (l.flatMap vcell)[k * 4 + i]? = (vcell v)[i]?
  | [], k, v, h, _, _ => by simp at h
  | u :: l, 0, v, h, i, hi => by
    simp at h; subst h
    rw [List.flatMap_cons, Nat.zero_mul, Nat.zero_add, List.getElem?_append_left (by simp [vcell]; exact hi)]
  | u :: l, k + 1, v, h, i, hi => by
    have h' : l[k]? = some v := by simpa using h
    have e : (vcell u).length = 4 := rfl
    rw [List.flatMap_cons, List.getElem?_append_right (by rw [e]; omega), e, show (k + 1) * 4 + i - 4 = k * 4 + i by omega]
    exact flat_get l k v h' i hi

/-- A slice of vectors that begins at the head of a block. -/
def VecsAt (w : World) (a : Option Addr) (l : List Vec) : Prop :=
  ∀ k v, l[k]? = some v → ∃ b, a = some ⟨b, 0, none⟩ ∧ w.cell? ⟨b, k * 4, none⟩ = some (.int .i64 v.a) ∧ w.cell? ⟨b, k * 4 + 1, none⟩ = some (.int .i64 v.b) ∧ w.cell? ⟨b, k * 4 + 2, none⟩ = some (.int .i64 v.c) ∧ w.cell? ⟨b, k * 4 + 3, none⟩ = some (.int .i64 v.d)

theorem VecsAt.keep {w w' : World} {a : Option Addr} {l : List Vec} (h : VecsAt w a l) {B : Nat} (hB : w.heap.size ≤ B) (hb : Below B w w') : VecsAt w' a l := by
  intro k v hk
  obtain ⟨b, ha, h0, h1, h2, h3⟩ := h k v hk
  have hlt := Nat.lt_of_lt_of_le (World.block_lt_of_cell? _ _ h0) hB
  exact ⟨b, ha, by rw [hb.cell (p := ⟨b, k * 4, none⟩) hlt]; exact h0, by rw [hb.cell (p := ⟨b, k * 4 + 1, none⟩) hlt]; exact h1, by rw [hb.cell (p := ⟨b, k * 4 + 2, none⟩) hlt]; exact h2, by rw [hb.cell (p := ⟨b, k * 4 + 3, none⟩) hlt]; exact h3⟩

theorem OwnV.read {w : World} {base : Nat} {val : Value} {l : List Vec} (h : OwnV w base val l) : ∃ a cap, val = .slice a l.length cap ∧ VecsAt w a l ∧ l.length ≤ cap ∧ cap ≤ maxLen := by
  rcases h.2 with ⟨rfl, hn⟩ | ⟨g, cap, cur, rfl, hb, hg, h1, h2, h3, h4⟩
  · have hl : l = [] := List.length_eq_zero_iff.1 hn
    subst hl
    exact ⟨none, 0, rfl, fun k v hk => by simp at hk, Nat.le_refl _, Nat.zero_le _⟩
  · refine ⟨_, _, rfl, fun k v hk => ?_, h1, h2⟩
    have hc := World.ownsRow.cells h (g := g) rfl
    have c : ∀ i, i < 4 → ∀ u, (vcell v)[i]? = some u → w.cell? ⟨g, k * 4 + i, none⟩ = some u := by
      intro i hi u hu
      have := hc (k * 4 + i) u (by rw [flat_get l k v hk i hi]; exact hu)
      rw [add_at, Nat.zero_add] at this
      exact this
    exact ⟨g, rfl, c 0 (by omega) _ rfl, c 1 (by omega) _ rfl, c 2 (by omega) _ rfl, c 3 (by omega) _ rfl⟩

theorem ownBlock_ge {w : World} {base : Nat} {e : TypeId} {size : Nat} {v : Value} {n : Nat} {xs : List Value} (h : w.ownsRow base e size v n xs) (hn : 0 < n) : ∃ k, v.ownBlock = some k ∧ base ≤ k := by
  rcases h.2 with ⟨_, h0⟩ | ⟨g, cap, cur, rfl, hb, _⟩
  · omega
  · exact ⟨g, rfl, hb⟩

/-- Append onto a row of the call's own: the row stays where it is, or lies in a block that is new. -/
theorem wpList_append_where {P : Program} (w : World) {ops : Array Oper} {rest : List Oper} {o : Oper} {a : Act} {Q : Exit → Act → World → Prop}
    (hg : o.guard = none) (s x : Operand) (t : TypeId) (hop : o.op = Op.call { callee := Callee.builtin Builtin.append, args := #[s, x], argTypes := #[t, t] })
    (base : Nat) (e : TypeId) (i : TypeInfo) (z : Value) (size bytes : Nat) (h1 : P.underlying t = some (.slice e)) (h2 : P.info? e = some i) (h3 : i.zero = some z) (h4 : i.size = size) (h5 : i.bytes = bytes) (h6 : z.cells.size = size) (h7 : 0 < size)
    (v : Value) (n : Nat) (xs : List Value) (hs : a.eval s = v) (hown : w.ownsRow base e size v n xs)
    (ad : Addr) (m c : Nat) (news : List Value) (hx : a.eval x = .slice (some ad) m c) (hn : news.length = m * size) (hc : ∀ j u, news[j]? = some u → w.cell? (ad.add j) = some u) (h1c : ∀ u ∈ news, u.oneCell' = true)
    (hm : 0 < m) (b1 : n + m ≤ maxLen) (b2 : (n + m) * bytes ≤ 140737488355328) (hbase : base ≤ w.heap.size)
    (hK : ∀ v' w', w'.ownsRow base e size v' (n + m) (xs ++ news) → w.grownBy w' v.ownBlock → (v'.ownBlock = v.ownBlock ∨ ∃ k, v'.ownBlock = some k ∧ w.heap.size ≤ k) → wpList P ops Q rest (a.put o.dst v') w') :
    wpList P ops Q (o :: rest) a w := by
  have up : ∀ v' w', w'.ownsRow w.heap.size e size v' (n + m) (xs ++ news) → w.grownBy w' none → wpList P ops Q rest (a.put o.dst v') w' := by
    intro v' w' k1 k2
    refine hK v' w' ⟨k1.1, ?_⟩ ⟨k2.os, k2.tape, k2.output, k2.size, fun k hk _ => k2.block k hk (by simp)⟩ (Or.inr (ownBlock_ge k1 (by omega)))
    rcases k1.2 with h | ⟨g, cap, cur, he, hb, r⟩
    · exact Or.inl h
    · exact Or.inr ⟨g, cap, cur, he, Nat.le_trans hbase hb, r⟩
  rcases hown.2 with ⟨rfl, rfl⟩ | ⟨g, cap, cur, rfl, hb, hgg, r1, r2, r3, r4⟩
  · have hxs : xs = [] := List.eq_nil_of_length_eq_zero (by simpa using hown.1)
    subst hxs
    exact wpList_append_grows w hg s x t hop e i z size bytes h1 h2 h3 h4 h5 h6 h7 none 0 0 [] hs (fun _ => ⟨rfl, rfl⟩) (by simp) (fun _ h => by cases h) ad m c news hx hn hc h1c (by omega) b1 b2 up
  · by_cases hr : n + m ≤ cap
    · exact wpList_append_fits w hg s x t hop base e i size h1 h2 h4 g n cap xs hs hown ad m c news hx hn hc h1c hr fun w' k1 k2 => hK _ _ k1 k2 (Or.inl rfl)
    · exact wpList_append_grows w hg s x t hop e i z size bytes h1 h2 h3 h4 h5 h6 h7 (some ⟨g, 0, none⟩) n cap xs hs (fun h => by cases h) hown.1 (fun b hb' j u hu => by cases hb'; exact World.ownsRow.cells hown (g := g) rfl j u hu) ad m c news hx hn hc h1c (by omega) b1 b2 up

/-- What holds in beyond when the steps of T were looked at. -/
structure Bey (w wr : World) (m : Mx) (l2 : List Vec) (T : List Vec) (val : Value) : Prop where
  mm : wr.heap[w.heap.size]? = some (.cells #[.int .i64 (m).r0.a, .int .i64 (m).r0.b, .int .i64 (m).r0.c, .int .i64 (m).r0.d, .int .i64 (m).r1.a, .int .i64 (m).r1.b, .int .i64 (m).r1.c, .int .i64 (m).r1.d, .int .i64 ((m).n : Int)] 64)
  set : OwnSet wr (w.heap.size + 1) T.length (fun x => x ∈ T)
  own : ∃ E, OwnV wr (w.heap.size + 2) val E ∧ E.Nodup ∧ (∀ x, x ∈ E ↔ x ∈ T ∧ ∀ y ∈ l2, ¬ Vec.fits y x) ∧ E.length ≤ T.length
  below : Below w.heap.size w wr

theorem Bey.start (w : World) (m : Mx) (l2 : List Vec) : Bey w ((w.alloc (.cells #[.int .i64 (m).r0.a, .int .i64 (m).r0.b, .int .i64 (m).r0.c, .int .i64 (m).r0.d, .int .i64 (m).r1.a, .int .i64 (m).r1.b, .int .i64 (m).r1.c, .int .i64 (m).r1.d, .int .i64 ((m).n : Int)] 64)).alloc (.map #[] 0)) m l2 [] (.slice none 0 0) := by
  refine ⟨heap_two1 _ _ _, ?_, ⟨[], OwnV.nil _ _, List.nodup_nil, by simp, Nat.le_refl _⟩, below_two _ _ _⟩
  have := OwnSet.made (w.alloc (.cells #[.int .i64 (m).r0.a, .int .i64 (m).r0.b, .int .i64 (m).r0.c, .int .i64 (m).r0.d, .int .i64 (m).r1.a, .int .i64 (m).r1.b, .int .i64 (m).r1.c, .int .i64 (m).r1.d, .int .i64 ((m).n : Int)] 64))
  simpa using this

theorem OwnSet.congr {w : World} {b n n' : Nat} {S S' : Vec → Prop} (h : OwnSet w b n S) (hn : n ≤ n') (hS : ∀ x, S x ↔ S' x) : OwnSet w b n' S' := by
  obtain ⟨D, h1, h2⟩ := h
  exact ⟨D, h1.mono hn, fun v hv => ⟨fun hs => (h2 v hv).1 ((hS v).2 hs), fun hs => (h2 v hv).2 fun h => hs ((hS v).1 h)⟩⟩

/-- The world has only grown. -/
theorem Bey.keep {w wr w' : World} {m : Mx} {l2 T : List Vec} {val : Value} (h : Bey w wr m l2 T val) (hb : Below wr.heap.size wr w') : Bey w w' m l2 T val := by
  obtain ⟨E, h1, h2⟩ := h.own
  exact ⟨(hb.block _ (Array.getElem?_eq_some_iff.1 h.mm).1).trans h.mm, h.set.keep hb, ⟨E, h1.keep hb, h2⟩, h.below.trans (hb.mono h.below.size)⟩

/-- A step that was seen before. -/
theorem Bey.seen {w wr : World} {m : Mx} {l2 T : List Vec} {val : Value} (h : Bey w wr m l2 T val) {x : Vec} (hx : x ∈ T) : Bey w wr m l2 (T ++ [x]) val := by
  obtain ⟨E, h1, h2, h3, h4⟩ := h.own
  have hm : ∀ y, y ∈ T ++ [x] ↔ y ∈ T := by
    intro y
    simp only [List.mem_append, List.mem_cons, List.not_mem_nil, or_false]
    exact ⟨fun h => h.elim id fun e => e ▸ hx, Or.inl⟩
  exact ⟨h.mm, h.set.congr (by simp) fun y => (hm y).symm, ⟨E, h1, h2, fun y => by rw [h3, hm], by simp; omega⟩, h.below⟩

/-- A new step, noted in the map, into which a move fits that was found. -/
theorem Bey.dropped {w wr : World} {m : Mx} {l2 T : List Vec} {val : Value} {x : Vec} (hmm : wr.heap[w.heap.size]? = some (.cells #[.int .i64 (m).r0.a, .int .i64 (m).r0.b, .int .i64 (m).r0.c, .int .i64 (m).r0.d, .int .i64 (m).r1.a, .int .i64 (m).r1.b, .int .i64 (m).r1.c, .int .i64 (m).r1.d, .int .i64 ((m).n : Int)] 64)) (hset : OwnSet wr (w.heap.size + 1) (T.length + 1) (fun u => u ∈ T ∨ u = x))
    (hown : ∃ E, OwnV wr (w.heap.size + 2) val E ∧ E.Nodup ∧ (∀ x, x ∈ E ↔ x ∈ T ∧ ∀ y ∈ l2, ¬ Vec.fits y x) ∧ E.length ≤ T.length) (hb : Below w.heap.size w wr) {y : Vec} (hy : y ∈ l2) (hf : Vec.fits y x) : Bey w wr m l2 (T ++ [x]) val := by
  obtain ⟨E, h1, h2, h3, h4⟩ := hown
  refine ⟨hmm, hset.congr (by simp) (fun u => by simp), ⟨E, h1, h2, fun u => ?_, by simp; omega⟩, hb⟩
  rw [h3]
  simp only [List.mem_append, List.mem_cons, List.not_mem_nil, or_false]
  constructor
  · rintro ⟨k1, k2⟩; exact ⟨Or.inl k1, k2⟩
  · rintro ⟨k1 | rfl, k2⟩
    · exact ⟨k1, k2⟩
    · exact absurd hf (k2 y hy)

/-- .. into which none does: it is appended. -/
theorem Bey.added {w wr w' : World} {m : Mx} {l2 T : List Vec} {val val' : Value} {x : Vec} (hmm : wr.heap[w.heap.size]? = some (.cells #[.int .i64 (m).r0.a, .int .i64 (m).r0.b, .int .i64 (m).r0.c, .int .i64 (m).r0.d, .int .i64 (m).r1.a, .int .i64 (m).r1.b, .int .i64 (m).r1.c, .int .i64 (m).r1.d, .int .i64 ((m).n : Int)] 64)) (hset : OwnSet wr (w.heap.size + 1) (T.length + 1) (fun u => u ∈ T ∨ u = x))
    {E : List Vec} (h1 : OwnV wr (w.heap.size + 2) val E) (h2 : E.Nodup) (h3 : ∀ x, x ∈ E ↔ x ∈ T ∧ ∀ y ∈ l2, ¬ Vec.fits y x) (h4 : E.length ≤ T.length) (hb : Below w.heap.size w wr) (hx : x ∉ T) (hf : ∀ y ∈ l2, ¬ Vec.fits y x)
    (o : Obj) (hg : (wr.alloc o).grownBy w' val.ownBlock) (hown : OwnV w' (w.heap.size + 2) val' (E ++ [x])) : Bey w w' m l2 (T ++ [x]) val' := by
  have hsz : w.heap.size < wr.heap.size := (Array.getElem?_eq_some_iff.1 hmm).1
  have hsz1 : w.heap.size + 1 < wr.heap.size := hset.lt
  have hlt : ∀ k, val.ownBlock = some k → w.heap.size + 2 ≤ k := fun k hk => (World.ownsRow.lt h1 k hk).1
  refine ⟨?_, ?_, ⟨E ++ [x], hown, ?_, fun u => ?_, by simp; omega⟩, ?_⟩
  · rw [hg.block _ (by simp; omega) (fun e => by have := hlt _ e.symm; omega), Below.heap_alloc _ _ _ hsz]; exact hmm
  · refine (hset.keep ((Below.refl _ _).alloc (Nat.le_refl _) o)).kept hg (fun e => by have := hlt _ e.symm; omega) |>.congr (by simp) (fun u => by simp)
  · rw [List.nodup_append]
    refine ⟨h2, by simp, fun a ha b hbb e => ?_⟩
    simp at hbb
    subst hbb; subst e
    exact hx ((h3 a).1 ha).1
  · simp only [List.mem_append, List.mem_cons, List.not_mem_nil, or_false, h3]
    constructor
    · rintro (⟨k1, k2⟩ | rfl)
      · exact ⟨Or.inl k1, k2⟩
      · exact ⟨Or.inr rfl, hf⟩
    · rintro ⟨k1 | rfl, k2⟩
      · exact Or.inl ⟨k1, k2⟩
      · exact Or.inr rfl
  · exact (hb.alloc (by omega) o).grown hg (by simp; omega) (fun k hk => by have := hlt k hk; omega)

theorem OwnV.vecs {w : World} {base n cap : Nat} {a : Option Addr} {l : List Vec} (h : OwnV w base (.slice a n cap) l) : VecsAt w a l := by
  obtain ⟨a', cap', he, hv, _⟩ := h.read
  cases he
  exact hv

theorem near_stepTo {v : Vec} {j : Nat} {s : Int} (hv : near 500 v) (hs : -1 ≤ s ∧ s ≤ 1) : near 1000000000 (stepTo v j s) := by
  match j with
  | 0 | 1 | 2 | 3 => simp only [near, stepTo] at *; omega
  | _ + 4 => simp only [near, stepTo] at *; omega
theorem near_steps {m : Mx} {v x : Vec} (_ : m.n ≤ 4) (hv : near 500 v) (hx : x ∈ stepsTo m v m.n) : near 1000000000 x := by
  obtain ⟨j, _, ⟨_, _, rfl⟩ | ⟨_, _, rfl⟩⟩ := mem_stepsTo.1 hx
  · exact near_stepTo hv (by omega)
  · exact near_stepTo hv (by omega)

theorem flat_len {l : List Vec} {f : Vec → List Vec} {c : Nat} (h : ∀ v, (f v).length ≤ c) : (l.flatMap f).length ≤ l.length * c := by
  induction l with
  | nil => simp
  | cons v l ih =>
    rw [List.flatMap_cons, List.length_append, List.length_cons, Nat.add_mul]
    have := h v
    omega

theorem row_not_map {w : World} {base n b n' : Nat} {e : TypeId} {size : Nat} {v : Value} {xs : List Value} {S : Vec → Prop} (h : w.ownsRow base e size v n xs) (h' : OwnSet w b n' S) : v.ownBlock = none ∨ v.ownBlock ≠ some b := by
  rcases h.2 with ⟨rfl, _⟩ | ⟨g, cap, cur, rfl, _, hg, _⟩
  · exact Or.inl rfl
  · right
    intro e
    cases e
    obtain ⟨D, ⟨es, clock, hb, _⟩, _⟩ := h'
    rw [hb] at hg
    cases hg

set_option maxHeartbeats 4000000 in
set_option maxRecDepth 100000 in
theorem beyond_any (m : Mx) (a1 a2 : Option Addr) (c1 c2 : Nat) (l1 l2 : List Vec) (w : World) (hm : m.ok) (h1 : VecsAt w a1 l1) (h2 : VecsAt w a2 l2) (hl1 : l1.length ≤ 20000000) (hl2 : l2.length ≤ 20000000)
    (hn1 : ∀ v ∈ l1, near 500 v) (_ : ∀ v ∈ l2, near 500 v) :
    Calls Try.prog 93 #[.agg #[.int .i64 (m).r0.a, .int .i64 (m).r0.b, .int .i64 (m).r0.c, .int .i64 (m).r0.d, .int .i64 (m).r1.a, .int .i64 (m).r1.b, .int .i64 (m).r1.c, .int .i64 (m).r1.d, .int .i64 ((m).n : Int)], .slice a1 l1.length c1, .slice a2 l2.length c2] w fun e w' =>
      ∃ val E, e = .returned val ∧ OwnV w' w.heap.size val E ∧ E.Nodup ∧ (∀ x, x ∈ E ↔ (∃ v ∈ l1, isStep m v x) ∧ ∀ y ∈ l2, ¬ Vec.fits y x) ∧ Below w.heap.size w w' := by
  have hmm := @run_makeMap Try.prog
  have H1 := Lib.hid h1
  have H2 := Lib.hid h2
  have HN1 := Lib.hid hn1
  have HM := Lib.hid hm
  have hn4 := hm.n4
  clear h1 h2 hn1 hm
  go_enter Try.func93, Try.ntmps93
  go_wp2
  go_loopg [7, 18] l1.length (fun g val i wr => ∃ k : Nat, k + g = l1.length ∧ i = .int .i64 k ∧ Bey w wr m l2 ((l1.take k).flatMap fun v => stepsTo m v m.n) val)
  case atStart => exact ⟨0, by omega, rfl, Bey.start w m l2⟩
  case round =>
    obtain ⟨k, hk, rfl, hB⟩ := hrel
    have HB := Lib.hid hB
    clear hB hmm
    cases gk with
    | zero => 
      have hkz : ¬ ((k : Int) < (l1.length : Int)) := by omega
      have hke : l1.take k = l1 := List.take_of_length_le (by omega)
      have HE : Hid (∃ E, OwnV wr w.heap.size u7 E ∧ E.Nodup ∧ (∀ x, x ∈ E ↔ (∃ v ∈ l1, isStep m v x) ∧ ∀ y ∈ l2, ¬ Vec.fits y x)) := by
        obtain ⟨E, g1, g2, g3, _⟩ := HB.out.own
        refine ⟨E, g1.mono (by omega), g2, fun x => ?_⟩
        rw [g3, hke, List.mem_flatMap]
        simp only [mem_steps]
      have HB2 : Hid (Below w.heap.size w wr) := HB.out.below
      clear hke
      go_wp2
      go_ret
      obtain ⟨E, g1, g2, g3⟩ := HE.out
      exact ⟨_, rfl, E, g1, g2, g3, HB2.out⟩
    | succ g =>
      have hkz : (k : Int) < (l1.length : Int) := by omega
      obtain ⟨v, hv⟩ : ∃ v, l1[k]? = some v := ⟨_, List.getElem?_eq_getElem (by omega)⟩
      obtain ⟨b1, rfl, d0, d1, d2, d3⟩ := (H1.out.keep (Nat.le_refl _) HB.out.below) k v hv
      have Hv := Lib.hid hv
      clear hv
      have c0 := matS_cells HB.out.mm
      have hsz : w.heap.size < wr.heap.size := (Array.getElem?_eq_some_iff.1 HB.out.mm).1
      have hvn : near 500 v := HN1.out v (List.mem_of_getElem? Hv.out)
      have HV1 : Hid (near 1000 v) := by simp only [Hid, near] at *; omega
      have HXn : Hid (∀ x ∈ stepsTo m v m.n, near 1000000000 x) := by
        intro x hx
        exact near_steps hn4 hvn hx
      have HSlen : Hid ((stepsTo m v m.n).length ≤ m.n) := stepsTo_len _
      clear hvn
      go_wp2
      go_step3
      go_wp2
      go_step3
      go_wp2_with fail
      refine (msteps_any m v _ HM.out HV1.out).mono ?_
      rintro e w1 ⟨valS, rfl, hS, hb1⟩
      have HB1 := Lib.hid (HB.out.keep (((Below.refl _ wr).alloc (Nat.le_refl _) (.cells #[.int .i64 (v).a, .int .i64 (v).b, .int .i64 (v).c, .int .i64 (v).d] 61)).trans (hb1.mono (by simp))))
      have HSn : Hid (valS.ownBlock = none ∨ valS.ownBlock ≠ u7.ownBlock) := by
        cases h : valS.ownBlock with
        | none => exact Or.inl rfl
        | some q =>
          right
          intro e
          have g1 := (World.ownsRow.lt hS q h).1
          obtain ⟨E, hE, _⟩ := HB.out.own
          have g2 := (World.ownsRow.lt hE q e.symm).2
          simp at g1
          omega
      obtain ⟨aS, cS, rfl, hVS, hc1, hc2⟩ := hS.read
      have HS := Lib.hid hS
      clear hS hb1 hVS hc1 hc2 c0 d0 d1 d2 d3 hsz
      have HT : Hid (((l1.take k).flatMap fun v => stepsTo m v m.n) ++ stepsTo m v m.n = (l1.take (k + 1)).flatMap fun v => stepsTo m v m.n) := by
        simp only [Hid]
        rw [List.take_add_one, Hv.out]; simp
      have Hbd : Hid (((l1.take (k + 1)).flatMap fun v => stepsTo m v m.n).length ≤ 80000000) := by
        have h := flat_len (l := l1.take (k + 1)) (f := fun v => stepsTo m v m.n) (c := 4) (fun v => by have := stepsTo_len (m := m) (v := v) m.n; omega)
        have h2 : (l1.take (k + 1)).length ≤ l1.length := by rw [List.length_take]; omega
        simp only [Hid]
        omega
      generalize hTg : ((l1.take k).flatMap fun v => stepsTo m v m.n) = T0 at HB1 HT ⊢
      generalize hSg : stepsTo m v m.n = S at HXn HSlen HSn HS HT ⊢
      clear hTg hSg
      go_wp2
      go_loopg [7, 26] S.length (fun g2 val i wx => ∃ q : Nat, q + g2 = S.length ∧ i = .int .i64 q ∧ Bey w wx m l2 (T0 ++ S.take q) val ∧ (∃ bS, OwnV wx bS (.slice aS S.length cS) S) ∧ ((Value.slice aS S.length cS).ownBlock = none ∨ (Value.slice aS S.length cS).ownBlock ≠ val.ownBlock))
      case atStart => exact ⟨0, by omega, rfl, by simpa using HB1.out, ⟨_, HS.out⟩, HSn.out⟩
      case round =>
        obtain ⟨q, hq, rfl, hB2, ⟨bS, hS2⟩, hap⟩ := hrel
        have HB2 := Lib.hid hB2
        have HS2 := Lib.hid hS2
        have Hap := Lib.hid hap
        clear hB2 hS2 hap
        cases gk with
        | zero =>
          have hqz : ¬ ((q : Int) < (S.length : Int)) := by omega
          have hqe : S.take q = S := List.take_of_length_le (by omega)
          have HB3 : Hid (Bey w wr m l2 ((l1.take (k + 1)).flatMap fun v => stepsTo m v m.n) u7) := by
            have := HB2.out; rw [hqe, HT.out] at this; exact this
          clear hqe
          go_wp2
          go_roundg g
          case measure => omega
          case rel => exact ⟨k + 1, by omega, by go_num, HB3.out⟩
        | succ g2 =>
          obtain ⟨wm, hwm⟩ : ∃ wm : World, wm = wr := ⟨_, rfl⟩
          subst hwm
          have hqz : (q : Int) < (S.length : Int) := by omega
          obtain ⟨x, hx⟩ : ∃ x, S[q]? = some x := ⟨_, List.getElem?_eq_getElem (by omega)⟩
          obtain ⟨bx, rfl, d0, d1, d2, d3⟩ := HS2.out.vecs q x hx
          have Hx := Lib.hid hx
          have hq4 : q < 4 := by have := HSlen.out; omega
          have hxn := HXn.out x (List.mem_of_getElem? hx)
          have HT1 : Hid (T0 ++ S.take (q + 1) = (T0 ++ S.take q) ++ [x]) := by
            simp only [Hid]; rw [List.take_add_one, hx]; simp
          have HTl : Hid ((T0 ++ S.take q).length ≤ 80000000) := by
            have h1 := congrArg List.length HT.out
            have h2 := Hbd.out
            have h3 : (S.take q).length ≤ S.length := by rw [List.length_take]; omega
            rw [List.length_append] at h1
            simp only [Hid, List.length_append]
            omega
          generalize T0 ++ S.take q = T at HB2 HT1 HTl
          clear hx
          by_cases hxT : x ∈ T
          · go_wp2_with (at_lookup; refine wpList_lookup_set _ rfl _ _ rfl (w.heap.size + 1) _ _ rfl (HB2.out.set.keep ((Below.refl _ wm).alloc (Nat.le_refl _) _)) x hxn true ⟨fun _ => rfl, fun h => absurd hxT h⟩ rfl ?_)
            go_roundg g2
            case measure => omega
            case rel => exact ⟨q + 1, by omega, by go_num, by rw [HT1.out]; exact (HB2.out.keep ((Below.refl _ wm).alloc (Nat.le_refl _) _)).seen hxT, ⟨bS, HS2.out.keep ((Below.refl _ wm).alloc (Nat.le_refl _) _)⟩, Hap.out⟩
          · have HxT := Lib.hid hxT
            clear hxT
            go_wp2_with (first
              | (at_lookup; refine wpList_lookup_set _ rfl _ _ rfl (w.heap.size + 1) _ _ rfl (HB2.out.set.keep ((Below.refl _ wm).alloc (Nat.le_refl _) _)) x hxn false ⟨fun h => absurd h HxT.out, fun _ => rfl⟩ rfl ?_)
              | (at_mapUpdate; refine wpList_mapUpdate_set _ rfl _ _ _ rfl (w.heap.size + 1) _ _ rfl (HB2.out.set.keep ((Below.refl _ wm).alloc (Nat.le_refl _) _)) (by have := HTl.out; unfold maxLen; omega) x hxn rfl rfl ?_))
            intro w2 hset hgrow
            have hszm := (Array.getElem?_eq_some_iff.1 HB2.out.mm).1
            have hszs := HB2.out.set.lt
            obtain ⟨E, hE1, hE2, hE3, hE4⟩ := HB2.out.own
            have Hmm2 : Hid (w2.heap[w.heap.size]? = some (.cells #[.int .i64 (m).r0.a, .int .i64 (m).r0.b, .int .i64 (m).r0.c, .int .i64 (m).r0.d, .int .i64 (m).r1.a, .int .i64 (m).r1.b, .int .i64 (m).r1.c, .int .i64 (m).r1.d, .int .i64 ((m).n : Int)] 64)) := by
              simp only [Hid]
              rw [hgrow.block _ (by simp; omega) (by simp), Below.heap_alloc _ _ _ hszm]; exact HB2.out.mm
            have HE1 : Hid (OwnV w2 (w.heap.size + 2) u7 E) := by
              refine World.ownsRow.kept (hE1.keep ((Below.refl _ wm).alloc (Nat.le_refl _) (.cells #[.int .i64 (x).a, .int .i64 (x).b, .int .i64 (x).c, .int .i64 (x).d] 61))) hgrow ?_
              cases h : u7.ownBlock with
              | none => exact Or.inl rfl
              | some r => right; intro e; cases e; have := (World.ownsRow.lt hE1 _ h).1; omega
            have HS3 : Hid (OwnV w2 bS (.slice (some ⟨bx, 0, none⟩) S.length cS) S) :=
              World.ownsRow.kept (HS2.out.keep ((Below.refl _ wm).alloc (Nat.le_refl _) (.cells #[.int .i64 (x).a, .int .i64 (x).b, .int .i64 (x).c, .int .i64 (x).d] 61))) hgrow (row_not_map HS2.out HB2.out.set)
            have Hbw2 : Hid (Below w.heap.size w w2) := (HB2.out.below.alloc HB2.out.below.size _).grown hgrow (by simp; omega) (fun k hk => by cases hk; omega)
            have Hxw2 : Hid (w2.heap[wm.heap.size]? = some (.cells #[.int .i64 (x).a, .int .i64 (x).b, .int .i64 (x).c, .int .i64 (x).d] 61)) := by
              simp only [Hid]
              rw [hgrow.block _ (by simp) (by simp; omega)]; exact heap_alloc_new wm _
            have hsz2 : wm.heap.size < w2.heap.size := (Array.getElem?_eq_some_iff.1 Hxw2.out).1
            have HA2 := Lib.hid (H2.out.keep (Nat.le_refl _) Hbw2.out)
            have Hset := Lib.hid hset
            have HE2 := Lib.hid hE2
            have HE3 := Lib.hid hE3
            have HE4 := Lib.hid hE4
            clear hset hgrow hE1 hE2 hE3 hE4 d0 d1 d2 d3 hszm hszs
            go_wp2
            go_loopg [37] l2.length (fun g3 i wy => ∃ r : Nat, r + g3 = l2.length ∧ i = .int .i64 r ∧ Hid (∀ y ∈ l2.take r, ¬ Vec.fits y x) ∧ Below w2.heap.size w2 wy)
            case atStart => exact ⟨0, by omega, rfl, by simp [Hid], Below.refl _ _⟩
            case round =>
              obtain ⟨r, hr, rfl, Hr, hby⟩ := hrel
              obtain ⟨wy, hwy⟩ : ∃ wy : World, wy = wr := ⟨_, rfl⟩
              subst hwy
              have Hby := Lib.hid hby
              clear hby
              cases gk with
              | zero =>
                have hrz : ¬ ((r : Int) < (l2.length : Int)) := by omega
                have hre : l2.take r = l2 := List.take_of_length_le (by omega)
                have Hf : Hid (∀ y ∈ l2, ¬ Vec.fits y x) := by have := Hr.out; rw [hre] at this; exact this
                have c3 := vecS_cells ((Hby.out.block _ hsz2).trans Hxw2.out)
                have hszy : wm.heap.size < wy.heap.size := by have := Hby.out.size; omega
                have HE4' : E.length ≤ 80000000 := by have := HE4.out; have := HTl.out; omega
                have hby1 : w.heap.size + 2 ≤ wy.heap.size := by have := HB2.out.set.lt; omega
                clear hre
                obtain ⟨i0, hi, hz0, hz1, hz2⟩ := info_parts Try.info61
                go_wp2_with (at_builtin; refine wpList_append_where _ rfl _ _ 67 rfl (w.heap.size + 2) 61 i0 (.agg #[.int .i64 0, .int .i64 0, .int .i64 0, .int .i64 0]) 4 32 Try.underlying67 hi hz0 hz1 hz2 rfl (by decide) _ _ _ rfl ((HE1.out.keep Hby.out).alloc _) ⟨wy.heap.size, 0, none⟩ 1 1 (vcell x) rfl rfl (four_new _ _ _) (four_ok _) (by omega) (by unfold maxLen; omega) (by omega) (by simp; omega) ?_)
                intro v' w5 hown hgrow hwhere
                have HB5 : Hid (Bey w w5 m l2 (T ++ [x]) v') :=
                  Bey.added ((Hby.out.block _ (Array.getElem?_eq_some_iff.1 Hmm2.out).1).trans Hmm2.out) (Hset.out.keep Hby.out) (HE1.out.keep Hby.out) HE2.out HE3.out HE4.out (Hbw2.out.trans (Hby.out.mono Hbw2.out.size)) HxT.out Hf.out _ hgrow (OwnV.snoc hown)
                have HS5 : Hid (OwnV w5 bS (.slice (some ⟨bx, 0, none⟩) S.length cS) S) := World.ownsRow.kept ((HS3.out.keep Hby.out).keep ((Below.refl _ wy).alloc (Nat.le_refl _) (.cells #[.int .i64 (x).a, .int .i64 (x).b, .int .i64 (x).c, .int .i64 (x).d] 61))) hgrow Hap.out
                have Hap5 : Hid ((Value.slice (some ⟨bx, 0, none⟩) S.length cS).ownBlock = none ∨ (Value.slice (some ⟨bx, 0, none⟩) S.length cS).ownBlock ≠ v'.ownBlock) := by
                  rcases hwhere with h | ⟨k, h, hk⟩
                  · rw [h]; exact Hap.out
                  · right
                    intro e
                    have := (World.ownsRow.lt (HS3.out.keep Hby.out) k (by rw [e, h])).2
                    try simp at hk
                    omega
                clear hown hgrow hwhere c3
                go_wp2
                go_roundg g2
                case measure => omega
                case rel => exact ⟨q + 1, by omega, by go_num, by rw [HT1.out]; exact HB5.out, ⟨bS, HS5.out⟩, Hap5.out⟩
              | succ g3 =>
                have hrz : (r : Int) < (l2.length : Int) := by omega
                obtain ⟨y, hy⟩ : ∃ y, l2[r]? = some y := ⟨_, List.getElem?_eq_getElem (by omega)⟩
                have hym := List.mem_of_getElem? hy
                obtain ⟨b2, rfl, d0, d1, d2, d3⟩ := (HA2.out.keep (Nat.le_refl _) Hby.out) r y hy
                have Hy := Lib.hid hy
                have Hym := Lib.hid hym
                have c3 := vecS_cells ((Hby.out.block _ hsz2).trans Hxw2.out)
                have hszy : wm.heap.size < wy.heap.size := by have := Hby.out.size; omega
                clear hy hym
                by_cases hf : Vec.fits y x
                · have Hf := Lib.hid hf
                  clear hf
                  go_wp2_with fail
                  refine (vfits_vec y x _ true ⟨fun _ => Hf.out, fun _ => rfl⟩).mono ?_
                  rintro e w3 ⟨rfl, hb3⟩
                  have Hb3 : Hid (Below w2.heap.size w2 w3) := (Hby.out.alloc Hby.out.size _).trans (hb3.mono (by have := Hby.out.size; simp; omega))
                  have HB5 : Hid (Bey w w3 m l2 (T ++ [x]) u7) :=
                    Bey.dropped ((Hb3.out.block _ (Array.getElem?_eq_some_iff.1 Hmm2.out).1).trans Hmm2.out) (Hset.out.keep Hb3.out) ⟨E, HE1.out.keep Hb3.out, HE2.out, HE3.out, HE4.out⟩ (Hbw2.out.trans (Hb3.out.mono Hbw2.out.size)) Hym.out Hf.out
                  have HS5 : Hid (OwnV w3 bS (.slice (some ⟨bx, 0, none⟩) S.length cS) S) := HS3.out.keep Hb3.out
                  clear hb3 c3 d0 d1 d2 d3
                  go_wp2
                  go_roundg g2
                  case measure => omega
                  case rel => exact ⟨q + 1, by omega, by go_num, by rw [HT1.out]; exact HB5.out, ⟨bS, HS5.out⟩, Hap.out⟩
                · have Hf := Lib.hid hf
                  clear hf
                  go_wp2_with fail
                  refine (vfits_vec y x _ false ⟨fun h => (by cases h), fun h => absurd h Hf.out⟩).mono ?_
                  rintro e w3 ⟨rfl, hb3⟩
                  have Hb3 : Hid (Below w2.heap.size w2 w3) := (Hby.out.alloc Hby.out.size _).trans (hb3.mono (by have := Hby.out.size; simp; omega))
                  have Hr' : Hid (∀ y ∈ l2.take (r + 1), ¬ Vec.fits y x) := by
                    intro y' hy'
                    rw [List.take_add_one, Hy.out] at hy'
                    rcases List.mem_append.1 hy' with h | h
                    · exact Hr.out y' h
                    · simp at h; subst h; exact Hf.out
                  clear hb3 c3 d0 d1 d2 d3
                  go_wp2
                  go_roundg g3
                  case measure => omega
                  case rel => exact ⟨r + 1, by omega, by go_num, Hr', Hb3.out⟩
end Go.Proofs.Ytaglbnblfhfkeaa
