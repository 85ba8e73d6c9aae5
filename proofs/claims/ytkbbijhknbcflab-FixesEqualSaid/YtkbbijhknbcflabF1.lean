import Derived.Test.YtkbbijhknbcflabA3
import Derived.Ground.NamesProg
import Derived.Shelf.Lay
import Derived.Shelf.Small.Strs
/-
  The reader of formulas: its box, its first byte; which bytes are digits and letters.
-/
namespace Go.Proofs.Ytkbbijhknbcflab
open Go.RowKit Go.Shelf

shelf_lay Lays.n137 Nm 137 at Try as Try.lays137

/-- A text. -/
def st (l : List UInt8) : ByteArray := ⟨l.toArray⟩
theorem st_size (l : List UInt8) : (st l).size = l.length := by simp [st, ByteArray.size]
theorem st_data (l : List UInt8) : (st l).data.toList = l := rfl
theorem st_of (s : ByteArray) : s = st s.data.toList := by cases s; rfl
theorem st_inj {l r : List UInt8} (h : st l = st r) : l = r := by
  have := congrArg (fun s : ByteArray => s.data.toList) h
  simpa [st_data] using this
theorem extract_data (s : ByteArray) (i j : Nat) : (s.extract i j).data.toList = (s.data.toList.drop i).take (j - i) := by
  rw [ByteArray.data_extract]
  simp [List.take_drop]
theorem st_tail (x : UInt8) (t : List UInt8) : (st (x :: t)).extract 1 (st (x :: t)).size = st t := by
  rw [st_of ((st (x :: t)).extract 1 (st (x :: t)).size), extract_data, st_size, st_data]
  simp
theorem st_get (x : UInt8) (t : List UInt8) (h : 0 < (st (x :: t)).size) : (st (x :: t))[0] = x := rfl
theorem st_append (l r : List UInt8) : st l ++ st r = st (l ++ r) := by
  rw [st_of (st l ++ st r)]
  simp [st, ByteArray.data_append]

/-- Nothing turns but one block, and new ones. -/
structure Kp (b : Nat) (w w' : World) : Prop where
  os : w'.os = w.os
  tape : w'.tape = w.tape
  output : w'.output = w.output
  size : w.heap.size ≤ w'.heap.size
  block : ∀ k, k < w.heap.size → k ≠ b → w'.heap[k]? = w.heap[k]?
theorem Kp.refl (b : Nat) (w : World) : Kp b w w := ⟨rfl, rfl, rfl, Nat.le_refl _, fun _ _ _ => rfl⟩
theorem Kp.trans {b : Nat} {x y z : World} (h : Kp b x y) (k : Kp b y z) : Kp b x z :=
  ⟨k.os.trans h.os, k.tape.trans h.tape, k.output.trans h.output, Nat.le_trans h.size k.size, fun i hi' ho => (k.block i (Nat.lt_of_lt_of_le hi' h.size) ho).trans (h.block i hi' ho)⟩
theorem Kp.of {b : Nat} {x y : World} (h : Below x.heap.size x y) : Kp b x y := ⟨h.os, h.tape, h.output, h.size, fun k hk _ => h.block k hk⟩
theorem Kp.below {b lo : Nat} {x y : World} (h : Kp b x y) (hb : lo ≤ b) (hl : lo ≤ x.heap.size) : Below lo x y :=
  ⟨h.os, h.tape, h.output, h.size, fun k hk => h.block k (Nat.lt_of_lt_of_le hk hl) (by omega)⟩
theorem Kp.alloc {b : Nat} {x y : World} (h : Kp b x y) (o : Obj) : Kp b x (y.alloc o) := h.trans (Kp.of ((Below.refl _ _).alloc (Nat.le_refl _) _))
theorem Kp.drew {b : Nat} {x y : World} (h : Kp b x y) : Kp b x y.drew := ⟨h.os, h.tape, h.output, h.size, h.block⟩
theorem Kp.drew1 {b : Nat} {x y : World} (h : Kp b x.drew y) : Kp b x y := ⟨h.os, h.tape, h.output, h.size, h.block⟩
theorem Kp.setCell {b : Nat} {x y : World} (h : Kp b x y) {p : Addr} (h1 : p.block = b) (u : Value) : Kp b x (y.setCell p u) :=
  h.trans ⟨rfl, rfl, rfl, by simp [World.setCell], fun k _ ho => Below.heap_setCell _ _ _ _ (fun e => ho (by rw [e]; exact h1))⟩
theorem Kp.cell {b : Nat} {x y : World} (h : Kp b x y) {p : Addr} {v : Value} (hc : x.cell? p = some v) (ho : p.block ≠ b) : y.cell? p = some v :=
  (World.cell?_of_block (h.block p.block (World.block_lt_of_cell? x p hc) ho)).trans hc

/-- A reader's box: what is left of the text, and the letters that may be used. -/
structure RdAt (b : Nat) (l o : List UInt8) (W : World) : Prop where
  c0 : W.cell? ⟨b, 0, none⟩ = some (.string (st l))
  c1 : W.cell? ⟨b, 1, none⟩ = some (.string (st o))
  f0 : W.frozen? ⟨b, 0, none⟩ = false
  f1 : W.frozen? ⟨b, 1, none⟩ = false
theorem RdAt.lt {b : Nat} {l o : List UInt8} {W : World} (h : RdAt b l o W) : b < W.heap.size := World.block_lt_of_cell? _ _ h.c0
theorem RdAt.keep {b : Nat} {l o : List UInt8} {W W' : World} (h : RdAt b l o W) (hb : Below W.heap.size W W') : RdAt b l o W' := by
  have e : W'.heap[b]? = W.heap[b]? := hb.block b h.lt
  have k : ∀ j, W'.cell? ⟨b, j, none⟩ = W.cell? ⟨b, j, none⟩ := fun j => World.cell?_of_block e
  have f : ∀ j, W'.frozen? ⟨b, j, none⟩ = W.frozen? ⟨b, j, none⟩ := fun j => by unfold World.frozen?; simp only [e]
  exact ⟨by rw [k]; exact h.c0, by rw [k]; exact h.c1, by rw [f]; exact h.f0, by rw [f]; exact h.f1⟩
theorem RdAt.set0 {b : Nat} {l o : List UInt8} {W : World} (h : RdAt b l o W) (r : List UInt8) : RdAt b r o (W.setCell ⟨b, 0, none⟩ (.string (st r))) := by
  obtain ⟨c0, c1, f0, f1⟩ := h
  constructor <;> go_simp
theorem RdAt.set1 {b : Nat} {l o : List UInt8} {W : World} (h : RdAt b l o W) (r : List UInt8) : RdAt b l r (W.setCell ⟨b, 1, none⟩ (.string (st r))) := by
  obtain ⟨c0, c1, f0, f1⟩ := h
  constructor <;> go_simp
theorem RdAt.of {b : Nat} {l o : List UInt8} {W : World} {T : TypeId} (h : W.heap[b]? = some (.cells #[.string (st l), .string (st o)] T)) : RdAt b l o W :=
  ⟨block_cell h 0, block_cell h 1, block_free h 0, block_free h 1⟩

/-- The sign that is taken off, and what is left. -/
def hd : List UInt8 → UInt8
  | [] => 0
  | x :: _ => x
def tl : List UInt8 → List UInt8
  | [] => []
  | _ :: t => t
theorem tl_len (l : List UInt8) : (tl l).length ≤ l.length := by cases l <;> simp [tl]
/-- What taking a sign leaves. -/
def SignOut (b : Nat) (l o : List UInt8) (w : World) (e : Ending) (w' : World) : Prop := e = .returned (.int .u8 ((hd l).toNat : Int)) ∧ RdAt b (tl l) o w' ∧ Kp b w w'

set_option maxHeartbeats 1000000 in
theorem sign_any (b : Nat) (l o : List UInt8) (w : World) (h : RdAt b l o w) (hz : l.length ≤ 5000) :
    Calls Try.prog 38 #[.pointer (some ⟨b, 0, none⟩)] w fun e w' => SignOut b l o w e w' := by
  cases l with
  | nil =>
    have H := Lib.hid h
    obtain ⟨q0, q1, f0, f1⟩ := h
    rw [show st [] = ByteArray.empty from rfl] at q0
    go_enter Try.func38, Try.ntmps38
    go_wp2
    go_ret
    exact ⟨rfl, H.out, Kp.refl _ _⟩
  | cons x t =>
    have H := Lib.hid h
    obtain ⟨q0, q1, f0, f1⟩ := h
    have hs : 0 < (st (x :: t)).size := by rw [st_size]; simp
    have hz2 : (st (x :: t)).size ≤ 5000 := by rw [st_size]; exact hz
    have HT := Lib.hid (st_tail x t)
    have HG : Hid ((st (x :: t))[0] = x) := rfl
    have HR : Hid (RdAt b t o (w.setCell ⟨b, 0, none⟩ (.string (st t)))) := H.out.set0 t
    have HK : Hid (Kp b w (w.setCell ⟨b, 0, none⟩ (.string (st t)))) := Kp.setCell (p := ⟨b, 0, none⟩) (Kp.refl b w) rfl _
    have hne : (st (x :: t)).toList.isEmpty = false := by rw [ByteArray.toList_eq]; rfl
    generalize hS : st (x :: t) = S at *
    clear hS hz
    go_enter Try.func38, Try.ntmps38
    go_wp2
    rw [HT.out]
    go_ret
    exact ⟨by rw [← HG.out]; rfl, HR.out, HK.out⟩
end Go.Proofs.Ytkbbijhknbcflab
