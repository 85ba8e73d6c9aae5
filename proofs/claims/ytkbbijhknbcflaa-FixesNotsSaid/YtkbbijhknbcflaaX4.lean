import Derived.Test.YtkbbijhknbcflaaX3
import Derived.Test.YtkbbijhknbcflaaG6
/-
  Not.
-/
namespace Go.Proofs.Ytkbbijhknbcflaa
open Go.RowKit Go.Shelf

def TextOut (x : ByteArray) (er : Int) (w : World) (e : Ending) (w' : World) : Prop := e = .returned (.tuple #[.string x, .int .i64 er]) ∧ Below w.heap.size w w'

set_option maxHeartbeats 1000000 in
set_option maxRecDepth 100000 in
theorem not_form (l : List UInt8) (w : World) (hl : l.length ≤ 4900) (h : ¬ isB l) : Calls Try.prog 16 #[.string (st l)] w fun e w' => TextOut (st []) 3 w e w' := by
  have HS := Lib.hid (fun W => is_no l W hl h)
  clear hl h
  generalize st l = S at *
  go_enter Try.func16, Try.ntmps16
  go_wp2_with fail
  refine (HS.out _).mono ?_
  rintro e w1 ⟨rfl, hb⟩
  have HB := Lib.hid hb
  clear hb
  go_wp2
  exact bodyPost_ret (v := .tuple #[.string (st []), .int .i64 3]) (by simp [results, Try.results16, go_sem]; rfl) rfl ⟨rfl, HB.out⟩

set_option maxHeartbeats 1000000 in
set_option maxRecDepth 100000 in
theorem not_good (F : Fm) (w : World) (h40 : (str F).length ≤ 40) (hF : wf (fun _ => false) F) :
    Calls Try.prog 16 #[.string (st (str F))] w fun e w' => TextOut (if (str (neg F)).length ≤ 40 then st (str (neg F)) else st []) (if (str (neg F)).length ≤ 40 then 0 else 3) w e w' := by
  have HS := Lib.hid (fun W => is_yes (str F) W ⟨h40, F, rfl, hF⟩)
  have HX := Lib.hid (fun W => exchange_l (str F) W h40 (by rw [xch_str hF]; exact str_ne _))
  rw [xch_str hF] at HX
  have hsz : (st (str (neg F))).size = (str (neg F)).length := st_size _
  have hmx : (str (neg F)).length ≤ 80 := by
    have := xch_len (str F)
    rw [xch_str hF] at this
    simp only at this
    omega
  clear hF h40
  by_cases hle : (str (neg F)).length ≤ 40
  · rw [if_pos hle, if_pos hle]
    have hz : ((st (str (neg F))).size : Int) ≤ 40 := by omega
    clear hsz hmx hle
    generalize st (str F) = S at *
    simp only at HX
    generalize st (str (neg F)) = O at *
    go_enter Try.func16, Try.ntmps16
    go_wp2_with fail
    refine (HS.out _).mono ?_
    rintro e w1 ⟨rfl, hb⟩
    have HB := Lib.hid hb
    clear hb
    go_wp2_with fail
    refine (HX.out _).mono ?_
    rintro e w2 ⟨rfl, hb⟩
    have HB2 := Lib.hid (band HB.out hb)
    clear hb
    go_wp2
    exact bodyPost_ret (v := .tuple #[.string O, .int .i64 0]) (by simp [results, Try.results16, go_sem]) rfl ⟨rfl, HB2.out⟩
  · rw [if_neg hle, if_neg hle]
    have hz : (40 : Int) < ((st (str (neg F))).size : Int) := by omega
    have hz2 : (st (str (neg F))).size ≤ 80 := by omega
    clear hsz hmx hle
    generalize st (str F) = S at *
    simp only at HX
    generalize st (str (neg F)) = O at *
    go_enter Try.func16, Try.ntmps16
    go_wp2_with fail
    refine (HS.out _).mono ?_
    rintro e w1 ⟨rfl, hb⟩
    have HB := Lib.hid hb
    clear hb
    go_wp2_with fail
    refine (HX.out _).mono ?_
    rintro e w2 ⟨rfl, hb⟩
    have HB2 := Lib.hid (band HB.out hb)
    clear hb
    go_wp2
    exact bodyPost_ret (v := .tuple #[.string (st []), .int .i64 3]) (by simp [results, Try.results16, go_sem]; rfl) rfl ⟨rfl, HB2.out⟩
end Go.Proofs.Ytkbbijhknbcflaa
