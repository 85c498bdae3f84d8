/-
  What is proved: the exact law on MapGet returns true (the walk).
-/
import Derived.Test.YtifkihjjkomfiaaRows
import Derived.Test.YtifkihjjkomfiaaMapGet
import Derived.Deep.RegionHeld3
import Derived.Deep.RegionWith
namespace Go.Proofs.Ytifkihjjkomfiaa.ExMapGet
open Go.ChangeShapes Go.WideShapes Go.ChangeAt Go.RowKit
open Sl (Sl Own Off)
open Dev Orm LawE MapP MapOk MapOkS MapW MapGet
set_option linter.unusedVariables false

set_option maxRecDepth 100000 in
set_option maxHeartbeats 1600000 in
theorem walk (w : World) (v : Value) (xs : List En) (h : Sl w 2 v xs.length (ec xs)) (z : Int) (hz : (Lit.int .i64 z).wf = true) : Calls Try.prog 7 #[v, .int .i64 z] w fun e w' => e = .returned (.bool true) ∧ Below w.heap.size w w' := by
  obtain ⟨q, eq⟩ : ∃ q, decide (MOk xs) = q := ⟨_, rfl⟩
  have HS := Lib.hid (fun u x (hx : Sl u 2 x xs.length (ec xs)) => specGet u x xs hx q eq z)
  have HI := Lib.hid (fun u x (hx : Sl u 2 x xs.length (ec xs)) => implGet u x xs hx q eq z hz)
  have HV := Lib.hid h
  clear eq
  generalize gv xs q z = VV at *
  generalize gc xs q z = CC at *
  have b1 : (VV != VV) = false := by simp
  have b2 : (CC != CC) = false := by simp
  obtain ⟨a, cap, rfl, _, _⟩ := h.form
  clear h
  go_enter Try.func7, Try.ntmps7
  go_wp2_with fail
  refine (szEntryS w _ xs HV.out 1048576 (by omega)).mono ?_
  rintro e w1 ⟨⟨r, rfl, hr⟩, rfl⟩
  rcases hr with rfl | ⟨R, rfl, hR⟩
  · go_wp2_with fail
    go_ret
    exact ⟨rfl, Below.refl _ _⟩
  have HL := Lib.hid (show xs.length ≤ 1048576 by omega)
  clear hR
  go_wp2_with fail
  refine (toEntryS _ _ xs HV.out HL.out).mono ?_
  rintro e w2 ⟨r1, rfl, ho1, hb⟩
  have HN1 := Lib.hid ho1.sl
  have HB2 := Lib.hid hb
  clear hb ho1
  go_wp2_with fail
  refine (HS.out _ _ HN1.out).mono ?_
  rintro e w3 ⟨rfl, hb⟩
  have HB3 := Lib.hid (HB2.out.trans (hb.mono HB2.out.size))
  clear hb
  go_wp2_with fail
  refine (toEntryS _ _ xs (HV.out.below HB3.out) HL.out).mono ?_
  rintro e w4 ⟨r2, rfl, ho2, hb⟩
  have HN2 := Lib.hid ho2.sl
  have HB4 := Lib.hid (HB3.out.trans (hb.mono HB3.out.size))
  clear hb ho2
  go_wp2_with fail
  refine (HI.out _ _ HN2.out).mono ?_
  rintro e w5 ⟨rfl, hb⟩
  have HB5 := Lib.hid (HB4.out.trans (hb.mono HB4.out.size))
  have HN3 := Lib.hid (HN2.out.below hb)
  clear hb
  go_wp2_with fail
  all_goals
    refine (toEntryS _ _ xs (HV.out.below HB5.out) HL.out).mono ?_
    rintro e w6 ⟨r3, rfl, ho3, hb⟩
    have HN4 := Lib.hid ho3.sl
    have HN5 := Lib.hid (HN3.out.below hb)
    have HB6 := Lib.hid (HB5.out.trans (hb.mono HB5.out.size))
    clear hb ho3
    go_wp2_with fail
    refine (eqEntryS _ _ _ xs HN5.out HN4.out).mono ?_
    rintro e w7 ⟨rfl, hb⟩
    have HB7 := Lib.hid (HB6.out.trans (hb.mono HB6.out.size))
    clear hb
    go_wp2_with fail
    go_ret
    exact ⟨rfl, HB7.out⟩
set_option maxRecDepth 100000 in
theorem walk_any {H : Type} {enc : TypeId × Value → H} {W : World} {base b0 : Nat} {spare : Nat → Bool} {held : Bool} {v : Value} {d : DataW H} {p : List MemPlace} (z : Int) (hz : (Lit.int .i64 z).wf = true)
    (o : Value.okWide Try.prog W .any b0 54 v) (h : DataW.Trod enc Try.prog W base spare held 54 v d p) :
    Calls Try.prog 7 #[v, .int .i64 z] W fun e w' => e = .returned (.bool true) ∧ Below W.heap.size W w' := by
  obtain ⟨xs, hr, _⟩ := open_map h (okWide_slice Try.underlying54 o)
  exact walk W v xs hr z hz
end Go.Proofs.Ytifkihjjkomfiaa.ExMapGet
