/-
  What is proved: the exact law on SameBatch returns true (the walk).
-/
import Derived.Test.YtidbkamadclchaaRows
import Derived.Test.YtidbkamadclchaaTextJ
import Derived.Test.YtidbkamadclchaaSameB
import Derived.Test.YtidbkamadclchaaExBatchOK
namespace Go.Proofs.Ytidbkamadclchaa.ExSameBatch
open Go.ChangeShapes Go.WideShapes Go.ChangeAt Go.RowKit
open Sl (Sl Own Off)
open Dev Orm OpB BatB ExBatchOK
set_option linter.unusedVariables false

set_option maxRecDepth 100000 in
set_option maxHeartbeats 1600000 in
theorem walk (w : World) (v u : Value) (ps qs : List (List Bk)) (h : Ns w v ps) (k : Ns w u qs) : Calls Try.prog 7 #[v, u] w fun e w' => e = .returned (.bool true) ∧ Below w.heap.size w w' := by
  obtain ⟨q, eq⟩ : ∃ q, decide (BOk ps ∧ BOk qs ∧ ps = qs) = q := ⟨_, rfl⟩
  have HS := Lib.hid (fun z x y (hx : Ns z x ps) (hy : Ns z y qs) => eq ▸ TextJ.specSame z x y ps qs hx hy)
  have HI := Lib.hid (fun z x y (hx : Ns z x ps) (hy : Ns z y qs) => eq ▸ SameB.impl z x y ps qs hx hy)
  have HV := Lib.hid h
  have HU := Lib.hid k
  clear eq
  obtain ⟨vs, hh, _⟩ := h
  obtain ⟨a, cap, rfl, _, _⟩ := hh.form
  clear hh
  obtain ⟨us, hh, _⟩ := k
  obtain ⟨a', cap', rfl, _, _⟩ := hh.form
  clear hh
  go_enter Try.func7, Try.ntmps7
  go_wp2_with fail
  refine (LawB.szTxnS w _ ps HV.out 1048576 (by omega)).mono ?_
  rintro e w1 ⟨⟨r, rfl, hr⟩, hb⟩
  have HB1 := Lib.hid hb
  clear hb
  rcases hr with rfl | ⟨R, rfl, hR⟩
  · go_wp2_with fail
    go_ret
    exact ⟨rfl, HB1.out⟩
  have HSH := Lib.hid (shorts hR)
  have hRL : R ≤ 1048576 := by omega
  clear hR
  go_wp2_with fail
  refine (LawB.szTxnS _ _ qs (HU.out.below HB1.out) R hRL).mono ?_
  rintro e w2 ⟨⟨r, rfl, hr⟩, hb⟩
  have HB2 := Lib.hid (HB1.out.trans (hb.mono HB1.out.size))
  clear hb
  rcases hr with rfl | ⟨R2, rfl, hR⟩
  · go_wp2_with fail
    go_ret
    exact ⟨rfl, HB2.out⟩
  have HSK := Lib.hid (show qs.length ≤ 1048576 ∧ ∀ j, j < qs.length → (qs.getD j []).length ≤ 1048576 from ⟨by have := (shorts hR).1; omega, fun j hj => by have := (shorts hR).2 j hj; omega⟩)
  clear hR
  go_wp2_with fail
  refine (LawB.toTxnS _ _ ps (HV.out.below HB2.out) HSH.out.1 HSH.out.2).mono ?_
  rintro e w3 ⟨r1, us1, rfl, ho1, hb⟩
  have HN1 := Lib.hid ho1.ns
  have HB3 := Lib.hid (HB2.out.trans (hb.mono HB2.out.size))
  clear hb ho1
  go_wp2_with fail
  refine (LawB.toTxnS _ _ qs (HU.out.below HB3.out) HSK.out.1 HSK.out.2).mono ?_
  rintro e w4 ⟨r2, us2, rfl, ho2, hb⟩
  have HN2 := Lib.hid ho2.ns
  have HN1b := Lib.hid (HN1.out.below hb)
  have HB4 := Lib.hid (HB3.out.trans (hb.mono HB3.out.size))
  clear hb ho2 HN1
  go_wp2_with fail
  refine (HS.out _ _ _ HN1b.out HN2.out).mono ?_
  rintro e w5 ⟨rfl, hb⟩
  have HB5 := Lib.hid (HB4.out.trans (hb.mono HB4.out.size))
  clear hb HN1b HN2
  go_wp2_with fail
  refine (LawB.toTxnS _ _ ps (HV.out.below HB5.out) HSH.out.1 HSH.out.2).mono ?_
  rintro e w6 ⟨r3, us3, rfl, ho3, hb⟩
  have HN3 := Lib.hid ho3.ns
  have HB6 := Lib.hid (HB5.out.trans (hb.mono HB5.out.size))
  clear hb ho3
  go_wp2_with fail
  refine (LawB.toTxnS _ _ qs (HU.out.below HB6.out) HSK.out.1 HSK.out.2).mono ?_
  rintro e w7 ⟨r4, us4, rfl, ho4, hb⟩
  have HN4 := Lib.hid ho4.ns
  have HN3b := Lib.hid (HN3.out.below hb)
  have HB7 := Lib.hid (HB6.out.trans (hb.mono HB6.out.size))
  clear hb ho4 HN3
  go_wp2_with fail
  refine (HI.out _ _ _ HN3b.out HN4.out).mono ?_
  rintro e w8 ⟨rfl, hb⟩
  have HB8 := Lib.hid (HB7.out.trans (hb.mono HB7.out.size))
  have HN5 := Lib.hid (HN3b.out.below hb)
  have HN6 := Lib.hid (HN4.out.below hb)
  clear hb HN3b HN4
  cases q <;> go_wp2_with fail
  all_goals
    refine (LawB.toTxnS _ _ ps (HV.out.below HB8.out) HSH.out.1 HSH.out.2).mono ?_
    rintro e w9 ⟨r5, us5, rfl, ho5, hb⟩
    have HN7 := Lib.hid ho5.ns
    have HN5b := Lib.hid (HN5.out.below hb)
    have HN6b := Lib.hid (HN6.out.below hb)
    have HB9 := Lib.hid (HB8.out.trans (hb.mono HB8.out.size))
    clear hb ho5
    go_wp2_with fail
    refine (LawB.eqTxnS _ _ _ ps HN5b.out HN7.out).mono ?_
    rintro e w10 ⟨rfl, hb⟩
    have HN6c := Lib.hid (HN6b.out.below hb)
    have HB10 := Lib.hid (HB9.out.trans (hb.mono HB9.out.size))
    clear hb
    go_wp2_with fail
    refine (LawB.toTxnS _ _ qs (HU.out.below HB10.out) HSK.out.1 HSK.out.2).mono ?_
    rintro e w11 ⟨r6, us6, rfl, ho6, hb⟩
    have HN8 := Lib.hid ho6.ns
    have HN6d := Lib.hid (HN6c.out.below hb)
    have HB11 := Lib.hid (HB10.out.trans (hb.mono HB10.out.size))
    clear hb ho6
    go_wp2_with fail
    refine (LawB.eqTxnS _ _ _ qs HN6d.out HN8.out).mono ?_
    rintro e w12 ⟨rfl, hb⟩
    have HB12 := Lib.hid (HB11.out.trans (hb.mono HB11.out.size))
    clear hb
    go_wp2_with fail
    go_ret
    exact ⟨rfl, HB12.out⟩
set_option maxRecDepth 100000 in
theorem walk_any {H : Type} {enc : TypeId × Value → H} {W : World} {base b0 base' b0' : Nat} {spare spare' : Nat → Bool} {held held' : Bool} {v u : Value} {d d' : DataW H} {p p' : List MemPlace}
    (o : Value.okWide Try.prog W .any b0 53 v) (h : DataW.Trod enc Try.prog W base spare held 53 v d p)
    (o' : Value.okWide Try.prog W .any b0' 53 u) (h' : DataW.Trod enc Try.prog W base' spare' held' 53 u d' p') :
    Calls Try.prog 7 #[v, u] W fun e w' => e = .returned (.bool true) ∧ Below W.heap.size W w' := by
  obtain ⟨bss, hr⟩ := OpenB.open_batch (okWide_slice Try.underlying53 o) h
  obtain ⟨css, hs⟩ := OpenB.open_batch (okWide_slice Try.underlying53 o') h'
  exact walk W v u bss css hr hs
end Go.Proofs.Ytidbkamadclchaa.ExSameBatch
