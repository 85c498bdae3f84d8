/-
  What is proved: the exact law on BatchOK returns true (the walk).
-/
import Derived.Test.YtidbkamadclchaaRows
import Derived.Test.YtidbkamadclchaaBatS
import Derived.Test.YtidbkamadclchaaLawB
import Derived.Test.YtidbkamadclchaaOpenB
import Derived.Deep.RegionHeld3
import Derived.Deep.RegionWith
namespace Go.Proofs.Ytidbkamadclchaa.ExBatchOK
open Go.ChangeShapes Go.WideShapes Go.ChangeAt Go.RowKit
open Sl (Sl Own Off)
open Dev Orm OpB BatB
set_option linter.unusedVariables false

/-- Each list of a batch of so many elements in all is short. -/
theorem shorts {bss : List (List Bk)} {R L : Nat} (h : R + bss.length + (bss.map List.length).sum = L) : bss.length ≤ L ∧ ∀ j, j < bss.length → (bss.getD j []).length ≤ L := by
  refine ⟨by omega, fun j hj => ?_⟩
  have hm : (bss.getD j []).length ∈ bss.map List.length := List.mem_map.2 ⟨_, getD_mem bss [] j hj, rfl⟩
  have : ∀ (l : List Nat) (x : Nat), x ∈ l → x ≤ l.sum := by
    intro l
    induction l with
    | nil => intro x hx; cases hx
    | cons y l ih =>
      intro x hx
      rw [List.sum_cons]
      rcases List.mem_cons.1 hx with h | h
      · omega
      · have := ih x h; omega
  have := this _ _ hm
  omega
set_option maxRecDepth 100000 in
set_option maxHeartbeats 1600000 in
theorem walk (w : World) (v : Value) (bss : List (List Bk)) (h : Ns w v bss) : Calls Try.prog 6 #[v] w fun e w' => e = .returned (.bool true) ∧ Below w.heap.size w w' := by
  obtain ⟨q, eq⟩ : ∃ q, decide (BOk bss) = q := ⟨_, rfl⟩
  have HS := Lib.hid (fun u x (hx : Ns u x bss) => eq ▸ BatS.specOk u x bss hx)
  have HI := Lib.hid (fun u x (hx : Ns u x bss) => eq ▸ BatB.implOk u x bss hx)
  have HV := Lib.hid h
  clear eq
  obtain ⟨vs, hh, _⟩ := h
  obtain ⟨a, cap, rfl, _, _⟩ := hh.form
  clear hh
  go_enter Try.func6, Try.ntmps6
  go_wp2_with fail
  refine (LawB.szTxnS w _ bss HV.out 1048576 (by omega)).mono ?_
  rintro e w1 ⟨⟨r, rfl, hr⟩, hb⟩
  have HB1 := Lib.hid hb
  clear hb
  rcases hr with rfl | ⟨R, rfl, hR⟩
  · go_wp2_with fail
    go_ret
    exact ⟨rfl, HB1.out⟩
  have HSH := Lib.hid (shorts hR)
  clear hR
  go_wp2_with fail
  refine (LawB.toTxnS _ _ bss (HV.out.below HB1.out) HSH.out.1 HSH.out.2).mono ?_
  rintro e w2 ⟨r1, us1, rfl, ho1, hb⟩
  have HN1 := Lib.hid ho1.ns
  have HB2 := Lib.hid (HB1.out.trans (hb.mono HB1.out.size))
  clear hb ho1
  go_wp2_with fail
  refine (HS.out _ _ HN1.out).mono ?_
  rintro e w3 ⟨rfl, hb⟩
  have HB3 := Lib.hid (HB2.out.trans (hb.mono HB2.out.size))
  clear hb
  go_wp2_with fail
  refine (LawB.toTxnS _ _ bss (HV.out.below HB3.out) HSH.out.1 HSH.out.2).mono ?_
  rintro e w4 ⟨r2, us2, rfl, ho2, hb⟩
  have HN2 := Lib.hid ho2.ns
  have HB4 := Lib.hid (HB3.out.trans (hb.mono HB3.out.size))
  clear hb ho2
  go_wp2_with fail
  refine (HI.out _ _ HN2.out).mono ?_
  rintro e w5 ⟨rfl, hb⟩
  have HB5 := Lib.hid (HB4.out.trans (hb.mono HB4.out.size))
  have HN3 := Lib.hid (HN2.out.below hb)
  clear hb
  cases q <;> go_wp2_with fail
  all_goals
    refine (LawB.toTxnS _ _ bss (HV.out.below HB5.out) HSH.out.1 HSH.out.2).mono ?_
    rintro e w6 ⟨r3, us3, rfl, ho3, hb⟩
    have HN4 := Lib.hid ho3.ns
    have HN5 := Lib.hid (HN3.out.below hb)
    have HB6 := Lib.hid (HB5.out.trans (hb.mono HB5.out.size))
    clear hb ho3
    go_wp2_with fail
    refine (LawB.eqTxnS _ _ _ bss HN5.out HN4.out).mono ?_
    rintro e w7 ⟨rfl, hb⟩
    have HB7 := Lib.hid (HB6.out.trans (hb.mono HB6.out.size))
    clear hb
    go_wp2_with fail
    go_ret
    exact ⟨rfl, HB7.out⟩
set_option maxRecDepth 100000 in
theorem walk_any {H : Type} {enc : TypeId × Value → H} {W : World} {base b0 : Nat} {spare : Nat → Bool} {held : Bool} {v : Value} {d : DataW H} {p : List MemPlace}
    (o : Value.okWide Try.prog W .any b0 53 v) (h : DataW.Trod enc Try.prog W base spare held 53 v d p) :
    Calls Try.prog 6 #[v] W fun e w' => e = .returned (.bool true) ∧ Below W.heap.size W w' := by
  obtain ⟨bss, hr⟩ := OpenB.open_batch (okWide_slice Try.underlying53 o) h
  exact walk W v bss hr
end Go.Proofs.Ytidbkamadclchaa.ExBatchOK
