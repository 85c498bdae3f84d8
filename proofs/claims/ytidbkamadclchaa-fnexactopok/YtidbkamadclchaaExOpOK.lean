/-
  What is proved: the exact law on OpOK returns true (the walk).
-/
import Derived.Test.YtidbkamadclchaaRows
import Derived.Test.YtidbkamadclchaaOpB
import Derived.Test.YtidbkamadclchaaLawB
import Derived.Test.YtidbkamadclchaaOpenB
import Derived.Deep.RegionHeld3
import Derived.Deep.RegionWith
namespace Go.Proofs.Ytidbkamadclchaa.ExOpOK
open Go.ChangeShapes Go.WideShapes Go.ChangeAt Go.RowKit
open Sl (Sl Own Off)
open Dev Orm OpB Box3
set_option linter.unusedVariables false

set_option maxRecDepth 100000 in
set_option maxHeartbeats 1600000 in
theorem walk (w : World) (k y v : Int) : Calls Try.prog 5 #[.agg #[.int .i64 k, .int .i64 y, .int .i64 v]] w fun e w' => e = .returned (.bool true) ∧ Below w.heap.size w w' := by
  obtain ⟨q, eq⟩ : ∃ q, decide (Ok (k, y, v)) = q := ⟨_, rfl⟩
  have HS := Lib.hid (fun u => eq ▸ specOk u k y v)
  have HI := Lib.hid (fun u => eq ▸ implOk u k y v)
  clear eq
  obtain ⟨U, e1, hb, hz, X⟩ := box3 w 48 (.int .i64 k) (.int .i64 y) (.int .i64 v)
  obtain ⟨G, eG⟩ : ∃ G, w.heap.size = G := ⟨_, rfl⟩
  have HB := Lib.hid hb
  have HX := Lib.hid X
  rw [eG] at X HX
  obtain ⟨c0, c1, c2, _, _, _⟩ := X
  clear hb hz
  go_enter Try.func5, Try.ntmps5
  go_wp2_with fail
  clear e1 eG
  refine (LawB.toOp k y v _).mono ?_
  rintro e w1 ⟨rfl, hb⟩
  have HX1 := Lib.hid (HX.out.below hb)
  have HB1 := Lib.hid (HB.out.trans (hb.mono HB.out.size))
  clear hb
  obtain ⟨c0, c1, c2, _, _, _⟩ := HX1.out
  go_wp2_with fail
  refine (HS.out _).mono ?_
  rintro e w2 ⟨rfl, hb⟩
  have HX2 := Lib.hid (HX1.out.below hb)
  have HB2 := Lib.hid (HB1.out.trans (hb.mono HB1.out.size))
  clear hb
  obtain ⟨c0, c1, c2, _, _, _⟩ := HX2.out
  go_wp2_with fail
  refine (LawB.toOp k y v _).mono ?_
  rintro e w3 ⟨rfl, hb⟩
  have HB3 := Lib.hid (HB2.out.trans (hb.mono HB2.out.size))
  clear hb c0 c1 c2
  go_wp2_with fail
  refine (HI.out _).mono ?_
  rintro e w4 ⟨rfl, hb⟩
  have HB4 := Lib.hid (HB3.out.trans (hb.mono HB3.out.size))
  clear hb
  cases q with
  | false =>
    go_wp2_with fail
    go_ret
    exact ⟨rfl, HB4.out⟩
  | true =>
    go_wp2_with fail
    go_ret
    exact ⟨rfl, HB4.out⟩
set_option maxRecDepth 100000 in
theorem walk_any {H : Type} {enc : TypeId × Value → H} {W : World} {base b0 : Nat} {spare : Nat → Bool} {held : Bool} {v : Value} {d : DataW H} {p : List MemPlace}
    (o : Value.okWide Try.prog W .any b0 48 v) (h : DataW.Trod enc Try.prog W base spare held 48 v d p) :
    Calls Try.prog 5 #[v] W fun e w' => e = .returned (.bool true) ∧ Below W.heap.size W w' := by
  obtain ⟨x, y, z, rfl⟩ := OpenB.open_op o h
  exact walk W x y z
end Go.Proofs.Ytidbkamadclchaa.ExOpOK
