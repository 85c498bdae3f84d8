/-
  What is proved: the exact law on ResultText returns true (the walk).
-/
import Derived.Test.YtifkihjjkomfiaaDoorRows
import Derived.Test.YtifkihjjkomfiaaDoorResT
import Derived.Deep.RegionHeld3
import Derived.Deep.RegionWith
namespace Go.Proofs.YtifkihjjkomfiaaDoor.ExResultText
open Go.ChangeShapes Go.WideShapes Go.ChangeAt Go.RowKit
open Sl (Sl Own Off)
open OpenSl (nc)
open Dev Box2 LawR ResP ResI ResT
set_option linter.unusedVariables false

theorem rr_of {w : World} {base : Nat} {s : Value} {c : Int} {vs : List Int} (h : Own w base 1 s vs.length (nc vs)) : Rr w (.agg #[.int .i64 c, s]) c vs := ⟨s, rfl, h.sl⟩
set_option maxRecDepth 100000 in
set_option maxHeartbeats 1600000 in
theorem walk (w : World) (hT : Tc w) (v : Value) (c : Int) (vs : List Int) (h : Rr w v c vs) : Calls Tryd.prog 3 #[v] w fun e w' => e = .returned (.bool true) ∧ Below w.heap.size w w' := by
  obtain ⟨s, rfl, h1⟩ := h
  obtain ⟨U, e1, hb, hz, X⟩ := box2 w 24 (.int .i64 c) s
  obtain ⟨G, eG⟩ : ∃ G, w.heap.size = G := ⟨_, rfl⟩
  have HB := Lib.hid hb
  have HR := Lib.hid (show Rr U (.agg #[.int .i64 c, s]) c vs from ⟨s, rfl, h1.below hb⟩)
  have HTU := Lib.hid (hT.below hb)
  rw [eG] at X
  have HX := Lib.hid X
  obtain ⟨c0, c1, _, _⟩ := X
  obtain ⟨q, eq⟩ : ∃ q, decide (ROk c vs) = q := ⟨_, rfl⟩
  have HS := Lib.hid (fun u x (hx : Rr u x c vs) => specText u x c vs hx q eq)
  have HI := Lib.hid (fun u (hu : Tc u) x (hx : Rr u x c vs) => implText u hu x c vs hx q eq)
  generalize tt c vs q = TX at *
  generalize tk q = TK at *
  have b1 : (TK != TK) = false := by simp
  obtain ⟨a, cap, rfl, _, _⟩ := h1.form
  clear hb hz h1 eq hT
  go_enter Tryd.func3, Tryd.ntmps3
  go_wp2_with fail
  clear e1 eG
  refine (szResult U _ c vs HR.out 1048576 (by omega)).mono ?_
  rintro e w1 ⟨⟨r, rfl, hr⟩, hb⟩
  have HB1 := Lib.hid hb
  obtain ⟨c0, c1, _, _⟩ := HX.out.below hb
  clear hb
  rcases hr with rfl | ⟨R, rfl, hR⟩
  · go_wp2_with fail
    go_ret
    exact ⟨rfl, HB.out.trans (HB1.out.mono HB.out.size)⟩
  have HL := Lib.hid (show vs.length ≤ 1048576 by omega)
  clear hR
  go_wp2_with fail
  refine (toResult _ _ c vs (HR.out.below HB1.out) HL.out).mono ?_
  rintro e w2 ⟨s2, rfl, ho, hb⟩
  have HN2 := Lib.hid (rr_of (c := c) ho)
  obtain ⟨a2, p2, rfl, _, _⟩ := ho.sl.form
  have HB2 := Lib.hid (HB1.out.trans (hb.mono HB1.out.size))
  obtain ⟨c0, c1, _, _⟩ := HX.out.below HB2.out
  clear hb ho
  go_wp2_with fail
  refine (HS.out _ _ HN2.out).mono ?_
  rintro e w3 ⟨rfl, hb⟩
  have HB3 := Lib.hid (HB2.out.trans (hb.mono HB2.out.size))
  obtain ⟨c0, c1, _, _⟩ := HX.out.below HB3.out
  clear hb
  go_wp2_with fail
  refine (toResult _ _ c vs (HR.out.below HB3.out) HL.out).mono ?_
  rintro e w4 ⟨s4, rfl, ho, hb⟩
  have HB4 := Lib.hid (HB3.out.trans (hb.mono HB3.out.size))
  obtain ⟨V, e4, hb4, hz4, Y⟩ := box2 w4 28 (.int .i64 c) s4
  have HBV := Lib.hid (HB4.out.trans (hb4.mono HB4.out.size))
  have HNV := Lib.hid ((rr_of (c := c) ho).below hb4)
  have HTV := Lib.hid (HTU.out.below HBV.out)
  obtain ⟨c0, c1, _, _⟩ := HX.out.below HBV.out
  obtain ⟨M, eM⟩ : ∃ M, w4.heap.size = M := ⟨_, rfl⟩
  rw [eM] at Y
  have HY := Lib.hid Y
  obtain ⟨y0, y1, _, _⟩ := Y
  obtain ⟨a4, p4, rfl, _, _⟩ := ho.sl.form
  clear hb ho hb4 hz4
  go_wp2_with fail
  clear e4 eM
  refine (HI.out _ HTV.out _ HNV.out).mono ?_
  rintro e w5 ⟨rfl, hb⟩
  have HB5 := Lib.hid (HBV.out.trans (hb.mono HBV.out.size))
  have HN5 := Lib.hid (HNV.out.below hb)
  obtain ⟨y0, y1, _, _⟩ := HY.out.below hb
  obtain ⟨c0, c1, _, _⟩ := HX.out.below HB5.out
  have HX5 := Lib.hid (HX.out.below HB5.out)
  have HY5 := Lib.hid (HY.out.below hb)
  have HR5 := Lib.hid (HR.out.below HB5.out)
  clear hb
  go_wp2
  go_region_held3 (fun w' => w'.cell? ⟨G, 0, none⟩ = some (.int .i64 c) ∧ w'.cell? ⟨G, 1, none⟩ = some (.slice a vs.length cap) ∧ w'.cell? ⟨M, 0, none⟩ = some (.int .i64 c) ∧ w'.cell? ⟨M, 1, none⟩ = some (.slice a4 vs.length p4))
    (first | exact ⟨c0, c1, y0, y1⟩ | exact ⟨f0, f1, f2, f3⟩ | exact ⟨g0, g1, g2, g3⟩)
    (first
      | (go_at_call 7; refine (toResult _ _ c vs (HR5.out.below (by first | exact Below.refl _ _ | exact below_drewN (Below.refl _ _) _)) HL.out).mono ?_; rintro e z1 ⟨s6, rfl, ho, hb1⟩; have HEZ : Hid (Below w5.heap.size w5 z1) := Lib.hid (by first | exact hb1 | exact (below_drewN (Below.refl _ _) _).trans hb1); have HN6 := Lib.hid (rr_of (c := c) ho); obtain ⟨a6, p6, rfl, _, _⟩ := ho.sl.form; obtain ⟨f0, f1, _, _⟩ := HX5.out.below HEZ.out; obtain ⟨f2, f3, _, _⟩ := HY5.out.below HEZ.out; clear hb1 ho)
      | (go_at_call 9; refine (eqResult _ _ _ c vs ((HN5.out.below HEZ.out).below (by first | exact Below.refl _ _ | exact below_drewN (Below.refl _ _) _)) (HN6.out.below (by first | exact Below.refl _ _ | exact below_drewN (Below.refl _ _) _))).mono ?_; rintro e z2 ⟨rfl, hb2⟩; have HE2 : Hid (Below w5.heap.size w5 z2) := Lib.hid (by first | exact HEZ.out.trans (hb2.mono HEZ.out.size) | exact HEZ.out.trans (((below_drewN (Below.refl _ _) _).trans hb2).mono HEZ.out.size)); obtain ⟨g0, g1, _, _⟩ := HX5.out.below HE2.out; obtain ⟨g2, g3, _, _⟩ := HY5.out.below HE2.out; clear hb2))
  all_goals
    go_wp2_with fail
    go_ret
    exact ⟨rfl, HB.out.trans ((HB5.out.trans (HE2.out.mono HB5.out.size)).mono HB.out.size)⟩
set_option maxRecDepth 100000 in
theorem walk_any {H : Type} {enc : TypeId × Value → H} {W : World} {base b0 : Nat} {spare : Nat → Bool} {held : Bool} {v : Value} {d : DataW H} {p : List MemPlace}
    (o : Value.okWide Tryd.prog W .any b0 24 v) (h : DataW.Trod enc Tryd.prog W base spare held 24 v d p) (hT : Tc W) :
    Calls Tryd.prog 3 #[v] W fun e w' => e = .returned (.bool true) ∧ Below W.heap.size W w' := by
  obtain ⟨c, vs, hr⟩ := open_result o h
  exact walk W hT v c vs hr
end Go.Proofs.YtifkihjjkomfiaaDoor.ExResultText
