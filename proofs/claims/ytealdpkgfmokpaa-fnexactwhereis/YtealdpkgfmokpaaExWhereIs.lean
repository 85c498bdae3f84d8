/-
  What is proved: the exact law on WhereIs returns true (the walk).
-/
import Derived.Test.YtealdpkgfmokpaaRows
import Derived.Test.YtealdpkgfmokpaaExO
import Derived.Test.YtealdpkgfmokpaaWhW
import Derived.Deep.RegionHeld3
import Derived.Deep.RegionWith
namespace Go.Proofs.Ytealdpkgfmokpaa.ExWhereIs
open Go.ChangeShapes Go.WideShapes Go.ChangeAt Go.RowKit
open Sl (Sl Own Off)
open OpenSl (tc nc pc)
open Dev Orm ExO
set_option linter.unusedVariables false

set_option maxRecDepth 100000 in
set_option maxHeartbeats 3200000 in
theorem walk (w : World) (v : Value) (oD : Om) (z : Int) (hD : Rd w v oD) :
    Calls Try.prog 4 #[v, .int .i64 z] w fun e w' => e = .returned (.bool true) ∧ Below w.heap.size w w' := by
  have HVD := Lib.hid hD
  obtain ⟨pD, sD, bD, rfl, _, _, _⟩ := hD
  have HB0 := Lib.hid (Below.refl w.heap.size w)
  obtain ⟨q, hq⟩ := OkV.ask (OkP.Ok oD)
  have HQ := Lib.hid hq
  clear hq
  obtain ⟨vA, eA⟩ : ∃ vA, WhW.wa oD q z = vA := ⟨_, rfl⟩
  have EA := Lib.hid eA
  obtain ⟨vC, eC⟩ : ∃ vC, WhW.wc oD q z = vC := ⟨_, rfl⟩
  have EC := Lib.hid eC
  clear eA eC
  have fA : (vA != vA) = false := by simp
  have fC : (vC != vC) = false := by simp
  obtain ⟨U1, eU1, hb, hz, n10, n11, n12⟩ := boxU w 26 pD sD bD
  obtain ⟨GD, eGD⟩ : ∃ GD, w.heap.size = GD := ⟨_, rfl⟩
  have HGD := Lib.hid eGD
  have HY1 := Lib.hid hz
  rw [eGD] at n10 n11 n12
  clear hz
  have HB2 := Lib.hid (HB0.out.trans (hb.mono HB0.out.size))
  have HZ2 := Lib.hid hb.size
  clear hb HB0
  go_enter Try.func4, Try.ntmps4
  go_wp2_with fail
  clear eU1 eGD
  refine (LawO.szOram U1 _ oD (HVD.out.below HB2.out) 1048576 (by omega)).mono ?_
  rintro e u3 ⟨⟨r, rfl, hr⟩, hb⟩
  obtain ⟨c4_GD0, c4_GD1, c4_GD2⟩ := box_below hb n10 n11 n12
  have HB4 := Lib.hid (HB2.out.trans (hb.mono HB2.out.size))
  have HZ4 := Lib.hid hb.size
  clear hb n10 n11 n12 HB2
  rcases hr with rfl | ⟨R3, rfl, hR⟩
  · go_wp2_with fail
    go_ret
    exact ⟨rfl, HB4.out⟩
  have HFITD := Lib.hid (show tot oD ≤ 1048576 by omega)
  have hR3 : R3 ≤ 1048576 := by omega
  clear hR
  have dR3 : decide ((R3 : Int) < 0) = false := decide_eq_false (by omega)
  go_wp2_with fail
  refine (LawO3.toOram u3 _ oD (HVD.out.below HB4.out) HFITD.out).mono ?_
  rintro e u5 ⟨r5, rfl, ho, hb⟩
  obtain ⟨loc1, elo⟩ : ∃ x, u3.heap.size = x := ⟨_, rfl⟩
  obtain ⟨hic1, ehi⟩ : ∃ x, u5.heap.size = x := ⟨_, rfl⟩
  rw [elo, ehi] at ho
  have HLOc1 := Lib.hid elo
  have HHIc1 := Lib.hid ehi
  have HOc1 := Lib.hid ho
  obtain ⟨ac1, pc1, bc1, qc1, cc1, rc1, rfl⟩ := form ho.rd
  clear ho elo ehi
  obtain ⟨c7_GD0, c7_GD1, c7_GD2⟩ := box_below hb c4_GD0 c4_GD1 c4_GD2
  have HB7 := Lib.hid (HB4.out.trans (hb.mono HB4.out.size))
  have HZ7 := Lib.hid hb.size
  clear hb c4_GD0 c4_GD1 c4_GD2 HB4
  go_wp2_with fail
  refine (WhW.spec u5 _ oD HOc1.out.rd q HQ.out z).mono ?_
  rw [EA.out, EC.out]
  rintro e u8 ⟨rfl, hb⟩
  obtain ⟨c9_GD0, c9_GD1, c9_GD2⟩ := box_below hb c7_GD0 c7_GD1 c7_GD2
  have HD9_c1 := Lib.hid (HOc1.out.below hb)
  have HB9 := Lib.hid (HB7.out.trans (hb.mono HB7.out.size))
  have HZ9 := Lib.hid hb.size
  clear hb c7_GD0 c7_GD1 c7_GD2 HOc1 HB7
  go_wp2_with fail
  refine (LawO3.toOram u8 _ oD (HVD.out.below HB9.out) HFITD.out).mono ?_
  rintro e u10 ⟨r10, rfl, ho, hb⟩
  obtain ⟨loX, elo⟩ : ∃ x, u8.heap.size = x := ⟨_, rfl⟩
  obtain ⟨hiX, ehi⟩ : ∃ x, u10.heap.size = x := ⟨_, rfl⟩
  rw [elo, ehi] at ho
  have HLOX := Lib.hid elo
  have HHIX := Lib.hid ehi
  have HOX := Lib.hid ho
  obtain ⟨aX, pX, bX, qX, cX, rX, rfl⟩ := form ho.rd
  clear ho elo ehi
  obtain ⟨c12_GD0, c12_GD1, c12_GD2⟩ := box_below hb c9_GD0 c9_GD1 c9_GD2
  have HB12 := Lib.hid (HB9.out.trans (hb.mono HB9.out.size))
  have HZ12 := Lib.hid hb.size
  clear hb c9_GD0 c9_GD1 c9_GD2 HB9
  obtain ⟨U13, eU13, hb, hz, n130, n131, n132⟩ := boxU u10 31 (.slice aX oD.pos.length pX) (.slice bX oD.st.length qX) (.slice cX oD.bk.length rX)
  obtain ⟨GX, eGX⟩ : ∃ GX, u10.heap.size = GX := ⟨_, rfl⟩
  have HGX := Lib.hid eGX
  have HY13 := Lib.hid hz
  rw [eGX] at n130 n131 n132
  clear hz
  obtain ⟨c14_GD0, c14_GD1, c14_GD2⟩ := box_below hb c12_GD0 c12_GD1 c12_GD2
  have HD14_X := Lib.hid (HOX.out.below hb)
  have HB14 := Lib.hid (HB12.out.trans (hb.mono HB12.out.size))
  have HZ14 := Lib.hid hb.size
  clear hb c12_GD0 c12_GD1 c12_GD2 HOX HB12
  go_wp2_with fail
  clear eU13 eGX
  refine (WhW.impl U13 _ oD HD14_X.out.rd (by have := HFITD.out; unfold tot at this; omega) q HQ.out z).mono ?_
  rw [EA.out, EC.out]
  rintro e u15 ⟨rfl, hb⟩
  obtain ⟨c16_GD0, c16_GD1, c16_GD2⟩ := box_below hb c14_GD0 c14_GD1 c14_GD2
  obtain ⟨c16_GX0, c16_GX1, c16_GX2⟩ := box_below hb n130 n131 n132
  have HD16_X := Lib.hid (HD14_X.out.below hb)
  have HB16 := Lib.hid (HB14.out.trans (hb.mono HB14.out.size))
  have HZ16 := Lib.hid hb.size
  clear hb c14_GD0 c14_GD1 c14_GD2 n130 n131 n132 HD14_X HB14
  have HQ1 := Lib.hid (fun u (hb : Below u15.heap.size u15 u) => (box_below hb c16_GX0 c16_GX1 c16_GX2))
  have HQ2 := Lib.hid (fun u (hb : Below u15.heap.size u15 u) => (box_below hb c16_GD0 c16_GD1 c16_GD2))
  go_wp2_with fail
  go_region_held3 (fun w' => w'.cell? ⟨GX, 0, none⟩ = some (.slice aX oD.pos.length pX) ∧ w'.cell? ⟨GX, 1, none⟩ = some (.slice bX oD.st.length qX) ∧ w'.cell? ⟨GX, 2, none⟩ = some (.slice cX oD.bk.length rX) ∧ w'.cell? ⟨GD, 0, none⟩ = some pD ∧ w'.cell? ⟨GD, 1, none⟩ = some sD ∧ w'.cell? ⟨GD, 2, none⟩ = some bD)
    (first | exact ⟨c16_GX0, c16_GX1, c16_GX2, c16_GD0, c16_GD1, c16_GD2⟩ | exact ⟨e20, e21, e22, e23, e24, e25⟩ | exact ⟨e10, e11, e12, e13, e14, e15⟩)
    (first
    | (go_at_call 12; refine (LawO3.toOram _ _ oD (HVD.out.below (below_drewN HB16.out _)) HFITD.out).mono ?_; rintro e y17 ⟨rr, rfl, ho, hb⟩; have HEY : Hid (Below u15.heap.size u15 y17) := Lib.hid ⟨hb.os, hb.tape, hb.output, hb.size, hb.block⟩; have HOY := Lib.hid ho.rd; obtain ⟨e10, e11, e12⟩ := HQ1.out y17 HEY.out; obtain ⟨e13, e14, e15⟩ := HQ2.out y17 HEY.out; clear ho hb)
    | (go_at_call 14; refine (LawO.eqOram _ _ _ oD (HD16_X.out.rd.below (by first | exact HEY.out | exact below_drewN HEY.out _)) HOY.out).mono ?_; rintro e z17 ⟨rfl, hb⟩; have HEZ := Lib.hid (HEY.out.trans (hb.mono HEY.out.size)); obtain ⟨e20, e21, e22⟩ := HQ1.out z17 HEZ.out; obtain ⟨e23, e24, e25⟩ := HQ2.out z17 HEZ.out; clear hb))
  have hb : Below u15.heap.size u15 z17 := HEZ.out
  clear e10 e11 e12 e13 e14 e15 e20 e21 e22 e23 e24 e25 HQ1 HQ2 HEY HEZ HOY
  obtain ⟨c18_GD0, c18_GD1, c18_GD2⟩ := box_below hb c16_GD0 c16_GD1 c16_GD2
  obtain ⟨c18_GX0, c18_GX1, c18_GX2⟩ := box_below hb c16_GX0 c16_GX1 c16_GX2
  have HD18_X := Lib.hid (HD16_X.out.below hb)
  have HB18 := Lib.hid (HB16.out.trans (hb.mono HB16.out.size))
  have HZ18 := Lib.hid hb.size
  clear hb c16_GD0 c16_GD1 c16_GD2 c16_GX0 c16_GX1 c16_GX2 HD16_X HB16
  go_wp2_with fail
  go_ret
  exact ⟨rfl, HB18.out⟩

set_option maxRecDepth 100000 in
theorem walk_any {H : Type} {enc : TypeId × Value → H} {W : World} {base b0 : Nat} {spare : Nat → Bool} {held : Bool} {v : Value} {d : DataW H} {p : List MemPlace}
    (o : Value.okWide Try.prog W .any b0 26 v) (h : DataW.Trod enc Try.prog W base spare held 26 v d p) (z : Int) :
    Calls Try.prog 4 #[v, .int .i64 z] W fun e w' => e = .returned (.bool true) ∧ Below W.heap.size W w' := by
  obtain ⟨r, hr⟩ := open_oram o h
  exact walk W v r z hr
end Go.Proofs.Ytealdpkgfmokpaa.ExWhereIs
