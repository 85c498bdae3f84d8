/-
  What is proved: the exact law on EncOK returns true (the walk).
-/
import Derived.Test.YtealdpkgfmokpaaRows
import Derived.Test.YtealdpkgfmokpaaExE
import Derived.Test.YtealdpkgfmokpaaEokE
import Derived.Deep.RegionHeld3
import Derived.Deep.RegionWith
namespace Go.Proofs.Ytealdpkgfmokpaa.ExEncOK
open Go.ChangeShapes Go.WideShapes Go.ChangeAt Go.RowKit
open Sl (Sl Own Off)
open OpenSl (tc nc pc)
open Dev Orm ExE EncP
set_option linter.unusedVariables false

set_option maxRecDepth 100000 in
set_option maxHeartbeats 3200000 in
theorem walk (w : World) (v : Value) (oD : Em) (hD : RdE w v oD) :
    Calls Try.prog 8 #[v] w fun e w' => e = .returned (.bool true) ∧ Below w.heap.size w w' := by
  have HVD := Lib.hid hD
  obtain ⟨kD, pD, sD, bD, rfl, _, _⟩ := hD
  have HB0 := Lib.hid (Below.refl w.heap.size w)
  obtain ⟨q, hq⟩ := OkV.ask (EokE.EOk oD)
  have HQ := Lib.hid hq
  clear hq
  obtain ⟨U1, eU1, hb, hz, n10, n11, n12, n13⟩ := boxU4 w 87 kD pD sD bD
  obtain ⟨GD, eGD⟩ : ∃ GD, w.heap.size = GD := ⟨_, rfl⟩
  have HGD := Lib.hid eGD
  have HY1 := Lib.hid hz
  rw [eGD] at n10 n11 n12 n13
  clear hz
  have HB2 := Lib.hid (HB0.out.trans (hb.mono HB0.out.size))
  have HZ2 := Lib.hid hb.size
  clear hb HB0
  go_enter Try.func8, Try.ntmps8
  go_wp2_with fail
  clear eU1 eGD
  refine (EncL.szEnc U1 _ oD (HVD.out.below HB2.out) 1048576 (by omega)).mono ?_
  rintro e u3 ⟨⟨r, rfl, hr⟩, hb⟩
  obtain ⟨c4_GD0, c4_GD1, c4_GD2, c4_GD3⟩ := box_below4 hb n10 n11 n12 n13
  have HB4 := Lib.hid (HB2.out.trans (hb.mono HB2.out.size))
  have HZ4 := Lib.hid hb.size
  clear hb n10 n11 n12 n13 HB2
  rcases hr with rfl | ⟨R3, rfl, hR⟩
  · go_wp2_with fail
    go_ret
    exact ⟨rfl, HB4.out⟩
  have HFITD := Lib.hid (show totE oD ≤ 1048576 by omega)
  have hR3 : R3 ≤ 1048576 := by omega
  clear hR
  have dR3 : decide ((R3 : Int) < 0) = false := decide_eq_false (by omega)
  go_wp2_with fail
  refine (EncL.toEnc u3 _ oD (HVD.out.below HB4.out) HFITD.out).mono ?_
  rintro e u5 ⟨r5, rfl, ho, hb⟩
  obtain ⟨loc1, elo⟩ : ∃ x, u3.heap.size = x := ⟨_, rfl⟩
  obtain ⟨hic1, ehi⟩ : ∃ x, u5.heap.size = x := ⟨_, rfl⟩
  rw [elo, ehi] at ho
  have HLOc1 := Lib.hid elo
  have HHIc1 := Lib.hid ehi
  have HOc1 := Lib.hid ho
  obtain ⟨ac1, pc1, bc1, qc1, cc1, rc1, dc1, tc1, rfl⟩ := ho.rd.form
  clear ho elo ehi
  obtain ⟨c6_GD0, c6_GD1, c6_GD2, c6_GD3⟩ := box_below4 hb c4_GD0 c4_GD1 c4_GD2 c4_GD3
  have HB6 := Lib.hid (HB4.out.trans (hb.mono HB4.out.size))
  have HZ6 := Lib.hid hb.size
  clear hb c4_GD0 c4_GD1 c4_GD2 c4_GD3 HB4
  go_wp2_with fail
  refine (EokE.spec u5 _ oD HOc1.out.rd q HQ.out).mono ?_
  rintro e u7 ⟨rfl, hb⟩
  obtain ⟨c8_GD0, c8_GD1, c8_GD2, c8_GD3⟩ := box_below4 hb c6_GD0 c6_GD1 c6_GD2 c6_GD3
  have HD8_c1 := Lib.hid (HOc1.out.below hb)
  have HB8 := Lib.hid (HB6.out.trans (hb.mono HB6.out.size))
  have HZ8 := Lib.hid hb.size
  clear hb c6_GD0 c6_GD1 c6_GD2 c6_GD3 HOc1 HB6
  go_wp2_with fail
  refine (EncL.toEnc u7 _ oD (HVD.out.below HB8.out) HFITD.out).mono ?_
  rintro e u9 ⟨r9, rfl, ho, hb⟩
  obtain ⟨loX, elo⟩ : ∃ x, u7.heap.size = x := ⟨_, rfl⟩
  obtain ⟨hiX, ehi⟩ : ∃ x, u9.heap.size = x := ⟨_, rfl⟩
  rw [elo, ehi] at ho
  have HLOX := Lib.hid elo
  have HHIX := Lib.hid ehi
  have HOX := Lib.hid ho
  obtain ⟨aX, pX, bX, qX, cX, rX, dX, tX, rfl⟩ := ho.rd.form
  clear ho elo ehi
  obtain ⟨c10_GD0, c10_GD1, c10_GD2, c10_GD3⟩ := box_below4 hb c8_GD0 c8_GD1 c8_GD2 c8_GD3
  have HB10 := Lib.hid (HB8.out.trans (hb.mono HB8.out.size))
  have HZ10 := Lib.hid hb.size
  clear hb c8_GD0 c8_GD1 c8_GD2 c8_GD3 HB8
  obtain ⟨U11, eU11, hb, hz, n110, n111, n112, n113⟩ := boxU4 u9 77 (.slice aX oD.ks.length pX) (.slice bX oD.o.pos.length qX) (.slice cX oD.o.st.length rX) (.slice dX oD.o.bk.length tX)
  obtain ⟨GX, eGX⟩ : ∃ GX, u9.heap.size = GX := ⟨_, rfl⟩
  have HGX := Lib.hid eGX
  have HY11 := Lib.hid hz
  rw [eGX] at n110 n111 n112 n113
  clear hz
  obtain ⟨c12_GD0, c12_GD1, c12_GD2, c12_GD3⟩ := box_below4 hb c10_GD0 c10_GD1 c10_GD2 c10_GD3
  have HD12_X := Lib.hid (HOX.out.below hb)
  have HB12 := Lib.hid (HB10.out.trans (hb.mono HB10.out.size))
  have HZ12 := Lib.hid hb.size
  clear hb c10_GD0 c10_GD1 c10_GD2 c10_GD3 HOX HB10
  go_wp2_with fail
  clear eU11 eGX
  refine (EokE.impl U11 _ oD HD12_X.out.rd (by have := HFITD.out; unfold totE tot at this; omega) q HQ.out).mono ?_
  rintro e u13 ⟨rfl, hb⟩
  obtain ⟨c14_GD0, c14_GD1, c14_GD2, c14_GD3⟩ := box_below4 hb c12_GD0 c12_GD1 c12_GD2 c12_GD3
  obtain ⟨c14_GX0, c14_GX1, c14_GX2, c14_GX3⟩ := box_below4 hb n110 n111 n112 n113
  have HD14_X := Lib.hid (HD12_X.out.below hb)
  have HB14 := Lib.hid (HB12.out.trans (hb.mono HB12.out.size))
  have HZ14 := Lib.hid hb.size
  clear hb c12_GD0 c12_GD1 c12_GD2 c12_GD3 n110 n111 n112 n113 HD12_X HB12
  have HQ1 := Lib.hid (fun u (hb : Below u13.heap.size u13 u) => (box_below4 hb c14_GX0 c14_GX1 c14_GX2 c14_GX3))
  have HQ2 := Lib.hid (fun u (hb : Below u13.heap.size u13 u) => (box_below4 hb c14_GD0 c14_GD1 c14_GD2 c14_GD3))
  go_wp2_with fail
  go_region_held3 (fun w' => w'.cell? ⟨GX, 0, none⟩ = some (.slice aX oD.ks.length pX) ∧ w'.cell? ⟨GX, 1, none⟩ = some (.slice bX oD.o.pos.length qX) ∧ w'.cell? ⟨GX, 2, none⟩ = some (.slice cX oD.o.st.length rX) ∧ w'.cell? ⟨GX, 3, none⟩ = some (.slice dX oD.o.bk.length tX) ∧ w'.cell? ⟨GD, 0, none⟩ = some kD ∧ w'.cell? ⟨GD, 1, none⟩ = some pD ∧ w'.cell? ⟨GD, 2, none⟩ = some sD ∧ w'.cell? ⟨GD, 3, none⟩ = some bD)
    (first | exact ⟨c14_GX0, c14_GX1, c14_GX2, c14_GX3, c14_GD0, c14_GD1, c14_GD2, c14_GD3⟩ | exact ⟨e20, e21, e22, e23, e24, e25, e26, e27⟩ | exact ⟨e10, e11, e12, e13, e14, e15, e16, e17⟩)
    (first
    | (go_at_call 52; refine (EncL.toEnc _ _ oD (HVD.out.below (below_drewN HB14.out _)) HFITD.out).mono ?_; rintro e y15 ⟨rr, rfl, ho, hb⟩; have HEY : Hid (Below u13.heap.size u13 y15) := Lib.hid ⟨hb.os, hb.tape, hb.output, hb.size, hb.block⟩; have HOY := Lib.hid ho.rd; obtain ⟨e10, e11, e12, e13⟩ := HQ1.out y15 HEY.out; obtain ⟨e14, e15, e16, e17⟩ := HQ2.out y15 HEY.out; clear ho hb)
    | (go_at_call 45; refine (EncL.eqEnc _ _ _ oD (HD14_X.out.rd.below (by first | exact HEY.out | exact below_drewN HEY.out _)) HOY.out).mono ?_; rintro e z15 ⟨rfl, hb⟩; have HEZ := Lib.hid (HEY.out.trans (hb.mono HEY.out.size)); obtain ⟨e20, e21, e22, e23⟩ := HQ1.out z15 HEZ.out; obtain ⟨e24, e25, e26, e27⟩ := HQ2.out z15 HEZ.out; clear hb))
  have hb : Below u13.heap.size u13 z15 := HEZ.out
  clear e10 e11 e12 e13 e14 e15 e16 e17 e20 e21 e22 e23 e24 e25 e26 e27 HQ1 HQ2 HEY HEZ HOY
  obtain ⟨c16_GD0, c16_GD1, c16_GD2, c16_GD3⟩ := box_below4 hb c14_GD0 c14_GD1 c14_GD2 c14_GD3
  obtain ⟨c16_GX0, c16_GX1, c16_GX2, c16_GX3⟩ := box_below4 hb c14_GX0 c14_GX1 c14_GX2 c14_GX3
  have HD16_X := Lib.hid (HD14_X.out.below hb)
  have HB16 := Lib.hid (HB14.out.trans (hb.mono HB14.out.size))
  have HZ16 := Lib.hid hb.size
  clear hb c14_GD0 c14_GD1 c14_GD2 c14_GD3 c14_GX0 c14_GX1 c14_GX2 c14_GX3 HD14_X HB14
  go_wp2_with fail
  go_ret
  exact ⟨rfl, HB16.out⟩

set_option maxRecDepth 100000 in
theorem walk_any {H : Type} {enc : TypeId × Value → H} {W : World} {base b0 : Nat} {spare : Nat → Bool} {held : Bool} {v : Value} {d : DataW H} {p : List MemPlace}
    (o : Value.okWide Try.prog W .any b0 87 v) (h : DataW.Trod enc Try.prog W base spare held 87 v d p) :
    Calls Try.prog 8 #[v] W fun e w' => e = .returned (.bool true) ∧ Below W.heap.size W w' := by
  obtain ⟨r, hr⟩ := EncP.open_enc o h
  exact walk W v r hr
end Go.Proofs.Ytealdpkgfmokpaa.ExEncOK
