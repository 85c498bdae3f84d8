/-
  What is proved: the exact law on SameOram returns true (the walk).
-/
import Derived.Test.YtodhfpnfbdkefaaRows
import Derived.Test.YtodhfpnfbdkefaaExO
import Derived.Test.YtodhfpnfbdkefaaSameO
import Derived.Deep.RegionHeld3
import Derived.Deep.RegionWith
namespace Go.Proofs.Ytodhfpnfbdkefaa.ExSameOram
open Go.ChangeShapes Go.WideShapes Go.ChangeAt Go.RowKit
open Sl (Sl Own Off)
open OpenSl (tc nc pc)
open Dev Orm ExO
set_option linter.unusedVariables false

set_option maxRecDepth 100000 in
set_option maxHeartbeats 3200000 in
theorem walk (w : World) (v u : Value) (oA oB : Om) (hA : Rd w v oA) (hB : Rd w u oB) :
    Calls Try.prog 12 #[v, u] w fun e w' => e = .returned (.bool true) ∧ Below w.heap.size w w' := by
  have HVA := Lib.hid hA
  obtain ⟨pA, sA, bA, rfl, _, _, _⟩ := hA
  have HVB := Lib.hid hB
  obtain ⟨pB, sB, bB, rfl, _, _, _⟩ := hB
  have HB0 := Lib.hid (Below.refl w.heap.size w)
  obtain ⟨q, eq⟩ : ∃ q, decide (oA = oB) = q := ⟨_, rfl⟩
  have EQ := Lib.hid eq
  clear eq
  obtain ⟨U1, eU1, hb, hz, n10, n11, n12⟩ := boxU w 53 pA sA bA
  obtain ⟨GA, eGA⟩ : ∃ GA, w.heap.size = GA := ⟨_, rfl⟩
  have HGA := Lib.hid eGA
  have HY1 := Lib.hid hz
  rw [eGA] at n10 n11 n12
  clear hz
  have HB2 := Lib.hid (HB0.out.trans (hb.mono HB0.out.size))
  have HZ2 := Lib.hid hb.size
  clear hb HB0
  obtain ⟨U3, eU3, hb, hz, n30, n31, n32⟩ := boxU U1 53 pB sB bB
  obtain ⟨GB, eGB⟩ : ∃ GB, U1.heap.size = GB := ⟨_, rfl⟩
  have HGB := Lib.hid eGB
  have HY3 := Lib.hid hz
  rw [eGB] at n30 n31 n32
  clear hz
  obtain ⟨c4_GA0, c4_GA1, c4_GA2⟩ := box_below hb n10 n11 n12
  have HB4 := Lib.hid (HB2.out.trans (hb.mono HB2.out.size))
  have HZ4 := Lib.hid hb.size
  clear hb n10 n11 n12 HB2
  go_enter Try.func12, Try.ntmps12
  go_wp2_with fail
  clear eU1 eGA eU3 eGB
  refine (LawO.szOram U3 _ oA (HVA.out.below HB4.out) 1048576 (by omega)).mono ?_
  rintro e u5 ⟨⟨r, rfl, hr⟩, hb⟩
  obtain ⟨c6_GA0, c6_GA1, c6_GA2⟩ := box_below hb c4_GA0 c4_GA1 c4_GA2
  obtain ⟨c6_GB0, c6_GB1, c6_GB2⟩ := box_below hb n30 n31 n32
  have HB6 := Lib.hid (HB4.out.trans (hb.mono HB4.out.size))
  have HZ6 := Lib.hid hb.size
  clear hb c4_GA0 c4_GA1 c4_GA2 n30 n31 n32 HB4
  rcases hr with rfl | ⟨R5, rfl, hR⟩
  · go_wp2_with fail
    go_ret
    exact ⟨rfl, HB6.out⟩
  have HFITA := Lib.hid (show tot oA ≤ 1048576 by omega)
  have hR5 : R5 ≤ 1048576 := by omega
  clear hR
  have dR5 : decide ((R5 : Int) < 0) = false := decide_eq_false (by omega)
  go_wp2_with fail
  refine (LawO.szOram u5 _ oB (HVB.out.below HB6.out) R5 (by omega)).mono ?_
  rintro e u7 ⟨⟨r, rfl, hr⟩, hb⟩
  obtain ⟨c8_GA0, c8_GA1, c8_GA2⟩ := box_below hb c6_GA0 c6_GA1 c6_GA2
  obtain ⟨c8_GB0, c8_GB1, c8_GB2⟩ := box_below hb c6_GB0 c6_GB1 c6_GB2
  have HB8 := Lib.hid (HB6.out.trans (hb.mono HB6.out.size))
  have HZ8 := Lib.hid hb.size
  clear hb c6_GA0 c6_GA1 c6_GA2 c6_GB0 c6_GB1 c6_GB2 HB6
  rcases hr with rfl | ⟨R7, rfl, hR⟩
  · go_wp2_with fail
    go_ret
    exact ⟨rfl, HB8.out⟩
  have HFITB := Lib.hid (show tot oB ≤ 1048576 by omega)
  have hR7 : R7 ≤ 1048576 := by omega
  clear hR
  have dR7 : decide ((R7 : Int) < 0) = false := decide_eq_false (by omega)
  have HQ1 := Lib.hid (fun u (hb : Below u7.heap.size u7 u) => (box_below hb c8_GA0 c8_GA1 c8_GA2))
  have HQ2 := Lib.hid (fun u (hb : Below u7.heap.size u7 u) => (box_below hb c8_GB0 c8_GB1 c8_GB2))
  go_wp2_with fail
  go_region_held3 (fun w' => w'.cell? ⟨GA, 0, none⟩ = some pA ∧ w'.cell? ⟨GA, 1, none⟩ = some sA ∧ w'.cell? ⟨GA, 2, none⟩ = some bA ∧ w'.cell? ⟨GB, 0, none⟩ = some pB ∧ w'.cell? ⟨GB, 1, none⟩ = some sB ∧ w'.cell? ⟨GB, 2, none⟩ = some bB)
    (first | exact ⟨c8_GA0, c8_GA1, c8_GA2, c8_GB0, c8_GB1, c8_GB2⟩ | exact ⟨e20, e21, e22, e23, e24, e25⟩ | exact ⟨e10, e11, e12, e13, e14, e15⟩)
    (first
    | (go_at_call 35; have hx := HEY1.out; clear hx; refine (LawO3.toOram _ (.agg #[pB, sB, bB]) oB (HVB.out.below (HB8.out.trans (Below.mono (by first | exact below_drewN (Below.refl _ _) _ | exact HEY1.out | exact below_drewN HEY1.out _) HB8.out.size))) HFITB.out).mono ?_; rintro e y2 ⟨rr2, rfl, ho, hb⟩; have HFY2 := Lib.hid hb; have HEY2 : Hid (Below u7.heap.size u7 y2) := Lib.hid (by first | exact Below.trans (below_drewN (Below.refl _ _) _) hb | exact HEY1.out.trans (hb.mono HEY1.out.size)); have HOY2 := Lib.hid ho.rd; obtain ⟨e10, e11, e12⟩ := HQ1.out y2 HEY2.out; obtain ⟨e13, e14, e15⟩ := HQ2.out y2 HEY2.out; clear ho hb)
    | (go_at_call 35; refine (LawO3.toOram _ (.agg #[pA, sA, bA]) oA (HVA.out.below (HB8.out.trans (Below.mono (by first | exact below_drewN (Below.refl _ _) _ | exact HEY2.out | exact below_drewN HEY2.out _) HB8.out.size))) HFITA.out).mono ?_; rintro e y1 ⟨rr1, rfl, ho, hb⟩; have HFY1 := Lib.hid hb; have HEY1 : Hid (Below u7.heap.size u7 y1) := Lib.hid (by first | exact Below.trans (below_drewN (Below.refl _ _) _) hb | exact HEY2.out.trans (hb.mono HEY2.out.size)); have HOY1 := Lib.hid ho.rd; obtain ⟨e10, e11, e12⟩ := HQ1.out y1 HEY1.out; obtain ⟨e13, e14, e15⟩ := HQ2.out y1 HEY1.out; clear ho hb)
    | (go_at_call 41; refine (SameO.spec _ _ _ oA oB (HOY1.out.below (by first | exact HFY2.out | exact below_drewN HFY2.out _)) (HOY2.out.below (by first | exact Below.refl _ _ | exact below_drewN (Below.refl _ _) _))).mono ?_; rw [EQ.out]; rintro e y3 ⟨rfl, hb⟩; have HEZ := Lib.hid (HEY2.out.trans (hb.mono HEY2.out.size)); obtain ⟨e20, e21, e22⟩ := HQ1.out y3 HEZ.out; obtain ⟨e23, e24, e25⟩ := HQ2.out y3 HEZ.out; clear hb))
  have hb : Below u7.heap.size u7 y3 := HEZ.out
  clear e10 e11 e12 e13 e14 e15 e20 e21 e22 e23 e24 e25 HQ1 HQ2 HEY1 HEY2 HFY1 HFY2 HOY1 HOY2 HEZ
  obtain ⟨c9_GA0, c9_GA1, c9_GA2⟩ := box_below hb c8_GA0 c8_GA1 c8_GA2
  obtain ⟨c9_GB0, c9_GB1, c9_GB2⟩ := box_below hb c8_GB0 c8_GB1 c8_GB2
  have HB9 := Lib.hid (HB8.out.trans (hb.mono HB8.out.size))
  have HZ9 := Lib.hid hb.size
  clear hb c8_GA0 c8_GA1 c8_GA2 c8_GB0 c8_GB1 c8_GB2 HB8
  go_wp2_with fail
  refine (LawO3.toOram y3 _ oA (HVA.out.below HB9.out) HFITA.out).mono ?_
  rintro e u10 ⟨r10, rfl, ho, hb⟩
  obtain ⟨loX, elo⟩ : ∃ x, y3.heap.size = x := ⟨_, rfl⟩
  obtain ⟨hiX, ehi⟩ : ∃ x, u10.heap.size = x := ⟨_, rfl⟩
  rw [elo, ehi] at ho
  have HLOX := Lib.hid elo
  have HHIX := Lib.hid ehi
  have HOX := Lib.hid ho
  obtain ⟨aX, pX, bX, qX, cX, rX, rfl⟩ := form ho.rd
  clear ho elo ehi
  obtain ⟨c12_GA0, c12_GA1, c12_GA2⟩ := box_below hb c9_GA0 c9_GA1 c9_GA2
  obtain ⟨c12_GB0, c12_GB1, c12_GB2⟩ := box_below hb c9_GB0 c9_GB1 c9_GB2
  have HB12 := Lib.hid (HB9.out.trans (hb.mono HB9.out.size))
  have HZ12 := Lib.hid hb.size
  clear hb c9_GA0 c9_GA1 c9_GA2 c9_GB0 c9_GB1 c9_GB2 HB9
  obtain ⟨U13, eU13, hb, hz, n130, n131, n132⟩ := boxU u10 27 (.slice aX oA.pos.length pX) (.slice bX oA.st.length qX) (.slice cX oA.bk.length rX)
  obtain ⟨GX, eGX⟩ : ∃ GX, u10.heap.size = GX := ⟨_, rfl⟩
  have HGX := Lib.hid eGX
  have HY13 := Lib.hid hz
  rw [eGX] at n130 n131 n132
  clear hz
  obtain ⟨c14_GA0, c14_GA1, c14_GA2⟩ := box_below hb c12_GA0 c12_GA1 c12_GA2
  obtain ⟨c14_GB0, c14_GB1, c14_GB2⟩ := box_below hb c12_GB0 c12_GB1 c12_GB2
  have HD14_X := Lib.hid (HOX.out.below hb)
  have HB14 := Lib.hid (HB12.out.trans (hb.mono HB12.out.size))
  have HZ14 := Lib.hid hb.size
  clear hb c12_GA0 c12_GA1 c12_GA2 c12_GB0 c12_GB1 c12_GB2 HOX HB12
  go_wp2_with fail
  clear eU13 eGX
  refine (LawO3.toOram U13 _ oB (HVB.out.below HB14.out) HFITB.out).mono ?_
  rintro e u15 ⟨r15, rfl, ho, hb⟩
  obtain ⟨loY, elo⟩ : ∃ x, U13.heap.size = x := ⟨_, rfl⟩
  obtain ⟨hiY, ehi⟩ : ∃ x, u15.heap.size = x := ⟨_, rfl⟩
  rw [elo, ehi] at ho
  have HLOY := Lib.hid elo
  have HHIY := Lib.hid ehi
  have HOY := Lib.hid ho
  obtain ⟨aY, pY, bY, qY, cY, rY, rfl⟩ := form ho.rd
  clear ho elo ehi
  obtain ⟨c17_GA0, c17_GA1, c17_GA2⟩ := box_below hb c14_GA0 c14_GA1 c14_GA2
  obtain ⟨c17_GB0, c17_GB1, c17_GB2⟩ := box_below hb c14_GB0 c14_GB1 c14_GB2
  obtain ⟨c17_GX0, c17_GX1, c17_GX2⟩ := box_below hb n130 n131 n132
  have HD17_X := Lib.hid (HD14_X.out.below hb)
  have HB17 := Lib.hid (HB14.out.trans (hb.mono HB14.out.size))
  have HZ17 := Lib.hid hb.size
  clear hb c14_GA0 c14_GA1 c14_GA2 c14_GB0 c14_GB1 c14_GB2 n130 n131 n132 HD14_X HB14
  obtain ⟨U18, eU18, hb, hz, n180, n181, n182⟩ := boxU u15 27 (.slice aY oB.pos.length pY) (.slice bY oB.st.length qY) (.slice cY oB.bk.length rY)
  obtain ⟨GY, eGY⟩ : ∃ GY, u15.heap.size = GY := ⟨_, rfl⟩
  have HGY := Lib.hid eGY
  have HY18 := Lib.hid hz
  rw [eGY] at n180 n181 n182
  clear hz
  obtain ⟨c19_GA0, c19_GA1, c19_GA2⟩ := box_below hb c17_GA0 c17_GA1 c17_GA2
  obtain ⟨c19_GB0, c19_GB1, c19_GB2⟩ := box_below hb c17_GB0 c17_GB1 c17_GB2
  obtain ⟨c19_GX0, c19_GX1, c19_GX2⟩ := box_below hb c17_GX0 c17_GX1 c17_GX2
  have HD19_X := Lib.hid (HD17_X.out.below hb)
  have HD19_Y := Lib.hid (HOY.out.below hb)
  have HB19 := Lib.hid (HB17.out.trans (hb.mono HB17.out.size))
  have HZ19 := Lib.hid hb.size
  clear hb c17_GA0 c17_GA1 c17_GA2 c17_GB0 c17_GB1 c17_GB2 c17_GX0 c17_GX1 c17_GX2 HD17_X HOY HB17
  go_wp2_with fail
  clear eU18 eGY
  refine (SameO.impl U18 _ _ oA oB HD19_X.out.rd HD19_Y.out.rd).mono ?_
  rw [EQ.out]
  rintro e u20 ⟨rfl, hb⟩
  obtain ⟨c21_GA0, c21_GA1, c21_GA2⟩ := box_below hb c19_GA0 c19_GA1 c19_GA2
  obtain ⟨c21_GB0, c21_GB1, c21_GB2⟩ := box_below hb c19_GB0 c19_GB1 c19_GB2
  obtain ⟨c21_GX0, c21_GX1, c21_GX2⟩ := box_below hb c19_GX0 c19_GX1 c19_GX2
  obtain ⟨c21_GY0, c21_GY1, c21_GY2⟩ := box_below hb n180 n181 n182
  have HD21_X := Lib.hid (HD19_X.out.below hb)
  have HD21_Y := Lib.hid (HD19_Y.out.below hb)
  have HB21 := Lib.hid (HB19.out.trans (hb.mono HB19.out.size))
  have HZ21 := Lib.hid hb.size
  clear hb c19_GA0 c19_GA1 c19_GA2 c19_GB0 c19_GB1 c19_GB2 c19_GX0 c19_GX1 c19_GX2 n180 n181 n182 HD19_X HD19_Y HB19
  have HQ1 := Lib.hid (fun u (hb : Below u20.heap.size u20 u) => (box_below hb c21_GX0 c21_GX1 c21_GX2))
  have HQ2 := Lib.hid (fun u (hb : Below u20.heap.size u20 u) => (box_below hb c21_GA0 c21_GA1 c21_GA2))
  go_wp2_with fail
  go_region_held3 (fun w' => w'.cell? ⟨GX, 0, none⟩ = some (.slice aX oA.pos.length pX) ∧ w'.cell? ⟨GX, 1, none⟩ = some (.slice bX oA.st.length qX) ∧ w'.cell? ⟨GX, 2, none⟩ = some (.slice cX oA.bk.length rX) ∧ w'.cell? ⟨GA, 0, none⟩ = some pA ∧ w'.cell? ⟨GA, 1, none⟩ = some sA ∧ w'.cell? ⟨GA, 2, none⟩ = some bA)
    (first | exact ⟨c21_GX0, c21_GX1, c21_GX2, c21_GA0, c21_GA1, c21_GA2⟩ | exact ⟨e20, e21, e22, e23, e24, e25⟩ | exact ⟨e10, e11, e12, e13, e14, e15⟩)
    (first
    | (go_at_call 35; refine (LawO3.toOram _ _ oA (HVA.out.below (below_drewN HB21.out _)) HFITA.out).mono ?_; rintro e y22 ⟨rr, rfl, ho, hb⟩; have HEY : Hid (Below u20.heap.size u20 y22) := Lib.hid ⟨hb.os, hb.tape, hb.output, hb.size, hb.block⟩; have HOY := Lib.hid ho.rd; obtain ⟨e10, e11, e12⟩ := HQ1.out y22 HEY.out; obtain ⟨e13, e14, e15⟩ := HQ2.out y22 HEY.out; clear ho hb)
    | (go_at_call 28; refine (LawO.eqOram _ _ _ oA (HD21_X.out.rd.below (by first | exact HEY.out | exact below_drewN HEY.out _)) HOY.out).mono ?_; rintro e z22 ⟨rfl, hb⟩; have HEZ := Lib.hid (HEY.out.trans (hb.mono HEY.out.size)); obtain ⟨e20, e21, e22⟩ := HQ1.out z22 HEZ.out; obtain ⟨e23, e24, e25⟩ := HQ2.out z22 HEZ.out; clear hb))
  have hb : Below u20.heap.size u20 z22 := HEZ.out
  clear e10 e11 e12 e13 e14 e15 e20 e21 e22 e23 e24 e25 HQ1 HQ2 HEY HEZ HOY
  obtain ⟨c23_GA0, c23_GA1, c23_GA2⟩ := box_below hb c21_GA0 c21_GA1 c21_GA2
  obtain ⟨c23_GB0, c23_GB1, c23_GB2⟩ := box_below hb c21_GB0 c21_GB1 c21_GB2
  obtain ⟨c23_GX0, c23_GX1, c23_GX2⟩ := box_below hb c21_GX0 c21_GX1 c21_GX2
  obtain ⟨c23_GY0, c23_GY1, c23_GY2⟩ := box_below hb c21_GY0 c21_GY1 c21_GY2
  have HD23_X := Lib.hid (HD21_X.out.below hb)
  have HD23_Y := Lib.hid (HD21_Y.out.below hb)
  have HB23 := Lib.hid (HB21.out.trans (hb.mono HB21.out.size))
  have HZ23 := Lib.hid hb.size
  clear hb c21_GA0 c21_GA1 c21_GA2 c21_GB0 c21_GB1 c21_GB2 c21_GX0 c21_GX1 c21_GX2 c21_GY0 c21_GY1 c21_GY2 HD21_X HD21_Y HB21
  have HQ1 := Lib.hid (fun u (hb : Below z22.heap.size z22 u) => (box_below hb c23_GY0 c23_GY1 c23_GY2))
  have HQ2 := Lib.hid (fun u (hb : Below z22.heap.size z22 u) => (box_below hb c23_GB0 c23_GB1 c23_GB2))
  go_wp2_with fail
  go_region_held3 (fun w' => w'.cell? ⟨GY, 0, none⟩ = some (.slice aY oB.pos.length pY) ∧ w'.cell? ⟨GY, 1, none⟩ = some (.slice bY oB.st.length qY) ∧ w'.cell? ⟨GY, 2, none⟩ = some (.slice cY oB.bk.length rY) ∧ w'.cell? ⟨GB, 0, none⟩ = some pB ∧ w'.cell? ⟨GB, 1, none⟩ = some sB ∧ w'.cell? ⟨GB, 2, none⟩ = some bB)
    (first | exact ⟨c23_GY0, c23_GY1, c23_GY2, c23_GB0, c23_GB1, c23_GB2⟩ | exact ⟨e20, e21, e22, e23, e24, e25⟩ | exact ⟨e10, e11, e12, e13, e14, e15⟩)
    (first
    | (go_at_call 35; refine (LawO3.toOram _ _ oB (HVB.out.below (below_drewN HB23.out _)) HFITB.out).mono ?_; rintro e y24 ⟨rr, rfl, ho, hb⟩; have HEY : Hid (Below z22.heap.size z22 y24) := Lib.hid ⟨hb.os, hb.tape, hb.output, hb.size, hb.block⟩; have HOY := Lib.hid ho.rd; obtain ⟨e10, e11, e12⟩ := HQ1.out y24 HEY.out; obtain ⟨e13, e14, e15⟩ := HQ2.out y24 HEY.out; clear ho hb)
    | (go_at_call 28; refine (LawO.eqOram _ _ _ oB (HD23_Y.out.rd.below (by first | exact HEY.out | exact below_drewN HEY.out _)) HOY.out).mono ?_; rintro e z24 ⟨rfl, hb⟩; have HEZ := Lib.hid (HEY.out.trans (hb.mono HEY.out.size)); obtain ⟨e20, e21, e22⟩ := HQ1.out z24 HEZ.out; obtain ⟨e23, e24, e25⟩ := HQ2.out z24 HEZ.out; clear hb))
  have hb : Below z22.heap.size z22 z24 := HEZ.out
  clear e10 e11 e12 e13 e14 e15 e20 e21 e22 e23 e24 e25 HQ1 HQ2 HEY HEZ HOY
  obtain ⟨c25_GA0, c25_GA1, c25_GA2⟩ := box_below hb c23_GA0 c23_GA1 c23_GA2
  obtain ⟨c25_GB0, c25_GB1, c25_GB2⟩ := box_below hb c23_GB0 c23_GB1 c23_GB2
  obtain ⟨c25_GX0, c25_GX1, c25_GX2⟩ := box_below hb c23_GX0 c23_GX1 c23_GX2
  obtain ⟨c25_GY0, c25_GY1, c25_GY2⟩ := box_below hb c23_GY0 c23_GY1 c23_GY2
  have HD25_X := Lib.hid (HD23_X.out.below hb)
  have HD25_Y := Lib.hid (HD23_Y.out.below hb)
  have HB25 := Lib.hid (HB23.out.trans (hb.mono HB23.out.size))
  have HZ25 := Lib.hid hb.size
  clear hb c23_GA0 c23_GA1 c23_GA2 c23_GB0 c23_GB1 c23_GB2 c23_GX0 c23_GX1 c23_GX2 c23_GY0 c23_GY1 c23_GY2 HD23_X HD23_Y HB23
  go_wp2_with fail
  go_ret
  exact ⟨rfl, HB25.out⟩
set_option maxRecDepth 100000 in
theorem walk_any {H : Type} {enc : TypeId × Value → H} {W : World} {base b0 base' b0' : Nat} {spare spare' : Nat → Bool} {held held' : Bool} {v u : Value} {d d' : DataW H} {p p' : List MemPlace}
    (o : Value.okWide Try.prog W .any b0 53 v) (h : DataW.Trod enc Try.prog W base spare held 53 v d p)
    (o' : Value.okWide Try.prog W .any b0' 53 u) (h' : DataW.Trod enc Try.prog W base' spare' held' 53 u d' p') :
    Calls Try.prog 12 #[v, u] W fun e w' => e = .returned (.bool true) ∧ Below W.heap.size W w' := by
  obtain ⟨r, hr⟩ := open_oram o h
  obtain ⟨r', hr'⟩ := open_oram o' h'
  exact walk W v u r r' hr hr'
end Go.Proofs.Ytodhfpnfbdkefaa.ExSameOram
