/-
  What is proved: the exact law on MapOf returns true (the walk).
-/
import Derived.Test.YtealdpkgfmokpaaRows
import Derived.Test.YtealdpkgfmokpaaExE
import Derived.Test.YtealdpkgfmokpaaLawE
import Derived.Test.YtealdpkgfmokpaaMofS
import Derived.Test.YtealdpkgfmokpaaMofI
import Derived.Deep.RegionHeld3
import Derived.Deep.RegionWith
namespace Go.Proofs.Ytealdpkgfmokpaa.ExMapOf
open Go.ChangeShapes Go.WideShapes Go.ChangeAt Go.RowKit
open Sl (Sl Own Off)
open OpenSl (tc nc pc)
open Dev Orm ExE EncP
set_option linter.unusedVariables false

set_option maxRecDepth 100000 in
set_option maxHeartbeats 3200000 in
theorem walk (w : World) (v : Value) (oD : Em) (hD : RdE w v oD) :
    Calls Try.prog 9 #[v] w fun e w' => e = .returned (.bool true) ∧ Below w.heap.size w w' := by
  have HVD := Lib.hid hD
  obtain ⟨kD, pD, sD, bD, rfl, _, _⟩ := hD
  have HB0 := Lib.hid (Below.refl w.heap.size w)
  obtain ⟨q, hq⟩ := OkV.ask (EokE.EOk oD)
  have HQ := Lib.hid hq
  clear hq
  obtain ⟨AX, eA⟩ : ∃ AX, MofP.mo oD q = AX := ⟨_, rfl⟩
  obtain ⟨CC, eC⟩ : ∃ CC, MofP.mc q = CC := ⟨_, rfl⟩
  have HLA := Lib.hid (show AX.length ≤ 11 by rw [← eA]; exact MofP.mo_len oD q HQ.out.1)
  have EA := Lib.hid eA
  have EC := Lib.hid eC
  clear eA eC
  have fC : (CC != CC) = false := by simp
  obtain ⟨U1, eU1, hb, hz, n10, n11, n12, n13⟩ := boxU4 w 87 kD pD sD bD
  obtain ⟨GD, eGD⟩ : ∃ GD, w.heap.size = GD := ⟨_, rfl⟩
  have HGD := Lib.hid eGD
  have HY1 := Lib.hid hz
  rw [eGD] at n10 n11 n12 n13
  clear hz
  have HB2 := Lib.hid (HB0.out.trans (hb.mono HB0.out.size))
  have HZ2 := Lib.hid hb.size
  clear hb HB0
  go_enter Try.func9, Try.ntmps9
  go_wp2_with fail
  clear eU1 eGD
  refine (EncL.szEnc U1 _ oD (HVD.out.below HB2.out) 1048576 (by omega)).mono ?_
  rintro e u3 ⟨⟨r, rfl, hr⟩, hb⟩
  obtain ⟨c4_GD0, c4_GD1, c4_GD2, c4_GD3⟩ := box_below4 hb n10 n11 n12 n13
  have HB4 := Lib.hid (HB2.out.trans (hb.mono HB2.out.size))
  have HZ4 := Lib.hid hb.size
  clear hb n10 n11 n12 n13 HB2
  rcases hr with rfl | ⟨R3, rfl, hR⟩
  · go_wp2_with fail
    go_ret
    exact ⟨rfl, HB4.out⟩
  have HFITD := Lib.hid (show totE oD ≤ 1048576 by omega)
  have hR3 : R3 ≤ 1048576 := by omega
  clear hR
  have dR3 : decide ((R3 : Int) < 0) = false := decide_eq_false (by omega)
  have LENX := Lib.hid (show 1 + wtE oD ≤ 10000000 by have := HFITD.out; have := LawO4.wt_le oD.o; have h3 := HFITD.out; unfold totE at h3; unfold wtE; omega)
  go_wp2_with fail
  refine (EncL.toEnc u3 _ oD (HVD.out.below HB4.out) HFITD.out).mono ?_
  rintro e u5 ⟨r5, rfl, ho, hb⟩
  obtain ⟨loc1, elo⟩ : ∃ x, u3.heap.size = x := ⟨_, rfl⟩
  obtain ⟨hic1, ehi⟩ : ∃ x, u5.heap.size = x := ⟨_, rfl⟩
  rw [elo, ehi] at ho
  have HLOc1 := Lib.hid elo
  have HHIc1 := Lib.hid ehi
  have HOc1 := Lib.hid ho
  obtain ⟨ac1, pc1, bc1, qc1, cc1, rc1, dc1, tc1, rfl⟩ := ho.rd.form
  clear ho elo ehi
  obtain ⟨c6_GD0, c6_GD1, c6_GD2, c6_GD3⟩ := box_below4 hb c4_GD0 c4_GD1 c4_GD2 c4_GD3
  have HB6 := Lib.hid (HB4.out.trans (hb.mono HB4.out.size))
  have HZ6 := Lib.hid hb.size
  clear hb c4_GD0 c4_GD1 c4_GD2 c4_GD3 HB4
  go_wp2_with fail
  refine (MofS.spec u5 _ oD HOc1.out.rd q HQ.out).mono ?_
  rw [EA.out, EC.out]
  rintro e u7 ⟨r7, rfl, ho, hb⟩
  obtain ⟨loW0, elo⟩ : ∃ x, u5.heap.size = x := ⟨_, rfl⟩
  obtain ⟨hiW0, ehi⟩ : ∃ x, u7.heap.size = x := ⟨_, rfl⟩
  have HLW0 := Lib.hid (lies_of ho (by decide))
  rw [elo] at ho
  rw [elo, ehi] at HLW0
  have HLOW0 := Lib.hid elo
  have HHIW0 := Lib.hid ehi
  have HOW0 := Lib.hid ho
  obtain ⟨aW0, cW0, rfl, _, _⟩ := ho.sl.form
  clear ho elo ehi
  obtain ⟨c8_GD0, c8_GD1, c8_GD2, c8_GD3⟩ := box_below4 hb c6_GD0 c6_GD1 c6_GD2 c6_GD3
  have HD8_c1 := Lib.hid (HOc1.out.below hb)
  have HB8 := Lib.hid (HB6.out.trans (hb.mono HB6.out.size))
  have HZ8 := Lib.hid hb.size
  clear hb c6_GD0 c6_GD1 c6_GD2 c6_GD3 HOc1 HB6
  clear HD8_c1
  go_wp2_with fail
  refine (EncL.toEnc u7 _ oD (HVD.out.below HB8.out) HFITD.out).mono ?_
  rintro e u9 ⟨r9, rfl, ho, hb⟩
  obtain ⟨loX, elo⟩ : ∃ x, u7.heap.size = x := ⟨_, rfl⟩
  obtain ⟨hiX, ehi⟩ : ∃ x, u9.heap.size = x := ⟨_, rfl⟩
  rw [elo, ehi] at ho
  have HLOX := Lib.hid elo
  have HHIX := Lib.hid ehi
  have HOX := Lib.hid ho
  obtain ⟨aX, pX, bX, qX, cX, rX, dX, tX, rfl⟩ := ho.rd.form
  clear ho elo ehi
  obtain ⟨c10_GD0, c10_GD1, c10_GD2, c10_GD3⟩ := box_below4 hb c8_GD0 c8_GD1 c8_GD2 c8_GD3
  have HS10_W0 := Lib.hid (HOW0.out.below hb)
  have HB10 := Lib.hid (HB8.out.trans (hb.mono HB8.out.size))
  have HZ10 := Lib.hid hb.size
  clear hb c8_GD0 c8_GD1 c8_GD2 c8_GD3 HOW0 HB8
  obtain ⟨U11, eU11, hb, hz, n110, n111, n112, n113⟩ := boxU4 u9 77 (.slice aX oD.ks.length pX) (.slice bX oD.o.pos.length qX) (.slice cX oD.o.st.length rX) (.slice dX oD.o.bk.length tX)
  obtain ⟨GX, eGX⟩ : ∃ GX, u9.heap.size = GX := ⟨_, rfl⟩
  have HGX := Lib.hid eGX
  have HY11 := Lib.hid hz
  rw [eGX] at n110 n111 n112 n113
  clear hz
  obtain ⟨c12_GD0, c12_GD1, c12_GD2, c12_GD3⟩ := box_below4 hb c10_GD0 c10_GD1 c10_GD2 c10_GD3
  have HD12_X := Lib.hid (HOX.out.below hb)
  have HS12_W0 := Lib.hid (HS10_W0.out.below hb)
  have HB12 := Lib.hid (HB10.out.trans (hb.mono HB10.out.size))
  have HZ12 := Lib.hid hb.size
  clear hb c10_GD0 c10_GD1 c10_GD2 c10_GD3 HOX HS10_W0 HB10
  go_wp2_with fail
  clear eU11 eGX
  refine (MofI.impl U11 _ oD HD12_X.out.rd (by have := HFITD.out; unfold totE tot at this; omega) q HQ.out).mono ?_
  rw [EA.out, EC.out]
  rintro e u13 ⟨r13, rfl, ho, hb⟩
  obtain ⟨loG0, elo⟩ : ∃ x, U11.heap.size = x := ⟨_, rfl⟩
  obtain ⟨hiG0, ehi⟩ : ∃ x, u13.heap.size = x := ⟨_, rfl⟩
  have HLG0 := Lib.hid (lies_of ho (by decide))
  rw [elo] at ho
  rw [elo, ehi] at HLG0
  have HLOG0 := Lib.hid elo
  have HHIG0 := Lib.hid ehi
  have HOG0 := Lib.hid ho
  obtain ⟨aG0, cG0, rfl, _, _⟩ := ho.sl.form
  clear ho elo ehi
  obtain ⟨c14_GD0, c14_GD1, c14_GD2, c14_GD3⟩ := box_below4 hb c12_GD0 c12_GD1 c12_GD2 c12_GD3
  obtain ⟨c14_GX0, c14_GX1, c14_GX2, c14_GX3⟩ := box_below4 hb n110 n111 n112 n113
  have HD14_X := Lib.hid (HD12_X.out.below hb)
  have HS14_W0 := Lib.hid (HS12_W0.out.below hb)
  have HB14 := Lib.hid (HB12.out.trans (hb.mono HB12.out.size))
  have HZ14 := Lib.hid hb.size
  clear hb c12_GD0 c12_GD1 c12_GD2 c12_GD3 n110 n111 n112 n113 HD12_X HS12_W0 HB12
  go_wp2_with fail
  refine (LawE.eqEntryS u13 _ _ AX HOG0.out.sl HS14_W0.out.sl).mono ?_
  rintro e u15 ⟨rfl, hb⟩
  obtain ⟨c16_GD0, c16_GD1, c16_GD2, c16_GD3⟩ := box_below4 hb c14_GD0 c14_GD1 c14_GD2 c14_GD3
  obtain ⟨c16_GX0, c16_GX1, c16_GX2, c16_GX3⟩ := box_below4 hb c14_GX0 c14_GX1 c14_GX2 c14_GX3
  have HD16_X := Lib.hid (HD14_X.out.below hb)
  have HS16_W0 := Lib.hid (HS14_W0.out.below hb)
  have HS16_G0 := Lib.hid (HOG0.out.below hb)
  have HB16 := Lib.hid (HB14.out.trans (hb.mono HB14.out.size))
  have HZ16 := Lib.hid hb.size
  clear hb c14_GD0 c14_GD1 c14_GD2 c14_GD3 c14_GX0 c14_GX1 c14_GX2 c14_GX3 HD14_X HS14_W0 HOG0 HB14
  go_wp2_with fail
  have HQ1 := Lib.hid (fun u (hb : Below u15.heap.size u15 u) => (box_below4 hb c16_GX0 c16_GX1 c16_GX2 c16_GX3))
  have HQ2 := Lib.hid (fun u (hb : Below u15.heap.size u15 u) => (box_below4 hb c16_GD0 c16_GD1 c16_GD2 c16_GD3))
  go_wp2_with fail
  go_region_held3 (fun w' => w'.cell? ⟨GX, 0, none⟩ = some (.slice aX oD.ks.length pX) ∧ w'.cell? ⟨GX, 1, none⟩ = some (.slice bX oD.o.pos.length qX) ∧ w'.cell? ⟨GX, 2, none⟩ = some (.slice cX oD.o.st.length rX) ∧ w'.cell? ⟨GX, 3, none⟩ = some (.slice dX oD.o.bk.length tX) ∧ w'.cell? ⟨GD, 0, none⟩ = some kD ∧ w'.cell? ⟨GD, 1, none⟩ = some pD ∧ w'.cell? ⟨GD, 2, none⟩ = some sD ∧ w'.cell? ⟨GD, 3, none⟩ = some bD)
    (first | exact ⟨c16_GX0, c16_GX1, c16_GX2, c16_GX3, c16_GD0, c16_GD1, c16_GD2, c16_GD3⟩ | exact ⟨e20, e21, e22, e23, e24, e25, e26, e27⟩ | exact ⟨e10, e11, e12, e13, e14, e15, e16, e17⟩)
    (first
    | (go_at_call 52; refine (EncL.toEnc _ _ oD (HVD.out.below (below_drewN HB16.out _)) HFITD.out).mono ?_; rintro e y17 ⟨rr, rfl, ho, hb⟩; have HEY : Hid (Below u15.heap.size u15 y17) := Lib.hid ⟨hb.os, hb.tape, hb.output, hb.size, hb.block⟩; have HOY := Lib.hid ho.rd; obtain ⟨e10, e11, e12, e13⟩ := HQ1.out y17 HEY.out; obtain ⟨e14, e15, e16, e17⟩ := HQ2.out y17 HEY.out; clear ho hb)
    | (go_at_call 45; refine (EncL.eqEnc _ _ _ oD (HD16_X.out.rd.below (by first | exact HEY.out | exact below_drewN HEY.out _)) HOY.out).mono ?_; rintro e z17 ⟨rfl, hb⟩; have HEZ := Lib.hid (HEY.out.trans (hb.mono HEY.out.size)); obtain ⟨e20, e21, e22, e23⟩ := HQ1.out z17 HEZ.out; obtain ⟨e24, e25, e26, e27⟩ := HQ2.out z17 HEZ.out; clear hb))
  have hb : Below u15.heap.size u15 z17 := HEZ.out
  clear e10 e11 e12 e13 e14 e15 e16 e17 e20 e21 e22 e23 e24 e25 e26 e27 HQ1 HQ2 HEY HEZ HOY
  obtain ⟨c18_GD0, c18_GD1, c18_GD2, c18_GD3⟩ := box_below4 hb c16_GD0 c16_GD1 c16_GD2 c16_GD3
  obtain ⟨c18_GX0, c18_GX1, c18_GX2, c18_GX3⟩ := box_below4 hb c16_GX0 c16_GX1 c16_GX2 c16_GX3
  have HD18_X := Lib.hid (HD16_X.out.below hb)
  have HS18_W0 := Lib.hid (HS16_W0.out.below hb)
  have HS18_G0 := Lib.hid (HS16_G0.out.below hb)
  have HB18 := Lib.hid (HB16.out.trans (hb.mono HB16.out.size))
  have HZ18 := Lib.hid hb.size
  clear hb c16_GD0 c16_GD1 c16_GD2 c16_GD3 c16_GX0 c16_GX1 c16_GX2 c16_GX3 HD16_X HS16_W0 HS16_G0 HB16
  go_wp2_with fail
  refine (EncL.markEnc z17 loX hiX _ oD HD18_X.out (by have := HGD.out; have := HY1.out; have := HZ2.out; have := HZ4.out; have := HLOc1.out; have := HHIc1.out; have := HZ6.out; have := HLOW0.out; have := HHIW0.out; have := HZ8.out; have := HLOX.out; have := HHIX.out; have := HZ10.out; have := HGX.out; have := HY11.out; have := HZ12.out; have := HLOG0.out; have := HHIG0.out; have := HZ14.out; have := HZ16.out; have := HZ18.out; omega) 1 LENX.out).mono ?_
  rintro e u19 ⟨rfl, hm, ht⟩
  have HM19 := Lib.hid hm
  clear hm
  obtain ⟨c20_GD0, c20_GD1, c20_GD2, c20_GD3⟩ := box_turns4 ht (g := GD) (by have := HGD.out; have := HY1.out; have := HZ2.out; have := HZ4.out; have := HLOc1.out; have := HHIc1.out; have := HZ6.out; have := HLOW0.out; have := HHIW0.out; have := HZ8.out; have := HLOX.out; have := HHIX.out; have := HZ10.out; have := HGX.out; have := HY11.out; have := HZ12.out; have := HLOG0.out; have := HHIG0.out; have := HZ14.out; have := HZ16.out; have := HZ18.out; omega) c18_GD0 c18_GD1 c18_GD2 c18_GD3
  obtain ⟨c20_GX0, c20_GX1, c20_GX2, c20_GX3⟩ := box_turns4 ht (g := GX) (by have := HGD.out; have := HY1.out; have := HZ2.out; have := HZ4.out; have := HLOc1.out; have := HHIc1.out; have := HZ6.out; have := HLOW0.out; have := HHIW0.out; have := HZ8.out; have := HLOX.out; have := HHIX.out; have := HZ10.out; have := HGX.out; have := HY11.out; have := HZ12.out; have := HLOG0.out; have := HHIG0.out; have := HZ14.out; have := HZ16.out; have := HZ18.out; omega) c18_GX0 c18_GX1 c18_GX2 c18_GX3
  have HS20_W0 := Lib.hid (own_turnsR HS18_W0.out ht HLW0.out (by have := HGD.out; have := HY1.out; have := HZ2.out; have := HZ4.out; have := HLOc1.out; have := HHIc1.out; have := HZ6.out; have := HLOW0.out; have := HHIW0.out; have := HZ8.out; have := HLOX.out; have := HHIX.out; have := HZ10.out; have := HGX.out; have := HY11.out; have := HZ12.out; have := HLOG0.out; have := HHIG0.out; have := HZ14.out; have := HZ16.out; have := HZ18.out; omega))
  have HS20_G0 := Lib.hid (own_turnsR HS18_G0.out ht HLG0.out (by have := HGD.out; have := HY1.out; have := HZ2.out; have := HZ4.out; have := HLOc1.out; have := HHIc1.out; have := HZ6.out; have := HLOW0.out; have := HHIW0.out; have := HZ8.out; have := HLOX.out; have := HHIX.out; have := HZ10.out; have := HGX.out; have := HY11.out; have := HZ12.out; have := HLOG0.out; have := HHIG0.out; have := HZ14.out; have := HZ16.out; have := HZ18.out; omega))
  have HB20 := Lib.hid (HB18.out.trans (ht.below (by have := HGD.out; have := HY1.out; have := HZ2.out; have := HZ4.out; have := HLOc1.out; have := HHIc1.out; have := HZ6.out; have := HLOW0.out; have := HHIW0.out; have := HZ8.out; have := HLOX.out; have := HHIX.out; have := HZ10.out; have := HGX.out; have := HY11.out; have := HZ12.out; have := HLOG0.out; have := HHIG0.out; have := HZ14.out; have := HZ16.out; have := HZ18.out; omega) (by have := HGD.out; have := HY1.out; have := HZ2.out; have := HZ4.out; have := HLOc1.out; have := HHIc1.out; have := HZ6.out; have := HLOW0.out; have := HHIW0.out; have := HZ8.out; have := HLOX.out; have := HHIX.out; have := HZ10.out; have := HGX.out; have := HY11.out; have := HZ12.out; have := HLOG0.out; have := HHIG0.out; have := HZ14.out; have := HZ16.out; have := HZ18.out; have := HB18.out.size; omega)))
  have HZ20 := Lib.hid ht.size
  clear ht c18_GD0 c18_GD1 c18_GD2 c18_GD3 c18_GX0 c18_GX1 c18_GX2 c18_GX3 HS18_W0 HS18_G0 HB18
  clear HD18_X
  clear HM19
  obtain ⟨MX, eMX⟩ : ∃ MX, 1 + wtE oD = MX := ⟨_, rfl⟩
  rw [eMX]
  have EMX := Lib.hid eMX
  clear eMX
  have dMX : decide ((MX : Int) < 0) = false := decide_eq_false (by omega)
  have fMX : ((MX : Int) != (MX : Int)) = false := by simp
  go_wp2_with fail
  refine (LawE.eqEntryS u19 _ _ AX HS20_G0.out.sl HS20_W0.out.sl).mono ?_
  rintro e u21 ⟨rfl, hb⟩
  obtain ⟨c22_GD0, c22_GD1, c22_GD2, c22_GD3⟩ := box_below4 hb c20_GD0 c20_GD1 c20_GD2 c20_GD3
  obtain ⟨c22_GX0, c22_GX1, c22_GX2, c22_GX3⟩ := box_below4 hb c20_GX0 c20_GX1 c20_GX2 c20_GX3
  have HS22_W0 := Lib.hid (HS20_W0.out.below hb)
  have HS22_G0 := Lib.hid (HS20_G0.out.below hb)
  have HB22 := Lib.hid (HB20.out.trans (hb.mono HB20.out.size))
  have HZ22 := Lib.hid hb.size
  clear hb c20_GD0 c20_GD1 c20_GD2 c20_GD3 c20_GX0 c20_GX1 c20_GX2 c20_GX3 HS20_W0 HS20_G0 HB20
  go_wp2_with fail
  refine (LawE.markEntryS u21 loG0 _ AX.length _ HS22_G0.out 1 (by have := HLA.out; omega)).mono ?_
  rintro e u23 ⟨rfl, ho, ht1⟩
  have HNG := Lib.hid ho
  clear ho
  have ht := TurnsR.of_turns ht1 (fun v hv => by obtain rfl := List.mem_singleton.1 hv; exact HLG0.out)
  clear ht1
  obtain ⟨c24_GD0, c24_GD1, c24_GD2, c24_GD3⟩ := box_turns4 ht (g := GD) (by have := HGD.out; have := HY1.out; have := HZ2.out; have := HZ4.out; have := HLOc1.out; have := HHIc1.out; have := HZ6.out; have := HLOW0.out; have := HHIW0.out; have := HZ8.out; have := HLOX.out; have := HHIX.out; have := HZ10.out; have := HGX.out; have := HY11.out; have := HZ12.out; have := HLOG0.out; have := HHIG0.out; have := HZ14.out; have := HZ16.out; have := HZ18.out; have := HZ20.out; have := HZ22.out; omega) c22_GD0 c22_GD1 c22_GD2 c22_GD3
  obtain ⟨c24_GX0, c24_GX1, c24_GX2, c24_GX3⟩ := box_turns4 ht (g := GX) (by have := HGD.out; have := HY1.out; have := HZ2.out; have := HZ4.out; have := HLOc1.out; have := HHIc1.out; have := HZ6.out; have := HLOW0.out; have := HHIW0.out; have := HZ8.out; have := HLOX.out; have := HHIX.out; have := HZ10.out; have := HGX.out; have := HY11.out; have := HZ12.out; have := HLOG0.out; have := HHIG0.out; have := HZ14.out; have := HZ16.out; have := HZ18.out; have := HZ20.out; have := HZ22.out; omega) c22_GX0 c22_GX1 c22_GX2 c22_GX3
  have HS24_W0 := Lib.hid (own_turnsR HS22_W0.out ht HLW0.out (by have := HGD.out; have := HY1.out; have := HZ2.out; have := HZ4.out; have := HLOc1.out; have := HHIc1.out; have := HZ6.out; have := HLOW0.out; have := HHIW0.out; have := HZ8.out; have := HLOX.out; have := HHIX.out; have := HZ10.out; have := HGX.out; have := HY11.out; have := HZ12.out; have := HLOG0.out; have := HHIG0.out; have := HZ14.out; have := HZ16.out; have := HZ18.out; have := HZ20.out; have := HZ22.out; omega))
  have HB24 := Lib.hid (HB22.out.trans (ht.below (by have := HGD.out; have := HY1.out; have := HZ2.out; have := HZ4.out; have := HLOc1.out; have := HHIc1.out; have := HZ6.out; have := HLOW0.out; have := HHIW0.out; have := HZ8.out; have := HLOX.out; have := HHIX.out; have := HZ10.out; have := HGX.out; have := HY11.out; have := HZ12.out; have := HLOG0.out; have := HHIG0.out; have := HZ14.out; have := HZ16.out; have := HZ18.out; have := HZ20.out; have := HZ22.out; omega) (by have := HGD.out; have := HY1.out; have := HZ2.out; have := HZ4.out; have := HLOc1.out; have := HHIc1.out; have := HZ6.out; have := HLOW0.out; have := HHIW0.out; have := HZ8.out; have := HLOX.out; have := HHIX.out; have := HZ10.out; have := HGX.out; have := HY11.out; have := HZ12.out; have := HLOG0.out; have := HHIG0.out; have := HZ14.out; have := HZ16.out; have := HZ18.out; have := HZ20.out; have := HZ22.out; have := HB22.out.size; omega)))
  have HZ24 := Lib.hid ht.size
  clear ht c22_GD0 c22_GD1 c22_GD2 c22_GD3 c22_GX0 c22_GX1 c22_GX2 c22_GX3 HS22_W0 HB22
  clear HS22_G0
  obtain ⟨MG, eMG⟩ : ∃ x, 1 + AX.length * 2 = x := ⟨_, rfl⟩
  rw [eMG]
  have EMG := Lib.hid eMG
  clear eMG
  have dMG : decide ((MG : Int) < 0) = false := decide_eq_false (by omega)
  have fMG : ((MG : Int) != (MG : Int)) = false := by simp
  go_wp2_with fail
  refine (LawE.heldEntryS u23 _ AX.length 1 HNG.out.sl (by have := HLA.out; omega)).mono ?_
  rw [EMG.out]
  rintro e u25 ⟨rfl, hu⟩
  have hu2 := hu.symm
  subst hu2
  clear hu
  go_wp2_with fail
  refine (EncL.toEnc u23 _ oD (HVD.out.below HB24.out) HFITD.out).mono ?_
  rintro e u26 ⟨r26, rfl, ho, hb⟩
  obtain ⟨loY, elo⟩ : ∃ x, u23.heap.size = x := ⟨_, rfl⟩
  obtain ⟨hiY, ehi⟩ : ∃ x, u26.heap.size = x := ⟨_, rfl⟩
  rw [elo, ehi] at ho
  have HLOY := Lib.hid elo
  have HHIY := Lib.hid ehi
  have HOY := Lib.hid ho
  obtain ⟨aY, pY, bY, qY, cY, rY, dY, tY, rfl⟩ := ho.rd.form
  clear ho elo ehi
  obtain ⟨c27_GD0, c27_GD1, c27_GD2, c27_GD3⟩ := box_below4 hb c24_GD0 c24_GD1 c24_GD2 c24_GD3
  obtain ⟨c27_GX0, c27_GX1, c27_GX2, c27_GX3⟩ := box_below4 hb c24_GX0 c24_GX1 c24_GX2 c24_GX3
  have HS27_W0 := Lib.hid (HS24_W0.out.below hb)
  have HS27_G0 := Lib.hid (HNG.out.below hb)
  have HB27 := Lib.hid (HB24.out.trans (hb.mono HB24.out.size))
  have HZ27 := Lib.hid hb.size
  clear hb c24_GD0 c24_GD1 c24_GD2 c24_GD3 c24_GX0 c24_GX1 c24_GX2 c24_GX3 HS24_W0 HNG HB24
  go_wp2_with fail
  refine (MofI.impl u26 _ oD HOY.out.rd (by have := HFITD.out; unfold totE tot at this; omega) q HQ.out).mono ?_
  rw [EA.out, EC.out]
  rintro e u28 ⟨r28, rfl, ho, hb⟩
  obtain ⟨loH0, elo⟩ : ∃ x, u26.heap.size = x := ⟨_, rfl⟩
  obtain ⟨hiH0, ehi⟩ : ∃ x, u28.heap.size = x := ⟨_, rfl⟩
  have HLH0 := Lib.hid (lies_of ho (by decide))
  rw [elo] at ho
  rw [elo, ehi] at HLH0
  have HLOH0 := Lib.hid elo
  have HHIH0 := Lib.hid ehi
  have HOH0 := Lib.hid ho
  obtain ⟨aH0, cH0, rfl, _, _⟩ := ho.sl.form
  clear ho elo ehi
  obtain ⟨c29_GD0, c29_GD1, c29_GD2, c29_GD3⟩ := box_below4 hb c27_GD0 c27_GD1 c27_GD2 c27_GD3
  obtain ⟨c29_GX0, c29_GX1, c29_GX2, c29_GX3⟩ := box_below4 hb c27_GX0 c27_GX1 c27_GX2 c27_GX3
  have HD29_Y := Lib.hid (HOY.out.below hb)
  have HS29_W0 := Lib.hid (HS27_W0.out.below hb)
  have HS29_G0 := Lib.hid (HS27_G0.out.below hb)
  have HB29 := Lib.hid (HB27.out.trans (hb.mono HB27.out.size))
  have HZ29 := Lib.hid hb.size
  clear hb c27_GD0 c27_GD1 c27_GD2 c27_GD3 c27_GX0 c27_GX1 c27_GX2 c27_GX3 HOY HS27_W0 HS27_G0 HB27
  clear HD29_Y
  go_wp2_with fail
  refine (LawE.eqEntryS u28 _ _ AX HOH0.out.sl HS29_W0.out.sl).mono ?_
  rintro e u30 ⟨rfl, hb⟩
  obtain ⟨c31_GD0, c31_GD1, c31_GD2, c31_GD3⟩ := box_below4 hb c29_GD0 c29_GD1 c29_GD2 c29_GD3
  obtain ⟨c31_GX0, c31_GX1, c31_GX2, c31_GX3⟩ := box_below4 hb c29_GX0 c29_GX1 c29_GX2 c29_GX3
  have HS31_W0 := Lib.hid (HS29_W0.out.below hb)
  have HS31_G0 := Lib.hid (HS29_G0.out.below hb)
  have HS31_H0 := Lib.hid (HOH0.out.below hb)
  have HB31 := Lib.hid (HB29.out.trans (hb.mono HB29.out.size))
  have HZ31 := Lib.hid hb.size
  clear hb c29_GD0 c29_GD1 c29_GD2 c29_GD3 c29_GX0 c29_GX1 c29_GX2 c29_GX3 HS29_W0 HS29_G0 HOH0 HB29
  go_wp2_with fail
  refine (LawE.heldEntryS u30 _ AX.length 1 HS31_G0.out.sl (by have := HLA.out; omega)).mono ?_
  rw [EMG.out]
  rintro e u32 ⟨rfl, hu⟩
  have hu2 := hu.symm
  subst hu2
  clear hu
  go_wp2_with fail
  go_ret
  exact ⟨rfl, HB31.out⟩

set_option maxRecDepth 100000 in
theorem walk_any {H : Type} {enc : TypeId × Value → H} {W : World} {base b0 : Nat} {spare : Nat → Bool} {held : Bool} {v : Value} {d : DataW H} {p : List MemPlace}
    (o : Value.okWide Try.prog W .any b0 87 v) (h : DataW.Trod enc Try.prog W base spare held 87 v d p) :
    Calls Try.prog 9 #[v] W fun e w' => e = .returned (.bool true) ∧ Below W.heap.size W w' := by
  obtain ⟨r, hr⟩ := EncP.open_enc o h
  exact walk W v r hr
end Go.Proofs.Ytealdpkgfmokpaa.ExMapOf
