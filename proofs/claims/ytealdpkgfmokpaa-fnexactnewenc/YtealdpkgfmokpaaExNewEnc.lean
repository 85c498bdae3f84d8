/-
  What is proved: the exact law on NewEnc returns true (the walk).
-/
import Derived.Test.YtealdpkgfmokpaaRows
import Derived.Test.YtealdpkgfmokpaaExE
import Derived.Test.YtealdpkgfmokpaaHeldN
import Derived.Test.YtealdpkgfmokpaaNewE
import Derived.Deep.RegionHeld3
import Derived.Deep.RegionWith
namespace Go.Proofs.Ytealdpkgfmokpaa.ExNewEnc
open Go.ChangeShapes Go.WideShapes Go.ChangeAt Go.RowKit
open Sl (Sl Own Off)
open OpenSl (tc nc pc)
open Dev Orm ExE EncP Wy
set_option linter.unusedVariables false

theorem ne_wt (zs : List Int) (q : Bool) : wtE (NewE.neE zs q) ≤ 4096 := by
  by_cases h : NewO.nwC zs q = 0
  · rw [NewE.ok_e h]
    have hl : zs.length = 12 := by
      unfold NewO.nwC at h
      by_cases h1 : 4096 < zs.length
      · rw [if_pos h1] at h; cases h
      · rw [if_neg h1] at h
        by_cases h2 : zs.length = 12
        · exact h2
        · rw [if_neg h2] at h; cases h
    have hb : LawO.sm (NewO.nt zs).bk (NewO.nt zs).bk.length = 0 := rfl
    unfold wtE LawO4.wt
    simp only
    rw [hb]
    show (List.replicate 11 (0 : Int)).length + (zs.length + 0 * 3 + 0 * 3) ≤ 4096
    simp
    omega
  · rw [NewE.bad_e h]
    show 0 + (0 + 0 * 3 + 0 * 3) ≤ 4096
    omega
set_option maxRecDepth 100000 in
set_option maxHeartbeats 3200000 in
theorem walk (w : World) (v : Value) (zs : List Int) (h : Sl w 1 v zs.length (nc zs)) :
    Calls Try.prog 7 #[v] w fun e w' => e = .returned (.bool true) ∧ Below w.heap.size w w' := by
  have HV := Lib.hid h
  obtain ⟨aD, cD, rfl, _, _⟩ := h.form
  clear h
  have HB0 := Lib.hid (Below.refl w.heap.size w)
  obtain ⟨q, hq⟩ := OkV.ask (∀ z ∈ zs, P8 z)
  have HQ := Lib.hid hq
  clear hq
  obtain ⟨o, eA⟩ : ∃ o, NewE.neE zs q = o := ⟨_, rfl⟩
  obtain ⟨vC, eC⟩ : ∃ vC, NewO.nwC zs q = vC := ⟨_, rfl⟩
  have HW := Lib.hid (show 1 + wtE o ≤ 10000000 by rw [← eA]; have := ne_wt zs q; omega)
  have EA := Lib.hid eA
  have EC := Lib.hid eC
  clear eA eC
  have fC : (vC != vC) = false := by simp
  by_cases hn : 1048576 < zs.length
  · go_enter Try.func7, Try.ntmps7
    go_wp2_with fail
    go_ret
    exact ⟨rfl, HB0.out⟩
  have hn2 : zs.length ≤ 1048576 := by omega
  have HN := Lib.hid hn2
  go_enter Try.func7, Try.ntmps7
  go_wp2_with fail
  refine (LawN.toIntS w _ zs (HV.out.below HB0.out) HN.out).mono ?_
  rintro e u1 ⟨r1, rfl, ho, hb⟩
  obtain ⟨loA, elo⟩ : ∃ x, w.heap.size = x := ⟨_, rfl⟩
  obtain ⟨hiA, ehi⟩ : ∃ x, u1.heap.size = x := ⟨_, rfl⟩
  have HLA := Lib.hid (lies_of ho (by omega))
  rw [elo] at ho
  rw [elo, ehi] at HLA
  have HLOA := Lib.hid elo
  have HHIA := Lib.hid ehi
  have HOA := Lib.hid ho
  obtain ⟨aA, cA, rfl, _, _⟩ := ho.sl.form
  clear ho elo ehi
  have HB2 := Lib.hid (HB0.out.trans (hb.mono HB0.out.size))
  have HZ2 := Lib.hid hb.size
  clear hb HB0
  go_wp2_with fail
  refine (NewE.spec u1 _ zs HOA.out.sl q HQ.out).mono ?_
  rw [EA.out, EC.out]
  rintro e u3 ⟨r3, rfl, ho, hb⟩
  obtain ⟨loW0, elo⟩ : ∃ x, u1.heap.size = x := ⟨_, rfl⟩
  obtain ⟨hiW0, ehi⟩ : ∃ x, u3.heap.size = x := ⟨_, rfl⟩
  rw [elo, ehi] at ho
  have HLOW0 := Lib.hid elo
  have HHIW0 := Lib.hid ehi
  have HOW0 := Lib.hid ho
  obtain ⟨aW0, pW0, bW0, qW0, cW0, rW0, dW0, tW0, rfl⟩ := ho.rd.form
  clear ho elo ehi
  have HS4_A := Lib.hid (HOA.out.below hb)
  have HB4 := Lib.hid (HB2.out.trans (hb.mono HB2.out.size))
  have HZ4 := Lib.hid hb.size
  clear hb HOA HB2
  clear HS4_A HLA
  obtain ⟨U5, eU5, hb, hz, n50, n51, n52, n53⟩ := boxU4 u3 77 (.slice aW0 o.ks.length pW0) (.slice bW0 o.o.pos.length qW0) (.slice cW0 o.o.st.length rW0) (.slice dW0 o.o.bk.length tW0)
  obtain ⟨GW0, eGW0⟩ : ∃ GW0, u3.heap.size = GW0 := ⟨_, rfl⟩
  have HGW0 := Lib.hid eGW0
  have HY5 := Lib.hid hz
  rw [eGW0] at n50 n51 n52 n53
  clear hz
  have HD6_W0 := Lib.hid (HOW0.out.below hb)
  have HB6 := Lib.hid (HB4.out.trans (hb.mono HB4.out.size))
  have HZ6 := Lib.hid hb.size
  clear hb HOW0 HB4
  go_wp2_with fail
  clear eU5 eGW0
  refine (LawN.toIntS U5 _ zs (HV.out.below HB6.out) HN.out).mono ?_
  rintro e u7 ⟨r7, rfl, ho, hb⟩
  obtain ⟨loX, elo⟩ : ∃ x, U5.heap.size = x := ⟨_, rfl⟩
  obtain ⟨hiX, ehi⟩ : ∃ x, u7.heap.size = x := ⟨_, rfl⟩
  have HLX := Lib.hid (lies_of ho (by omega))
  rw [elo] at ho
  rw [elo, ehi] at HLX
  have HLOX := Lib.hid elo
  have HHIX := Lib.hid ehi
  have HOX := Lib.hid ho
  obtain ⟨aX, cX, rfl, _, _⟩ := ho.sl.form
  clear ho elo ehi
  obtain ⟨c8_GW00, c8_GW01, c8_GW02, c8_GW03⟩ := box_below4 hb n50 n51 n52 n53
  have HD8_W0 := Lib.hid (HD6_W0.out.below hb)
  have HB8 := Lib.hid (HB6.out.trans (hb.mono HB6.out.size))
  have HZ8 := Lib.hid hb.size
  clear hb n50 n51 n52 n53 HD6_W0 HB6
  go_wp2_with fail
  refine (NewE.impl u7 _ zs HOX.out.sl q HQ.out).mono ?_
  rw [EA.out, EC.out]
  rintro e u9 ⟨r9, rfl, ho, hb⟩
  obtain ⟨loG0, elo⟩ : ∃ x, u7.heap.size = x := ⟨_, rfl⟩
  obtain ⟨hiG0, ehi⟩ : ∃ x, u9.heap.size = x := ⟨_, rfl⟩
  rw [elo, ehi] at ho
  have HLOG0 := Lib.hid elo
  have HHIG0 := Lib.hid ehi
  have HOG0 := Lib.hid ho
  obtain ⟨aG0, pG0, bG0, qG0, cG0, rG0, dG0, tG0, rfl⟩ := ho.rd.form
  clear ho elo ehi
  obtain ⟨c10_GW00, c10_GW01, c10_GW02, c10_GW03⟩ := box_below4 hb c8_GW00 c8_GW01 c8_GW02 c8_GW03
  have HD10_W0 := Lib.hid (HD8_W0.out.below hb)
  have HS10_X := Lib.hid (HOX.out.below hb)
  have HB10 := Lib.hid (HB8.out.trans (hb.mono HB8.out.size))
  have HZ10 := Lib.hid hb.size
  clear hb c8_GW00 c8_GW01 c8_GW02 c8_GW03 HD8_W0 HOX HB8
  obtain ⟨U11, eU11, hb, hz, n110, n111, n112, n113⟩ := boxU4 u9 77 (.slice aG0 o.ks.length pG0) (.slice bG0 o.o.pos.length qG0) (.slice cG0 o.o.st.length rG0) (.slice dG0 o.o.bk.length tG0)
  obtain ⟨GG0, eGG0⟩ : ∃ GG0, u9.heap.size = GG0 := ⟨_, rfl⟩
  have HGG0 := Lib.hid eGG0
  have HY11 := Lib.hid hz
  rw [eGG0] at n110 n111 n112 n113
  clear hz
  obtain ⟨c12_GW00, c12_GW01, c12_GW02, c12_GW03⟩ := box_below4 hb c10_GW00 c10_GW01 c10_GW02 c10_GW03
  have HD12_W0 := Lib.hid (HD10_W0.out.below hb)
  have HD12_G0 := Lib.hid (HOG0.out.below hb)
  have HS12_X := Lib.hid (HS10_X.out.below hb)
  have HB12 := Lib.hid (HB10.out.trans (hb.mono HB10.out.size))
  have HZ12 := Lib.hid hb.size
  clear hb c10_GW00 c10_GW01 c10_GW02 c10_GW03 HD10_W0 HOG0 HS10_X HB10
  go_wp2_with fail
  clear eU11 eGG0
  refine (EncL.eqEnc U11 _ _ o HD12_G0.out.rd HD12_W0.out.rd).mono ?_
  rintro e u13 ⟨rfl, hb⟩
  obtain ⟨c14_GW00, c14_GW01, c14_GW02, c14_GW03⟩ := box_below4 hb c12_GW00 c12_GW01 c12_GW02 c12_GW03
  obtain ⟨c14_GG00, c14_GG01, c14_GG02, c14_GG03⟩ := box_below4 hb n110 n111 n112 n113
  have HD14_W0 := Lib.hid (HD12_W0.out.below hb)
  have HD14_G0 := Lib.hid (HD12_G0.out.below hb)
  have HS14_X := Lib.hid (HS12_X.out.below hb)
  have HB14 := Lib.hid (HB12.out.trans (hb.mono HB12.out.size))
  have HZ14 := Lib.hid hb.size
  clear hb c12_GW00 c12_GW01 c12_GW02 c12_GW03 n110 n111 n112 n113 HD12_W0 HD12_G0 HS12_X HB12
  go_wp2_with fail
  refine (LawN.toIntS u13 _ zs (HV.out.below HB14.out) HN.out).mono ?_
  rintro e u15 ⟨r15, rfl, ho, hb⟩
  obtain ⟨loT, elo⟩ : ∃ x, u13.heap.size = x := ⟨_, rfl⟩
  obtain ⟨hiT, ehi⟩ : ∃ x, u15.heap.size = x := ⟨_, rfl⟩
  have HLT := Lib.hid (lies_of ho (by omega))
  rw [elo] at ho
  rw [elo, ehi] at HLT
  have HLOT := Lib.hid elo
  have HHIT := Lib.hid ehi
  have HOT := Lib.hid ho
  obtain ⟨aT, cT, rfl, _, _⟩ := ho.sl.form
  clear ho elo ehi
  obtain ⟨c16_GW00, c16_GW01, c16_GW02, c16_GW03⟩ := box_below4 hb c14_GW00 c14_GW01 c14_GW02 c14_GW03
  obtain ⟨c16_GG00, c16_GG01, c16_GG02, c16_GG03⟩ := box_below4 hb c14_GG00 c14_GG01 c14_GG02 c14_GG03
  have HD16_W0 := Lib.hid (HD14_W0.out.below hb)
  have HD16_G0 := Lib.hid (HD14_G0.out.below hb)
  have HS16_X := Lib.hid (HS14_X.out.below hb)
  have HB16 := Lib.hid (HB14.out.trans (hb.mono HB14.out.size))
  have HZ16 := Lib.hid hb.size
  clear hb c14_GW00 c14_GW01 c14_GW02 c14_GW03 c14_GG00 c14_GG01 c14_GG02 c14_GG03 HD14_W0 HD14_G0 HS14_X HB14
  go_wp2_with fail
  refine (LawN.eqIntS u15 _ _ zs HS16_X.out.sl HOT.out.sl).mono ?_
  rintro e u17 ⟨rfl, hb⟩
  obtain ⟨c18_GW00, c18_GW01, c18_GW02, c18_GW03⟩ := box_below4 hb c16_GW00 c16_GW01 c16_GW02 c16_GW03
  obtain ⟨c18_GG00, c18_GG01, c18_GG02, c18_GG03⟩ := box_below4 hb c16_GG00 c16_GG01 c16_GG02 c16_GG03
  have HD18_W0 := Lib.hid (HD16_W0.out.below hb)
  have HD18_G0 := Lib.hid (HD16_G0.out.below hb)
  have HS18_X := Lib.hid (HS16_X.out.below hb)
  have HS18_T := Lib.hid (HOT.out.below hb)
  have HB18 := Lib.hid (HB16.out.trans (hb.mono HB16.out.size))
  have HZ18 := Lib.hid hb.size
  clear hb c16_GW00 c16_GW01 c16_GW02 c16_GW03 c16_GG00 c16_GG01 c16_GG02 c16_GG03 HD16_W0 HD16_G0 HS16_X HOT HB16
  clear HS18_T HLT
  go_wp2_with fail
  refine (LawN.markIntS u17 loX _ zs.length _ HS18_X.out 1 (by have := HN.out; omega)).mono ?_
  rintro e u19 ⟨rfl, _, ht1⟩
  have ht := TurnsR.of_turns ht1 (fun v hv => by obtain rfl := List.mem_singleton.1 hv; exact HLX.out)
  clear ht1
  obtain ⟨c20_GW00, c20_GW01, c20_GW02, c20_GW03⟩ := box_turns4 ht (g := GW0) (by have := HLOA.out; have := HHIA.out; have := HZ2.out; have := HLOW0.out; have := HHIW0.out; have := HZ4.out; have := HGW0.out; have := HY5.out; have := HZ6.out; have := HLOX.out; have := HHIX.out; have := HZ8.out; have := HLOG0.out; have := HHIG0.out; have := HZ10.out; have := HGG0.out; have := HY11.out; have := HZ12.out; have := HZ14.out; have := HLOT.out; have := HHIT.out; have := HZ16.out; have := HZ18.out; omega) c18_GW00 c18_GW01 c18_GW02 c18_GW03
  obtain ⟨c20_GG00, c20_GG01, c20_GG02, c20_GG03⟩ := box_turns4 ht (g := GG0) (by have := HLOA.out; have := HHIA.out; have := HZ2.out; have := HLOW0.out; have := HHIW0.out; have := HZ4.out; have := HGW0.out; have := HY5.out; have := HZ6.out; have := HLOX.out; have := HHIX.out; have := HZ8.out; have := HLOG0.out; have := HHIG0.out; have := HZ10.out; have := HGG0.out; have := HY11.out; have := HZ12.out; have := HZ14.out; have := HLOT.out; have := HHIT.out; have := HZ16.out; have := HZ18.out; omega) c18_GG00 c18_GG01 c18_GG02 c18_GG03
  have HD20_W0 := Lib.hid (HD18_W0.out.turns ht (by have := HLOA.out; have := HHIA.out; have := HZ2.out; have := HLOW0.out; have := HHIW0.out; have := HZ4.out; have := HGW0.out; have := HY5.out; have := HZ6.out; have := HLOX.out; have := HHIX.out; have := HZ8.out; have := HLOG0.out; have := HHIG0.out; have := HZ10.out; have := HGG0.out; have := HY11.out; have := HZ12.out; have := HZ14.out; have := HLOT.out; have := HHIT.out; have := HZ16.out; have := HZ18.out; omega))
  have HD20_G0 := Lib.hid (HD18_G0.out.turns ht (by have := HLOA.out; have := HHIA.out; have := HZ2.out; have := HLOW0.out; have := HHIW0.out; have := HZ4.out; have := HGW0.out; have := HY5.out; have := HZ6.out; have := HLOX.out; have := HHIX.out; have := HZ8.out; have := HLOG0.out; have := HHIG0.out; have := HZ10.out; have := HGG0.out; have := HY11.out; have := HZ12.out; have := HZ14.out; have := HLOT.out; have := HHIT.out; have := HZ16.out; have := HZ18.out; omega))
  have HB20 := Lib.hid (HB18.out.trans (ht.below (by have := HLOA.out; have := HHIA.out; have := HZ2.out; have := HLOW0.out; have := HHIW0.out; have := HZ4.out; have := HGW0.out; have := HY5.out; have := HZ6.out; have := HLOX.out; have := HHIX.out; have := HZ8.out; have := HLOG0.out; have := HHIG0.out; have := HZ10.out; have := HGG0.out; have := HY11.out; have := HZ12.out; have := HZ14.out; have := HLOT.out; have := HHIT.out; have := HZ16.out; have := HZ18.out; omega) (by have := HLOA.out; have := HHIA.out; have := HZ2.out; have := HLOW0.out; have := HHIW0.out; have := HZ4.out; have := HGW0.out; have := HY5.out; have := HZ6.out; have := HLOX.out; have := HHIX.out; have := HZ8.out; have := HLOG0.out; have := HHIG0.out; have := HZ10.out; have := HGG0.out; have := HY11.out; have := HZ12.out; have := HZ14.out; have := HLOT.out; have := HHIT.out; have := HZ16.out; have := HZ18.out; have := HB18.out.size; omega)))
  have HZ20 := Lib.hid ht.size
  clear ht c18_GW00 c18_GW01 c18_GW02 c18_GW03 c18_GG00 c18_GG01 c18_GG02 c18_GG03 HD18_W0 HD18_G0 HB18
  clear HS18_X HLX
  obtain ⟨MX, eMX⟩ : ∃ x, 1 + zs.length = x := ⟨_, rfl⟩
  rw [eMX]
  clear eMX
  have dMX : decide ((MX : Int) < 0) = false := decide_eq_false (by omega)
  go_wp2_with fail
  refine (EncL.eqEnc u19 _ _ o HD20_G0.out.rd HD20_W0.out.rd).mono ?_
  rintro e u21 ⟨rfl, hb⟩
  obtain ⟨c22_GW00, c22_GW01, c22_GW02, c22_GW03⟩ := box_below4 hb c20_GW00 c20_GW01 c20_GW02 c20_GW03
  obtain ⟨c22_GG00, c22_GG01, c22_GG02, c22_GG03⟩ := box_below4 hb c20_GG00 c20_GG01 c20_GG02 c20_GG03
  have HD22_W0 := Lib.hid (HD20_W0.out.below hb)
  have HD22_G0 := Lib.hid (HD20_G0.out.below hb)
  have HB22 := Lib.hid (HB20.out.trans (hb.mono HB20.out.size))
  have HZ22 := Lib.hid hb.size
  clear hb c20_GW00 c20_GW01 c20_GW02 c20_GW03 c20_GG00 c20_GG01 c20_GG02 c20_GG03 HD20_W0 HD20_G0 HB20
  go_wp2_with fail
  have LENG0 := Lib.hid HW.out
  refine (EncL.markEnc u21 loG0 hiG0 _ o HD22_G0.out (by have := HLOA.out; have := HHIA.out; have := HZ2.out; have := HLOW0.out; have := HHIW0.out; have := HZ4.out; have := HGW0.out; have := HY5.out; have := HZ6.out; have := HLOX.out; have := HHIX.out; have := HZ8.out; have := HLOG0.out; have := HHIG0.out; have := HZ10.out; have := HGG0.out; have := HY11.out; have := HZ12.out; have := HZ14.out; have := HLOT.out; have := HHIT.out; have := HZ16.out; have := HZ18.out; have := HZ20.out; have := HZ22.out; omega) 1 LENG0.out).mono ?_
  rintro e u23 ⟨rfl, hm, ht⟩
  have HM23 := Lib.hid hm
  clear hm
  obtain ⟨c24_GW00, c24_GW01, c24_GW02, c24_GW03⟩ := box_turns4 ht (g := GW0) (by have := HLOA.out; have := HHIA.out; have := HZ2.out; have := HLOW0.out; have := HHIW0.out; have := HZ4.out; have := HGW0.out; have := HY5.out; have := HZ6.out; have := HLOX.out; have := HHIX.out; have := HZ8.out; have := HLOG0.out; have := HHIG0.out; have := HZ10.out; have := HGG0.out; have := HY11.out; have := HZ12.out; have := HZ14.out; have := HLOT.out; have := HHIT.out; have := HZ16.out; have := HZ18.out; have := HZ20.out; have := HZ22.out; omega) c22_GW00 c22_GW01 c22_GW02 c22_GW03
  obtain ⟨c24_GG00, c24_GG01, c24_GG02, c24_GG03⟩ := box_turns4 ht (g := GG0) (by have := HLOA.out; have := HHIA.out; have := HZ2.out; have := HLOW0.out; have := HHIW0.out; have := HZ4.out; have := HGW0.out; have := HY5.out; have := HZ6.out; have := HLOX.out; have := HHIX.out; have := HZ8.out; have := HLOG0.out; have := HHIG0.out; have := HZ10.out; have := HGG0.out; have := HY11.out; have := HZ12.out; have := HZ14.out; have := HLOT.out; have := HHIT.out; have := HZ16.out; have := HZ18.out; have := HZ20.out; have := HZ22.out; omega) c22_GG00 c22_GG01 c22_GG02 c22_GG03
  have HD24_W0 := Lib.hid (HD22_W0.out.turns ht (by have := HLOA.out; have := HHIA.out; have := HZ2.out; have := HLOW0.out; have := HHIW0.out; have := HZ4.out; have := HGW0.out; have := HY5.out; have := HZ6.out; have := HLOX.out; have := HHIX.out; have := HZ8.out; have := HLOG0.out; have := HHIG0.out; have := HZ10.out; have := HGG0.out; have := HY11.out; have := HZ12.out; have := HZ14.out; have := HLOT.out; have := HHIT.out; have := HZ16.out; have := HZ18.out; have := HZ20.out; have := HZ22.out; omega))
  have HB24 := Lib.hid (HB22.out.trans (ht.below (by have := HLOA.out; have := HHIA.out; have := HZ2.out; have := HLOW0.out; have := HHIW0.out; have := HZ4.out; have := HGW0.out; have := HY5.out; have := HZ6.out; have := HLOX.out; have := HHIX.out; have := HZ8.out; have := HLOG0.out; have := HHIG0.out; have := HZ10.out; have := HGG0.out; have := HY11.out; have := HZ12.out; have := HZ14.out; have := HLOT.out; have := HHIT.out; have := HZ16.out; have := HZ18.out; have := HZ20.out; have := HZ22.out; omega) (by have := HLOA.out; have := HHIA.out; have := HZ2.out; have := HLOW0.out; have := HHIW0.out; have := HZ4.out; have := HGW0.out; have := HY5.out; have := HZ6.out; have := HLOX.out; have := HHIX.out; have := HZ8.out; have := HLOG0.out; have := HHIG0.out; have := HZ10.out; have := HGG0.out; have := HY11.out; have := HZ12.out; have := HZ14.out; have := HLOT.out; have := HHIT.out; have := HZ16.out; have := HZ18.out; have := HZ20.out; have := HZ22.out; have := HB22.out.size; omega)))
  have HZ24 := Lib.hid ht.size
  clear ht c22_GW00 c22_GW01 c22_GW02 c22_GW03 c22_GG00 c22_GG01 c22_GG02 c22_GG03 HD22_W0 HB22
  clear HD22_G0
  obtain ⟨MG, eMG⟩ : ∃ MG, 1 + wtE o = MG := ⟨_, rfl⟩
  rw [eMG]
  have EMG := Lib.hid eMG
  clear eMG
  have dMG : decide ((MG : Int) < 0) = false := decide_eq_false (by omega)
  have fMG : ((MG : Int) != (MG : Int)) = false := by simp
  go_wp2_with fail
  refine (EncL.heldEnc u23 1 _ o HM23.out LENG0.out).mono ?_
  rw [EMG.out]
  rintro e u25 ⟨rfl, hb⟩
  obtain ⟨c26_GW00, c26_GW01, c26_GW02, c26_GW03⟩ := box_below4 hb c24_GW00 c24_GW01 c24_GW02 c24_GW03
  obtain ⟨c26_GG00, c26_GG01, c26_GG02, c26_GG03⟩ := box_below4 hb c24_GG00 c24_GG01 c24_GG02 c24_GG03
  have HD26_W0 := Lib.hid (HD24_W0.out.below hb)
  have HM26_G0 := Lib.hid (HM23.out.below hb)
  have HB26 := Lib.hid (HB24.out.trans (hb.mono HB24.out.size))
  have HZ26 := Lib.hid hb.size
  clear hb c24_GW00 c24_GW01 c24_GW02 c24_GW03 c24_GG00 c24_GG01 c24_GG02 c24_GG03 HD24_W0 HM23 HB24
  go_wp2_with fail
  refine (LawN.toIntS u25 _ zs (HV.out.below HB26.out) HN.out).mono ?_
  rintro e u27 ⟨r27, rfl, ho, hb⟩
  obtain ⟨loY, elo⟩ : ∃ x, u25.heap.size = x := ⟨_, rfl⟩
  obtain ⟨hiY, ehi⟩ : ∃ x, u27.heap.size = x := ⟨_, rfl⟩
  have HLY := Lib.hid (lies_of ho (by omega))
  rw [elo] at ho
  rw [elo, ehi] at HLY
  have HLOY := Lib.hid elo
  have HHIY := Lib.hid ehi
  have HOY := Lib.hid ho
  obtain ⟨aY, cY, rfl, _, _⟩ := ho.sl.form
  clear ho elo ehi
  obtain ⟨c28_GW00, c28_GW01, c28_GW02, c28_GW03⟩ := box_below4 hb c26_GW00 c26_GW01 c26_GW02 c26_GW03
  obtain ⟨c28_GG00, c28_GG01, c28_GG02, c28_GG03⟩ := box_below4 hb c26_GG00 c26_GG01 c26_GG02 c26_GG03
  have HD28_W0 := Lib.hid (HD26_W0.out.below hb)
  have HM28_G0 := Lib.hid (HM26_G0.out.below hb)
  have HB28 := Lib.hid (HB26.out.trans (hb.mono HB26.out.size))
  have HZ28 := Lib.hid hb.size
  clear hb c26_GW00 c26_GW01 c26_GW02 c26_GW03 c26_GG00 c26_GG01 c26_GG02 c26_GG03 HD26_W0 HM26_G0 HB26
  go_wp2_with fail
  refine (NewE.impl u27 _ zs HOY.out.sl q HQ.out).mono ?_
  rw [EA.out, EC.out]
  rintro e u29 ⟨r29, rfl, ho, hb⟩
  obtain ⟨loH0, elo⟩ : ∃ x, u27.heap.size = x := ⟨_, rfl⟩
  obtain ⟨hiH0, ehi⟩ : ∃ x, u29.heap.size = x := ⟨_, rfl⟩
  rw [elo, ehi] at ho
  have HLOH0 := Lib.hid elo
  have HHIH0 := Lib.hid ehi
  have HOH0 := Lib.hid ho
  obtain ⟨aH0, pH0, bH0, qH0, cH0, rH0, dH0, tH0, rfl⟩ := ho.rd.form
  clear ho elo ehi
  obtain ⟨c30_GW00, c30_GW01, c30_GW02, c30_GW03⟩ := box_below4 hb c28_GW00 c28_GW01 c28_GW02 c28_GW03
  obtain ⟨c30_GG00, c30_GG01, c30_GG02, c30_GG03⟩ := box_below4 hb c28_GG00 c28_GG01 c28_GG02 c28_GG03
  have HD30_W0 := Lib.hid (HD28_W0.out.below hb)
  have HM30_G0 := Lib.hid (HM28_G0.out.below hb)
  have HS30_Y := Lib.hid (HOY.out.below hb)
  have HB30 := Lib.hid (HB28.out.trans (hb.mono HB28.out.size))
  have HZ30 := Lib.hid hb.size
  clear hb c28_GW00 c28_GW01 c28_GW02 c28_GW03 c28_GG00 c28_GG01 c28_GG02 c28_GG03 HD28_W0 HM28_G0 HOY HB28
  clear HS30_Y HLY
  obtain ⟨U31, eU31, hb, hz, n310, n311, n312, n313⟩ := boxU4 u29 77 (.slice aH0 o.ks.length pH0) (.slice bH0 o.o.pos.length qH0) (.slice cH0 o.o.st.length rH0) (.slice dH0 o.o.bk.length tH0)
  obtain ⟨GH0, eGH0⟩ : ∃ GH0, u29.heap.size = GH0 := ⟨_, rfl⟩
  have HGH0 := Lib.hid eGH0
  have HY31 := Lib.hid hz
  rw [eGH0] at n310 n311 n312 n313
  clear hz
  obtain ⟨c32_GW00, c32_GW01, c32_GW02, c32_GW03⟩ := box_below4 hb c30_GW00 c30_GW01 c30_GW02 c30_GW03
  obtain ⟨c32_GG00, c32_GG01, c32_GG02, c32_GG03⟩ := box_below4 hb c30_GG00 c30_GG01 c30_GG02 c30_GG03
  have HD32_W0 := Lib.hid (HD30_W0.out.below hb)
  have HD32_H0 := Lib.hid (HOH0.out.below hb)
  have HM32_G0 := Lib.hid (HM30_G0.out.below hb)
  have HB32 := Lib.hid (HB30.out.trans (hb.mono HB30.out.size))
  have HZ32 := Lib.hid hb.size
  clear hb c30_GW00 c30_GW01 c30_GW02 c30_GW03 c30_GG00 c30_GG01 c30_GG02 c30_GG03 HD30_W0 HOH0 HM30_G0 HB30
  go_wp2_with fail
  clear eU31 eGH0
  refine (EncL.eqEnc U31 _ _ o HD32_H0.out.rd HD32_W0.out.rd).mono ?_
  rintro e u33 ⟨rfl, hb⟩
  obtain ⟨c34_GW00, c34_GW01, c34_GW02, c34_GW03⟩ := box_below4 hb c32_GW00 c32_GW01 c32_GW02 c32_GW03
  obtain ⟨c34_GG00, c34_GG01, c34_GG02, c34_GG03⟩ := box_below4 hb c32_GG00 c32_GG01 c32_GG02 c32_GG03
  obtain ⟨c34_GH00, c34_GH01, c34_GH02, c34_GH03⟩ := box_below4 hb n310 n311 n312 n313
  have HD34_W0 := Lib.hid (HD32_W0.out.below hb)
  have HD34_H0 := Lib.hid (HD32_H0.out.below hb)
  have HM34_G0 := Lib.hid (HM32_G0.out.below hb)
  have HB34 := Lib.hid (HB32.out.trans (hb.mono HB32.out.size))
  have HZ34 := Lib.hid hb.size
  clear hb c32_GW00 c32_GW01 c32_GW02 c32_GW03 c32_GG00 c32_GG01 c32_GG02 c32_GG03 n310 n311 n312 n313 HD32_W0 HD32_H0 HM32_G0 HB32
  go_wp2_with fail
  refine (EncL.heldEnc u33 1 _ o HM34_G0.out LENG0.out).mono ?_
  rw [EMG.out]
  rintro e u35 ⟨rfl, hb⟩
  obtain ⟨c36_GW00, c36_GW01, c36_GW02, c36_GW03⟩ := box_below4 hb c34_GW00 c34_GW01 c34_GW02 c34_GW03
  obtain ⟨c36_GG00, c36_GG01, c36_GG02, c36_GG03⟩ := box_below4 hb c34_GG00 c34_GG01 c34_GG02 c34_GG03
  obtain ⟨c36_GH00, c36_GH01, c36_GH02, c36_GH03⟩ := box_below4 hb c34_GH00 c34_GH01 c34_GH02 c34_GH03
  have HD36_W0 := Lib.hid (HD34_W0.out.below hb)
  have HD36_H0 := Lib.hid (HD34_H0.out.below hb)
  have HM36_G0 := Lib.hid (HM34_G0.out.below hb)
  have HB36 := Lib.hid (HB34.out.trans (hb.mono HB34.out.size))
  have HZ36 := Lib.hid hb.size
  clear hb c34_GW00 c34_GW01 c34_GW02 c34_GW03 c34_GG00 c34_GG01 c34_GG02 c34_GG03 c34_GH00 c34_GH01 c34_GH02 c34_GH03 HD34_W0 HD34_H0 HM34_G0 HB34
  go_wp2_with fail
  go_ret
  exact ⟨rfl, HB36.out⟩
theorem cellsI : Try.prog.cellsOf 3 = 1 := by kernel_rfl
set_option maxRecDepth 100000 in
theorem walk_any {H : Type} {enc : TypeId × Value → H} {W : World} {base b0 : Nat} {spare : Nat → Bool} {held : Bool} {u : Value} {d : DataW H} {p : List MemPlace}
    (o : Value.okWide Try.prog W .any b0 22 u) (h : DataW.Trod enc Try.prog W base spare held 22 u d p) :
    Calls Try.prog 7 #[u] W fun e w' => e = .returned (.bool true) ∧ Below W.heap.size W w' := by
  obtain ⟨a, l, c, rfl⟩ := okWide_slice Try.underlying22 o
  obtain ⟨fuel, hf⟩ := h
  obtain ⟨zs, hzs, _⟩ := OpenSl.numbers Try.underlying22 Try.underlying3 cellsI hf
  exact walk W _ zs hzs
end Go.Proofs.Ytealdpkgfmokpaa.ExNewEnc
