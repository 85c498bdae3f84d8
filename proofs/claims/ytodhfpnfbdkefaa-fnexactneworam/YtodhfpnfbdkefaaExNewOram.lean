/-
  What is proved: the exact law on NewOram returns true (the walk).
-/
import Derived.Test.YtodhfpnfbdkefaaRows
import Derived.Test.YtodhfpnfbdkefaaExO
import Derived.Test.YtodhfpnfbdkefaaHeldN
import Derived.Test.YtodhfpnfbdkefaaNewO3
import Derived.Deep.RegionHeld3
import Derived.Deep.RegionWith
namespace Go.Proofs.Ytodhfpnfbdkefaa.ExNewOram
open Go.ChangeShapes Go.WideShapes Go.ChangeAt Go.RowKit
open Sl (Sl Own Off)
open OpenSl (tc nc pc)
open Dev Orm ExO Wy
set_option linter.unusedVariables false

theorem nw_wt (zs : List Int) (q : Bool) : LawO4.wt (NewO.nwO zs q) ≤ 4096 := by
  by_cases h : NewO.nwC zs q = 0
  · rw [NewO.ok_c h]
    have hl : zs.length = 12 := by
      unfold NewO.nwC at h
      by_cases h1 : 4096 < zs.length
      · rw [if_pos h1] at h; cases h
      · rw [if_neg h1] at h
        by_cases h2 : zs.length = 12
        · exact h2
        · rw [if_neg h2] at h; cases h
    have hb : LawO.sm (NewO.nt zs).bk (NewO.nt zs).bk.length = 0 := rfl
    unfold LawO4.wt
    rw [hb]
    show zs.length + 0 * 3 + 0 * 3 ≤ 4096
    omega
  · rw [NewO.bad_c h]
    show 0 + 0 * 3 + 0 * 3 ≤ 4096
    omega
set_option maxRecDepth 100000 in
set_option maxHeartbeats 3200000 in
theorem walk (w : World) (v : Value) (zs : List Int) (h : Sl w 1 v zs.length (nc zs)) :
    Calls Try.prog 5 #[v] w fun e w' => e = .returned (.bool true) ∧ Below w.heap.size w w' := by
  have HV := Lib.hid h
  obtain ⟨aD, cD, rfl, _, _⟩ := h.form
  clear h
  have HB0 := Lib.hid (Below.refl w.heap.size w)
  obtain ⟨q, hq⟩ := OkV.ask (∀ z ∈ zs, P8 z)
  have HQ := Lib.hid hq
  clear hq
  obtain ⟨o, eA⟩ : ∃ o, NewO.nwO zs q = o := ⟨_, rfl⟩
  obtain ⟨vC, eC⟩ : ∃ vC, NewO.nwC zs q = vC := ⟨_, rfl⟩
  have HW := Lib.hid (show 1 + LawO4.wt o ≤ 10000000 by rw [← eA]; have := nw_wt zs q; omega)
  have EA := Lib.hid eA
  have EC := Lib.hid eC
  clear eA eC
  have fC : (vC != vC) = false := by simp
  by_cases hn : 1048576 < zs.length
  · go_enter Try.func5, Try.ntmps5
    go_wp2_with fail
    go_ret
    exact ⟨rfl, HB0.out⟩
  have hn2 : zs.length ≤ 1048576 := by omega
  have HN := Lib.hid hn2
  go_enter Try.func5, Try.ntmps5
  go_wp2_with fail
  refine (LawN.toIntS w _ zs (HV.out.below HB0.out) HN.out).mono ?_
  rintro e u1 ⟨r1, rfl, ho, hb⟩
  obtain ⟨loA, elo⟩ : ∃ x, w.heap.size = x := ⟨_, rfl⟩
  obtain ⟨hiA, ehi⟩ : ∃ x, u1.heap.size = x := ⟨_, rfl⟩
  have HLA := Lib.hid (lies_of ho (by omega))
  rw [elo] at ho
  rw [elo, ehi] at HLA
  have HLOA := Lib.hid elo
  have HHIA := Lib.hid ehi
  have HOA := Lib.hid ho
  obtain ⟨aA, cA, rfl, _, _⟩ := ho.sl.form
  clear ho elo ehi
  have HB2 := Lib.hid (HB0.out.trans (hb.mono HB0.out.size))
  have HZ2 := Lib.hid hb.size
  clear hb HB0
  go_wp2_with fail
  refine (NewO3.spec u1 _ zs HOA.out.sl q HQ.out).mono ?_
  rw [EA.out, EC.out]
  rintro e u3 ⟨r3, rfl, ho, hb⟩
  obtain ⟨loW0, elo⟩ : ∃ x, u1.heap.size = x := ⟨_, rfl⟩
  obtain ⟨hiW0, ehi⟩ : ∃ x, u3.heap.size = x := ⟨_, rfl⟩
  rw [elo, ehi] at ho
  have HLOW0 := Lib.hid elo
  have HHIW0 := Lib.hid ehi
  have HOW0 := Lib.hid ho
  obtain ⟨aW0, pW0, bW0, qW0, cW0, rW0, rfl⟩ := form ho.rd
  clear ho elo ehi
  have HS5_A := Lib.hid (HOA.out.below hb)
  have HB5 := Lib.hid (HB2.out.trans (hb.mono HB2.out.size))
  have HZ5 := Lib.hid hb.size
  clear hb HOA HB2
  clear HS5_A HLA
  obtain ⟨U6, eU6, hb, hz, n60, n61, n62⟩ := boxU u3 27 (.slice aW0 o.pos.length pW0) (.slice bW0 o.st.length qW0) (.slice cW0 o.bk.length rW0)
  obtain ⟨GW0, eGW0⟩ : ∃ GW0, u3.heap.size = GW0 := ⟨_, rfl⟩
  have HGW0 := Lib.hid eGW0
  have HY6 := Lib.hid hz
  rw [eGW0] at n60 n61 n62
  clear hz
  have HD7_W0 := Lib.hid (HOW0.out.below hb)
  have HB7 := Lib.hid (HB5.out.trans (hb.mono HB5.out.size))
  have HZ7 := Lib.hid hb.size
  clear hb HOW0 HB5
  go_wp2_with fail
  clear eU6 eGW0
  refine (LawN.toIntS U6 _ zs (HV.out.below HB7.out) HN.out).mono ?_
  rintro e u8 ⟨r8, rfl, ho, hb⟩
  obtain ⟨loX, elo⟩ : ∃ x, U6.heap.size = x := ⟨_, rfl⟩
  obtain ⟨hiX, ehi⟩ : ∃ x, u8.heap.size = x := ⟨_, rfl⟩
  have HLX := Lib.hid (lies_of ho (by omega))
  rw [elo] at ho
  rw [elo, ehi] at HLX
  have HLOX := Lib.hid elo
  have HHIX := Lib.hid ehi
  have HOX := Lib.hid ho
  obtain ⟨aX, cX, rfl, _, _⟩ := ho.sl.form
  clear ho elo ehi
  obtain ⟨c9_GW00, c9_GW01, c9_GW02⟩ := box_below hb n60 n61 n62
  have HD9_W0 := Lib.hid (HD7_W0.out.below hb)
  have HB9 := Lib.hid (HB7.out.trans (hb.mono HB7.out.size))
  have HZ9 := Lib.hid hb.size
  clear hb n60 n61 n62 HD7_W0 HB7
  go_wp2_with fail
  refine (NewO.impl u8 _ zs HOX.out.sl q HQ.out).mono ?_
  rw [EA.out, EC.out]
  rintro e u10 ⟨r10, rfl, ho, hb⟩
  obtain ⟨loG0, elo⟩ : ∃ x, u8.heap.size = x := ⟨_, rfl⟩
  obtain ⟨hiG0, ehi⟩ : ∃ x, u10.heap.size = x := ⟨_, rfl⟩
  rw [elo, ehi] at ho
  have HLOG0 := Lib.hid elo
  have HHIG0 := Lib.hid ehi
  have HOG0 := Lib.hid ho
  obtain ⟨aG0, pG0, bG0, qG0, cG0, rG0, rfl⟩ := form ho.rd
  clear ho elo ehi
  obtain ⟨c12_GW00, c12_GW01, c12_GW02⟩ := box_below hb c9_GW00 c9_GW01 c9_GW02
  have HD12_W0 := Lib.hid (HD9_W0.out.below hb)
  have HS12_X := Lib.hid (HOX.out.below hb)
  have HB12 := Lib.hid (HB9.out.trans (hb.mono HB9.out.size))
  have HZ12 := Lib.hid hb.size
  clear hb c9_GW00 c9_GW01 c9_GW02 HD9_W0 HOX HB9
  obtain ⟨U13, eU13, hb, hz, n130, n131, n132⟩ := boxU u10 27 (.slice aG0 o.pos.length pG0) (.slice bG0 o.st.length qG0) (.slice cG0 o.bk.length rG0)
  obtain ⟨GG0, eGG0⟩ : ∃ GG0, u10.heap.size = GG0 := ⟨_, rfl⟩
  have HGG0 := Lib.hid eGG0
  have HY13 := Lib.hid hz
  rw [eGG0] at n130 n131 n132
  clear hz
  obtain ⟨c14_GW00, c14_GW01, c14_GW02⟩ := box_below hb c12_GW00 c12_GW01 c12_GW02
  have HD14_W0 := Lib.hid (HD12_W0.out.below hb)
  have HD14_G0 := Lib.hid (HOG0.out.below hb)
  have HS14_X := Lib.hid (HS12_X.out.below hb)
  have HB14 := Lib.hid (HB12.out.trans (hb.mono HB12.out.size))
  have HZ14 := Lib.hid hb.size
  clear hb c12_GW00 c12_GW01 c12_GW02 HD12_W0 HOG0 HS12_X HB12
  go_wp2_with fail
  clear eU13 eGG0
  refine (LawO.eqOram U13 _ _ o HD14_G0.out.rd HD14_W0.out.rd).mono ?_
  rintro e u15 ⟨rfl, hb⟩
  obtain ⟨c16_GW00, c16_GW01, c16_GW02⟩ := box_below hb c14_GW00 c14_GW01 c14_GW02
  obtain ⟨c16_GG00, c16_GG01, c16_GG02⟩ := box_below hb n130 n131 n132
  have HD16_W0 := Lib.hid (HD14_W0.out.below hb)
  have HD16_G0 := Lib.hid (HD14_G0.out.below hb)
  have HS16_X := Lib.hid (HS14_X.out.below hb)
  have HB16 := Lib.hid (HB14.out.trans (hb.mono HB14.out.size))
  have HZ16 := Lib.hid hb.size
  clear hb c14_GW00 c14_GW01 c14_GW02 n130 n131 n132 HD14_W0 HD14_G0 HS14_X HB14
  go_wp2_with fail
  refine (LawN.toIntS u15 _ zs (HV.out.below HB16.out) HN.out).mono ?_
  rintro e u17 ⟨r17, rfl, ho, hb⟩
  obtain ⟨loT, elo⟩ : ∃ x, u15.heap.size = x := ⟨_, rfl⟩
  obtain ⟨hiT, ehi⟩ : ∃ x, u17.heap.size = x := ⟨_, rfl⟩
  have HLT := Lib.hid (lies_of ho (by omega))
  rw [elo] at ho
  rw [elo, ehi] at HLT
  have HLOT := Lib.hid elo
  have HHIT := Lib.hid ehi
  have HOT := Lib.hid ho
  obtain ⟨aT, cT, rfl, _, _⟩ := ho.sl.form
  clear ho elo ehi
  obtain ⟨c18_GW00, c18_GW01, c18_GW02⟩ := box_below hb c16_GW00 c16_GW01 c16_GW02
  obtain ⟨c18_GG00, c18_GG01, c18_GG02⟩ := box_below hb c16_GG00 c16_GG01 c16_GG02
  have HD18_W0 := Lib.hid (HD16_W0.out.below hb)
  have HD18_G0 := Lib.hid (HD16_G0.out.below hb)
  have HS18_X := Lib.hid (HS16_X.out.below hb)
  have HB18 := Lib.hid (HB16.out.trans (hb.mono HB16.out.size))
  have HZ18 := Lib.hid hb.size
  clear hb c16_GW00 c16_GW01 c16_GW02 c16_GG00 c16_GG01 c16_GG02 HD16_W0 HD16_G0 HS16_X HB16
  go_wp2_with fail
  refine (LawN.eqIntS u17 _ _ zs HS18_X.out.sl HOT.out.sl).mono ?_
  rintro e u19 ⟨rfl, hb⟩
  obtain ⟨c20_GW00, c20_GW01, c20_GW02⟩ := box_below hb c18_GW00 c18_GW01 c18_GW02
  obtain ⟨c20_GG00, c20_GG01, c20_GG02⟩ := box_below hb c18_GG00 c18_GG01 c18_GG02
  have HD20_W0 := Lib.hid (HD18_W0.out.below hb)
  have HD20_G0 := Lib.hid (HD18_G0.out.below hb)
  have HS20_X := Lib.hid (HS18_X.out.below hb)
  have HS20_T := Lib.hid (HOT.out.below hb)
  have HB20 := Lib.hid (HB18.out.trans (hb.mono HB18.out.size))
  have HZ20 := Lib.hid hb.size
  clear hb c18_GW00 c18_GW01 c18_GW02 c18_GG00 c18_GG01 c18_GG02 HD18_W0 HD18_G0 HS18_X HOT HB18
  clear HS20_T HLT
  go_wp2_with fail
  refine (LawN.markIntS u19 loX _ zs.length _ HS20_X.out 1 (by have := HN.out; omega)).mono ?_
  rintro e u21 ⟨rfl, _, ht1⟩
  have ht := TurnsR.of_turns ht1 (fun v hv => by obtain rfl := List.mem_singleton.1 hv; exact HLX.out)
  clear ht1
  obtain ⟨c22_GW00, c22_GW01, c22_GW02⟩ := box_turns ht (g := GW0) (by have := HLOA.out; have := HHIA.out; have := HZ2.out; have := HLOW0.out; have := HHIW0.out; have := HZ5.out; have := HGW0.out; have := HY6.out; have := HZ7.out; have := HLOX.out; have := HHIX.out; have := HZ9.out; have := HLOG0.out; have := HHIG0.out; have := HZ12.out; have := HGG0.out; have := HY13.out; have := HZ14.out; have := HZ16.out; have := HLOT.out; have := HHIT.out; have := HZ18.out; have := HZ20.out; omega) c20_GW00 c20_GW01 c20_GW02
  obtain ⟨c22_GG00, c22_GG01, c22_GG02⟩ := box_turns ht (g := GG0) (by have := HLOA.out; have := HHIA.out; have := HZ2.out; have := HLOW0.out; have := HHIW0.out; have := HZ5.out; have := HGW0.out; have := HY6.out; have := HZ7.out; have := HLOX.out; have := HHIX.out; have := HZ9.out; have := HLOG0.out; have := HHIG0.out; have := HZ12.out; have := HGG0.out; have := HY13.out; have := HZ14.out; have := HZ16.out; have := HLOT.out; have := HHIT.out; have := HZ18.out; have := HZ20.out; omega) c20_GG00 c20_GG01 c20_GG02
  have HD22_W0 := Lib.hid (HD20_W0.out.turns ht (by have := HLOA.out; have := HHIA.out; have := HZ2.out; have := HLOW0.out; have := HHIW0.out; have := HZ5.out; have := HGW0.out; have := HY6.out; have := HZ7.out; have := HLOX.out; have := HHIX.out; have := HZ9.out; have := HLOG0.out; have := HHIG0.out; have := HZ12.out; have := HGG0.out; have := HY13.out; have := HZ14.out; have := HZ16.out; have := HLOT.out; have := HHIT.out; have := HZ18.out; have := HZ20.out; omega))
  have HD22_G0 := Lib.hid (HD20_G0.out.turns ht (by have := HLOA.out; have := HHIA.out; have := HZ2.out; have := HLOW0.out; have := HHIW0.out; have := HZ5.out; have := HGW0.out; have := HY6.out; have := HZ7.out; have := HLOX.out; have := HHIX.out; have := HZ9.out; have := HLOG0.out; have := HHIG0.out; have := HZ12.out; have := HGG0.out; have := HY13.out; have := HZ14.out; have := HZ16.out; have := HLOT.out; have := HHIT.out; have := HZ18.out; have := HZ20.out; omega))
  have HB22 := Lib.hid (HB20.out.trans (ht.below (by have := HLOA.out; have := HHIA.out; have := HZ2.out; have := HLOW0.out; have := HHIW0.out; have := HZ5.out; have := HGW0.out; have := HY6.out; have := HZ7.out; have := HLOX.out; have := HHIX.out; have := HZ9.out; have := HLOG0.out; have := HHIG0.out; have := HZ12.out; have := HGG0.out; have := HY13.out; have := HZ14.out; have := HZ16.out; have := HLOT.out; have := HHIT.out; have := HZ18.out; have := HZ20.out; omega) (by have := HLOA.out; have := HHIA.out; have := HZ2.out; have := HLOW0.out; have := HHIW0.out; have := HZ5.out; have := HGW0.out; have := HY6.out; have := HZ7.out; have := HLOX.out; have := HHIX.out; have := HZ9.out; have := HLOG0.out; have := HHIG0.out; have := HZ12.out; have := HGG0.out; have := HY13.out; have := HZ14.out; have := HZ16.out; have := HLOT.out; have := HHIT.out; have := HZ18.out; have := HZ20.out; have := HB20.out.size; omega)))
  have HZ22 := Lib.hid ht.size
  clear ht c20_GW00 c20_GW01 c20_GW02 c20_GG00 c20_GG01 c20_GG02 HD20_W0 HD20_G0 HB20
  clear HS20_X HLX
  obtain ⟨MX, eMX⟩ : ∃ x, 1 + zs.length = x := ⟨_, rfl⟩
  rw [eMX]
  clear eMX
  have dMX : decide ((MX : Int) < 0) = false := decide_eq_false (by omega)
  go_wp2_with fail
  refine (LawO.eqOram u21 _ _ o HD22_G0.out.rd HD22_W0.out.rd).mono ?_
  rintro e u23 ⟨rfl, hb⟩
  obtain ⟨c24_GW00, c24_GW01, c24_GW02⟩ := box_below hb c22_GW00 c22_GW01 c22_GW02
  obtain ⟨c24_GG00, c24_GG01, c24_GG02⟩ := box_below hb c22_GG00 c22_GG01 c22_GG02
  have HD24_W0 := Lib.hid (HD22_W0.out.below hb)
  have HD24_G0 := Lib.hid (HD22_G0.out.below hb)
  have HB24 := Lib.hid (HB22.out.trans (hb.mono HB22.out.size))
  have HZ24 := Lib.hid hb.size
  clear hb c22_GW00 c22_GW01 c22_GW02 c22_GG00 c22_GG01 c22_GG02 HD22_W0 HD22_G0 HB22
  go_wp2_with fail
  have LENG0 := Lib.hid HW.out
  refine (LawO4.markOram u23 loG0 hiG0 _ o HD24_G0.out (by have := HLOA.out; have := HHIA.out; have := HZ2.out; have := HLOW0.out; have := HHIW0.out; have := HZ5.out; have := HGW0.out; have := HY6.out; have := HZ7.out; have := HLOX.out; have := HHIX.out; have := HZ9.out; have := HLOG0.out; have := HHIG0.out; have := HZ12.out; have := HGG0.out; have := HY13.out; have := HZ14.out; have := HZ16.out; have := HLOT.out; have := HHIT.out; have := HZ18.out; have := HZ20.out; have := HZ22.out; have := HZ24.out; omega) 1 LENG0.out).mono ?_
  rintro e u25 ⟨rfl, hm, ht⟩
  have HM25 := Lib.hid hm
  clear hm
  obtain ⟨c26_GW00, c26_GW01, c26_GW02⟩ := box_turns ht (g := GW0) (by have := HLOA.out; have := HHIA.out; have := HZ2.out; have := HLOW0.out; have := HHIW0.out; have := HZ5.out; have := HGW0.out; have := HY6.out; have := HZ7.out; have := HLOX.out; have := HHIX.out; have := HZ9.out; have := HLOG0.out; have := HHIG0.out; have := HZ12.out; have := HGG0.out; have := HY13.out; have := HZ14.out; have := HZ16.out; have := HLOT.out; have := HHIT.out; have := HZ18.out; have := HZ20.out; have := HZ22.out; have := HZ24.out; omega) c24_GW00 c24_GW01 c24_GW02
  obtain ⟨c26_GG00, c26_GG01, c26_GG02⟩ := box_turns ht (g := GG0) (by have := HLOA.out; have := HHIA.out; have := HZ2.out; have := HLOW0.out; have := HHIW0.out; have := HZ5.out; have := HGW0.out; have := HY6.out; have := HZ7.out; have := HLOX.out; have := HHIX.out; have := HZ9.out; have := HLOG0.out; have := HHIG0.out; have := HZ12.out; have := HGG0.out; have := HY13.out; have := HZ14.out; have := HZ16.out; have := HLOT.out; have := HHIT.out; have := HZ18.out; have := HZ20.out; have := HZ22.out; have := HZ24.out; omega) c24_GG00 c24_GG01 c24_GG02
  have HD26_W0 := Lib.hid (HD24_W0.out.turns ht (by have := HLOA.out; have := HHIA.out; have := HZ2.out; have := HLOW0.out; have := HHIW0.out; have := HZ5.out; have := HGW0.out; have := HY6.out; have := HZ7.out; have := HLOX.out; have := HHIX.out; have := HZ9.out; have := HLOG0.out; have := HHIG0.out; have := HZ12.out; have := HGG0.out; have := HY13.out; have := HZ14.out; have := HZ16.out; have := HLOT.out; have := HHIT.out; have := HZ18.out; have := HZ20.out; have := HZ22.out; have := HZ24.out; omega))
  have HB26 := Lib.hid (HB24.out.trans (ht.below (by have := HLOA.out; have := HHIA.out; have := HZ2.out; have := HLOW0.out; have := HHIW0.out; have := HZ5.out; have := HGW0.out; have := HY6.out; have := HZ7.out; have := HLOX.out; have := HHIX.out; have := HZ9.out; have := HLOG0.out; have := HHIG0.out; have := HZ12.out; have := HGG0.out; have := HY13.out; have := HZ14.out; have := HZ16.out; have := HLOT.out; have := HHIT.out; have := HZ18.out; have := HZ20.out; have := HZ22.out; have := HZ24.out; omega) (by have := HLOA.out; have := HHIA.out; have := HZ2.out; have := HLOW0.out; have := HHIW0.out; have := HZ5.out; have := HGW0.out; have := HY6.out; have := HZ7.out; have := HLOX.out; have := HHIX.out; have := HZ9.out; have := HLOG0.out; have := HHIG0.out; have := HZ12.out; have := HGG0.out; have := HY13.out; have := HZ14.out; have := HZ16.out; have := HLOT.out; have := HHIT.out; have := HZ18.out; have := HZ20.out; have := HZ22.out; have := HZ24.out; have := HB24.out.size; omega)))
  have HZ26 := Lib.hid ht.size
  clear ht c24_GW00 c24_GW01 c24_GW02 c24_GG00 c24_GG01 c24_GG02 HD24_W0 HB24
  clear HD24_G0
  obtain ⟨MG, eMG⟩ : ∃ MG, 1 + LawO4.wt o = MG := ⟨_, rfl⟩
  rw [eMG]
  have EMG := Lib.hid eMG
  clear eMG
  have dMG : decide ((MG : Int) < 0) = false := decide_eq_false (by omega)
  have fMG : ((MG : Int) != (MG : Int)) = false := by simp
  go_wp2_with fail
  refine (LawO4.heldOram u25 1 _ o HM25.out LENG0.out).mono ?_
  rw [EMG.out]
  rintro e u27 ⟨rfl, hb⟩
  obtain ⟨c28_GW00, c28_GW01, c28_GW02⟩ := box_below hb c26_GW00 c26_GW01 c26_GW02
  obtain ⟨c28_GG00, c28_GG01, c28_GG02⟩ := box_below hb c26_GG00 c26_GG01 c26_GG02
  have HD28_W0 := Lib.hid (HD26_W0.out.below hb)
  have HM28_G0 := Lib.hid (HM25.out.below hb)
  have HB28 := Lib.hid (HB26.out.trans (hb.mono HB26.out.size))
  have HZ28 := Lib.hid hb.size
  clear hb c26_GW00 c26_GW01 c26_GW02 c26_GG00 c26_GG01 c26_GG02 HD26_W0 HM25 HB26
  go_wp2_with fail
  refine (LawN.toIntS u27 _ zs (HV.out.below HB28.out) HN.out).mono ?_
  rintro e u29 ⟨r29, rfl, ho, hb⟩
  obtain ⟨loY, elo⟩ : ∃ x, u27.heap.size = x := ⟨_, rfl⟩
  obtain ⟨hiY, ehi⟩ : ∃ x, u29.heap.size = x := ⟨_, rfl⟩
  have HLY := Lib.hid (lies_of ho (by omega))
  rw [elo] at ho
  rw [elo, ehi] at HLY
  have HLOY := Lib.hid elo
  have HHIY := Lib.hid ehi
  have HOY := Lib.hid ho
  obtain ⟨aY, cY, rfl, _, _⟩ := ho.sl.form
  clear ho elo ehi
  obtain ⟨c30_GW00, c30_GW01, c30_GW02⟩ := box_below hb c28_GW00 c28_GW01 c28_GW02
  obtain ⟨c30_GG00, c30_GG01, c30_GG02⟩ := box_below hb c28_GG00 c28_GG01 c28_GG02
  have HD30_W0 := Lib.hid (HD28_W0.out.below hb)
  have HM30_G0 := Lib.hid (HM28_G0.out.below hb)
  have HB30 := Lib.hid (HB28.out.trans (hb.mono HB28.out.size))
  have HZ30 := Lib.hid hb.size
  clear hb c28_GW00 c28_GW01 c28_GW02 c28_GG00 c28_GG01 c28_GG02 HD28_W0 HM28_G0 HB28
  go_wp2_with fail
  refine (NewO.impl u29 _ zs HOY.out.sl q HQ.out).mono ?_
  rw [EA.out, EC.out]
  rintro e u31 ⟨r31, rfl, ho, hb⟩
  obtain ⟨loH0, elo⟩ : ∃ x, u29.heap.size = x := ⟨_, rfl⟩
  obtain ⟨hiH0, ehi⟩ : ∃ x, u31.heap.size = x := ⟨_, rfl⟩
  rw [elo, ehi] at ho
  have HLOH0 := Lib.hid elo
  have HHIH0 := Lib.hid ehi
  have HOH0 := Lib.hid ho
  obtain ⟨aH0, pH0, bH0, qH0, cH0, rH0, rfl⟩ := form ho.rd
  clear ho elo ehi
  obtain ⟨c33_GW00, c33_GW01, c33_GW02⟩ := box_below hb c30_GW00 c30_GW01 c30_GW02
  obtain ⟨c33_GG00, c33_GG01, c33_GG02⟩ := box_below hb c30_GG00 c30_GG01 c30_GG02
  have HD33_W0 := Lib.hid (HD30_W0.out.below hb)
  have HM33_G0 := Lib.hid (HM30_G0.out.below hb)
  have HS33_Y := Lib.hid (HOY.out.below hb)
  have HB33 := Lib.hid (HB30.out.trans (hb.mono HB30.out.size))
  have HZ33 := Lib.hid hb.size
  clear hb c30_GW00 c30_GW01 c30_GW02 c30_GG00 c30_GG01 c30_GG02 HD30_W0 HM30_G0 HOY HB30
  clear HS33_Y HLY
  obtain ⟨U34, eU34, hb, hz, n340, n341, n342⟩ := boxU u31 27 (.slice aH0 o.pos.length pH0) (.slice bH0 o.st.length qH0) (.slice cH0 o.bk.length rH0)
  obtain ⟨GH0, eGH0⟩ : ∃ GH0, u31.heap.size = GH0 := ⟨_, rfl⟩
  have HGH0 := Lib.hid eGH0
  have HY34 := Lib.hid hz
  rw [eGH0] at n340 n341 n342
  clear hz
  obtain ⟨c35_GW00, c35_GW01, c35_GW02⟩ := box_below hb c33_GW00 c33_GW01 c33_GW02
  obtain ⟨c35_GG00, c35_GG01, c35_GG02⟩ := box_below hb c33_GG00 c33_GG01 c33_GG02
  have HD35_W0 := Lib.hid (HD33_W0.out.below hb)
  have HD35_H0 := Lib.hid (HOH0.out.below hb)
  have HM35_G0 := Lib.hid (HM33_G0.out.below hb)
  have HB35 := Lib.hid (HB33.out.trans (hb.mono HB33.out.size))
  have HZ35 := Lib.hid hb.size
  clear hb c33_GW00 c33_GW01 c33_GW02 c33_GG00 c33_GG01 c33_GG02 HD33_W0 HOH0 HM33_G0 HB33
  go_wp2_with fail
  clear eU34 eGH0
  refine (LawO.eqOram U34 _ _ o HD35_H0.out.rd HD35_W0.out.rd).mono ?_
  rintro e u36 ⟨rfl, hb⟩
  obtain ⟨c37_GW00, c37_GW01, c37_GW02⟩ := box_below hb c35_GW00 c35_GW01 c35_GW02
  obtain ⟨c37_GG00, c37_GG01, c37_GG02⟩ := box_below hb c35_GG00 c35_GG01 c35_GG02
  obtain ⟨c37_GH00, c37_GH01, c37_GH02⟩ := box_below hb n340 n341 n342
  have HD37_W0 := Lib.hid (HD35_W0.out.below hb)
  have HD37_H0 := Lib.hid (HD35_H0.out.below hb)
  have HM37_G0 := Lib.hid (HM35_G0.out.below hb)
  have HB37 := Lib.hid (HB35.out.trans (hb.mono HB35.out.size))
  have HZ37 := Lib.hid hb.size
  clear hb c35_GW00 c35_GW01 c35_GW02 c35_GG00 c35_GG01 c35_GG02 n340 n341 n342 HD35_W0 HD35_H0 HM35_G0 HB35
  go_wp2_with fail
  refine (LawO4.heldOram u36 1 _ o HM37_G0.out LENG0.out).mono ?_
  rw [EMG.out]
  rintro e u38 ⟨rfl, hb⟩
  obtain ⟨c39_GW00, c39_GW01, c39_GW02⟩ := box_below hb c37_GW00 c37_GW01 c37_GW02
  obtain ⟨c39_GG00, c39_GG01, c39_GG02⟩ := box_below hb c37_GG00 c37_GG01 c37_GG02
  obtain ⟨c39_GH00, c39_GH01, c39_GH02⟩ := box_below hb c37_GH00 c37_GH01 c37_GH02
  have HD39_W0 := Lib.hid (HD37_W0.out.below hb)
  have HD39_H0 := Lib.hid (HD37_H0.out.below hb)
  have HM39_G0 := Lib.hid (HM37_G0.out.below hb)
  have HB39 := Lib.hid (HB37.out.trans (hb.mono HB37.out.size))
  have HZ39 := Lib.hid hb.size
  clear hb c37_GW00 c37_GW01 c37_GW02 c37_GG00 c37_GG01 c37_GG02 c37_GH00 c37_GH01 c37_GH02 HD37_W0 HD37_H0 HM37_G0 HB37
  go_wp2_with fail
  go_ret
  exact ⟨rfl, HB39.out⟩
theorem cellsI : Try.prog.cellsOf 3 = 1 := by kernel_rfl
set_option maxRecDepth 100000 in
theorem walk_any {H : Type} {enc : TypeId × Value → H} {W : World} {base b0 : Nat} {spare : Nat → Bool} {held : Bool} {u : Value} {d : DataW H} {p : List MemPlace}
    (o : Value.okWide Try.prog W .any b0 23 u) (h : DataW.Trod enc Try.prog W base spare held 23 u d p) :
    Calls Try.prog 5 #[u] W fun e w' => e = .returned (.bool true) ∧ Below W.heap.size W w' := by
  obtain ⟨a, l, c, rfl⟩ := okWide_slice Try.underlying23 o
  obtain ⟨fuel, hf⟩ := h
  obtain ⟨zs, hzs, _⟩ := OpenSl.numbers Try.underlying23 Try.underlying3 cellsI hf
  exact walk W _ zs hzs
end Go.Proofs.Ytodhfpnfbdkefaa.ExNewOram
