/-
  What is proved: the exact law on MapBatch returns true (the walk).
-/
import Derived.Test.YtealdpkgfmokpaaRows
import Derived.Test.YtealdpkgfmokpaaBatMS
import Derived.Test.YtealdpkgfmokpaaBatIm
import Derived.Test.YtealdpkgfmokpaaLawRS
import Derived.Test.YtealdpkgfmokpaaLawB2
import Derived.Test.YtealdpkgfmokpaaOpenB
namespace Go.Proofs.Ytealdpkgfmokpaa.ExMapBatch
open Go.ChangeShapes Go.WideShapes Go.ChangeAt Go.RowKit
open Sl (Sl Own Off)
open OpenSl (nc)
open Dev Orm LawE BatR LawRS
set_option linter.unusedVariables false

/-- Between which blocks a slice of slices lies. -/
structure LiesR (lo hi : Nat) (v : Value) (n : Nat) (us : Nat → Value) : Prop where
  out : Orm.Lies lo hi v
  inn : ∀ j, j < n → Orm.Lies lo hi (us j)
variable {w w' : World} {b lo hi lo' hi' k : Nat} {v : Value} {rs : List Re} {us : Nat → Value} {bss : List (List Bk)}
theorem nrO_lies (h : NrO w b v rs us) : LiesR b w.heap.size v rs.length us := ⟨Orm.lies_of h.out (by decide), fun j hj => Orm.lies_of (h.inn j hj) (by decide)⟩
theorem nsO_lies (h : NsO w b v bss us) : LiesR b w.heap.size v bss.length us := ⟨Orm.lies_of h.out (by decide), fun j hj => Orm.lies_of (h.inn j hj) (by decide)⟩
theorem nrO_turnsR (h : NrO w b v rs us) (ht : TurnsR lo hi w w') (hl : LiesR lo' hi' v rs.length us) (hd : hi ≤ lo' ∨ hi' ≤ lo) : NrO w' b v rs us := ⟨own_turnsR h.out ht hl.out hd, fun j hj => own_turnsR (h.inn j hj) ht (hl.inn j hj) hd, h.off, h.each⟩
theorem mrO_turnsR (h : MrO w b v rs us k) (ht : TurnsR lo hi w w') (hl : LiesR lo' hi' v rs.length us) (hd : hi ≤ lo' ∨ hi' ≤ lo) : MrO w' b v rs us k := ⟨own_turnsR h.out ht hl.out hd, fun j hj => own_turnsR (h.inn j hj) ht (hl.inn j hj) hd⟩
theorem nsO_turnsR (h : NsO w b v bss us) (ht : TurnsR lo hi w w') (hl : LiesR lo' hi' v bss.length us) (hd : hi ≤ lo' ∨ hi' ≤ lo) : NsO w' b v bss us := ⟨own_turnsR h.out ht hl.out hd, fun j hj => own_turnsR (h.inn j hj) ht (hl.inn j hj) hd, h.off, h.each⟩
theorem nrO_turns {ws : List Value} (h : NrO w b v rs us) (ht : Turns ws w w') (hv : ∀ u ∈ ws, Apart v u) (hu : ∀ j, j < rs.length → ∀ u ∈ ws, Apart (us j) u) : NrO w' b v rs us := ⟨own_turns h.out ht hv, fun j hj => own_turns (h.inn j hj) ht (hu j hj), h.off, h.each⟩
theorem lens {R : Nat} (h : R + bss.length + (bss.map List.length).sum ≤ 1048576) : bss.length ≤ 1048576 ∧ (∀ j, j < bss.length → (bss.getD j []).length ≤ 1048576) ∧ LawB.sm bss bss.length ≤ 1048576 := by
  have hs : LawB.sm bss bss.length = (bss.map List.length).sum := by unfold LawB.sm; rw [List.take_length]
  refine ⟨by omega, fun j hj => ?_, by omega⟩
  have := LawB2.sm_le bss j hj
  omega
set_option maxRecDepth 100000 in
set_option maxHeartbeats 3200000 in
theorem walk (w : World) (v : Value) (xs : List En) (h : Sl w 2 v xs.length (ec xs)) (u : Value) (bss : List (List Bk)) (hs : Ns w u bss) :
    Calls Try.prog 6 #[v, u] w fun e w' => e = .returned (.bool true) ∧ Below w.heap.size w w' := by
  have HB0 := Lib.hid (Below.refl w.heap.size w)
  have HV := Lib.hid h
  have HU := Lib.hid hs
  have HS := Lib.hid (fun t x (hx : Sl t 2 x xs.length (ec xs)) y (hy : Ns t y bss) => BatMS.specBatch t x xs hx y bss hy)
  have HI := Lib.hid (fun t x (hx : Sl t 2 x xs.length (ec xs)) y (hy : Ns t y bss) => BatIm.implBatch t x xs hx y bss hy)
  have HT11 := Lib.hid (BatMS.gb_len xs bss)
  generalize BatMS.gb xs bss = TT at *
  generalize BatMS.gk xs bss = KK at *
  obtain ⟨AX, AR⟩ := TT
  simp only at HT11
  obtain ⟨aV, cV, rfl, _, _⟩ := h.form
  obtain ⟨usU, hU1, _⟩ := hs
  obtain ⟨aU, cU, rfl, _, _⟩ := hU1.form
  have b1 : (KK != KK) = false := by simp
  clear h hU1
  go_enter Try.func6, Try.ntmps6
  go_wp2_with fail
  refine (LawE.szEntryS w _ xs (HV.out.below HB0.out) 1048576 (by omega)).mono ?_
  rintro e w1 ⟨⟨r, rfl, hr⟩, hu⟩
  have hu2 := hu.symm
  subst hu2
  clear hu
  rcases hr with rfl | ⟨R, rfl, hR⟩
  · go_wp2_with fail
    go_ret
    exact ⟨rfl, HB0.out⟩
  have HLX := Lib.hid (show xs.length ≤ 1048576 by omega)
  have hR1 : R ≤ 1048576 := by omega
  have dR1 : ¬ ((R : Int) < 0) := by omega
  clear hR
  go_wp2_with fail
  refine (LawB.szTxnS w _ bss (HU.out.below HB0.out) R (by omega)).mono ?_
  rintro e u1 ⟨⟨r, rfl, hr⟩, hb⟩
  have HB2 := Lib.hid (HB0.out.trans (hb.mono HB0.out.size))
  have HZ2 := Lib.hid hb.size
  clear hb HB0
  rcases hr with rfl | ⟨R2, rfl, hR⟩
  · go_wp2_with fail
    go_ret
    exact ⟨rfl, HB2.out⟩
  have HLU := Lib.hid (lens (show R2 + bss.length + (bss.map List.length).sum ≤ 1048576 by omega))
  have hR2 : R2 ≤ 1048576 := by omega
  have dR2 : ¬ ((R2 : Int) < 0) := by omega
  clear hR
  go_wp2_with fail
  refine (LawE.toEntryS u1 _ xs (HV.out.below HB2.out) HLX.out).mono ?_
  rintro e u3 ⟨r3, rfl, ho, hb⟩
  obtain ⟨aA0, qA0, rfl, _, _⟩ := ho.sl.form
  obtain ⟨loA0, elo⟩ : ∃ x, u1.heap.size = x := ⟨_, rfl⟩
  obtain ⟨hiA0, ehi⟩ : ∃ x, u3.heap.size = x := ⟨_, rfl⟩
  have HLA0 := Lib.hid (lies_of ho (by decide))
  rw [elo] at ho
  rw [elo, ehi] at HLA0
  have HLOA0 := Lib.hid elo
  have HHIA0 := Lib.hid ehi
  have HOA0 := Lib.hid ho
  clear ho elo ehi
  have HB4 := Lib.hid (HB2.out.trans (hb.mono HB2.out.size))
  have HZ4 := Lib.hid hb.size
  clear hb HB2
  go_wp2_with fail
  refine (LawB.toTxnS u3 _ bss (HU.out.below HB4.out) HLU.out.1 HLU.out.2.1).mono ?_
  rintro e u5 ⟨r5, usB0, rfl, ho, hb⟩
  obtain ⟨aB0, qB0, rfl, _, _⟩ := ho.out.sl.form
  obtain ⟨loB0, elo⟩ : ∃ x, u3.heap.size = x := ⟨_, rfl⟩
  obtain ⟨hiB0, ehi⟩ : ∃ x, u5.heap.size = x := ⟨_, rfl⟩
  have HLB0 := Lib.hid (nsO_lies ho)
  rw [elo] at ho
  rw [elo, ehi] at HLB0
  have HLOB0 := Lib.hid elo
  have HHIB0 := Lib.hid ehi
  have HOB0 := Lib.hid ho
  clear ho elo ehi
  have HS6_A0 := Lib.hid (HOA0.out.below hb)
  have HB6 := Lib.hid (HB4.out.trans (hb.mono HB4.out.size))
  have HZ6 := Lib.hid hb.size
  clear hb HOA0 HB4
  go_wp2_with fail
  refine (HS.out _ _ HS6_A0.out.sl _ HOB0.out.ns).mono ?_
  rintro e u7 ⟨⟨x9, v9, usW1, rfl, hq⟩, hb⟩
  simp only at hq
  have ho1 := hq.out.1
  have ho2 := hq.out.2
  clear hq
  obtain ⟨aW0, qW0, rfl, _, _⟩ := ho1.sl.form
  obtain ⟨aW1, qW1, rfl, _, _⟩ := ho2.out.sl.form
  obtain ⟨loW0, elo⟩ : ∃ x, u5.heap.size = x := ⟨_, rfl⟩
  obtain ⟨hiW0, ehi⟩ : ∃ x, u7.heap.size = x := ⟨_, rfl⟩
  have HLW0 := Lib.hid (lies_of ho1 (by decide))
  rw [elo] at ho1
  rw [elo, ehi] at HLW0
  have HLOW0 := Lib.hid elo
  have HHIW0 := Lib.hid ehi
  have HOW0 := Lib.hid ho1
  clear ho1 elo ehi
  obtain ⟨loW1, elo⟩ : ∃ x, u5.heap.size = x := ⟨_, rfl⟩
  obtain ⟨hiW1, ehi⟩ : ∃ x, u7.heap.size = x := ⟨_, rfl⟩
  have HLW1 := Lib.hid (nrO_lies ho2)
  rw [elo] at ho2
  rw [elo, ehi] at HLW1
  have HLOW1 := Lib.hid elo
  have HHIW1 := Lib.hid ehi
  have HOW1 := Lib.hid ho2
  clear ho2 elo ehi
  have HS8_A0 := Lib.hid (HS6_A0.out.below hb)
  have HS8_B0 := Lib.hid (HOB0.out.below hb)
  have HB8 := Lib.hid (HB6.out.trans (hb.mono HB6.out.size))
  have HZ8 := Lib.hid hb.size
  clear hb HS6_A0 HOB0 HB6
  go_wp2_with fail
  clear HS8_A0 HLA0
  clear HS8_B0 HLB0
  refine (LawE.toEntryS u7 _ xs (HV.out.below HB8.out) HLX.out).mono ?_
  rintro e u9 ⟨r9, rfl, ho, hb⟩
  obtain ⟨aX0, qX0, rfl, _, _⟩ := ho.sl.form
  obtain ⟨loX0, elo⟩ : ∃ x, u7.heap.size = x := ⟨_, rfl⟩
  obtain ⟨hiX0, ehi⟩ : ∃ x, u9.heap.size = x := ⟨_, rfl⟩
  have HLX0 := Lib.hid (lies_of ho (by decide))
  rw [elo] at ho
  rw [elo, ehi] at HLX0
  have HLOX0 := Lib.hid elo
  have HHIX0 := Lib.hid ehi
  have HOX0 := Lib.hid ho
  clear ho elo ehi
  have HS10_W0 := Lib.hid (HOW0.out.below hb)
  have HS10_W1 := Lib.hid (HOW1.out.below hb)
  have HB10 := Lib.hid (HB8.out.trans (hb.mono HB8.out.size))
  have HZ10 := Lib.hid hb.size
  clear hb HOW0 HOW1 HB8
  go_wp2_with fail
  refine (LawB.toTxnS u9 _ bss (HU.out.below HB10.out) HLU.out.1 HLU.out.2.1).mono ?_
  rintro e u11 ⟨r11, usX1, rfl, ho, hb⟩
  obtain ⟨aX1, qX1, rfl, _, _⟩ := ho.out.sl.form
  obtain ⟨loX1, elo⟩ : ∃ x, u9.heap.size = x := ⟨_, rfl⟩
  obtain ⟨hiX1, ehi⟩ : ∃ x, u11.heap.size = x := ⟨_, rfl⟩
  have HLX1 := Lib.hid (nsO_lies ho)
  rw [elo] at ho
  rw [elo, ehi] at HLX1
  have HLOX1 := Lib.hid elo
  have HHIX1 := Lib.hid ehi
  have HOX1 := Lib.hid ho
  clear ho elo ehi
  have HS12_W0 := Lib.hid (HS10_W0.out.below hb)
  have HS12_W1 := Lib.hid (HS10_W1.out.below hb)
  have HS12_X0 := Lib.hid (HOX0.out.below hb)
  have HB12 := Lib.hid (HB10.out.trans (hb.mono HB10.out.size))
  have HZ12 := Lib.hid hb.size
  clear hb HS10_W0 HS10_W1 HOX0 HB10
  go_wp2_with fail
  refine (HI.out _ _ HS12_X0.out.sl _ HOX1.out.ns).mono ?_
  rintro e u13 ⟨⟨x9, v9, usG1, rfl, hq⟩, hb⟩
  simp only at hq
  have HAG := Lib.hid (And.intro hq.out.2.2.1 hq.out.2.2.2)
  have ho1 := hq.out.1
  have ho2 := hq.out.2.1
  clear hq
  obtain ⟨aG0, qG0, rfl, _, _⟩ := ho1.sl.form
  obtain ⟨aG1, qG1, rfl, _, _⟩ := ho2.out.sl.form
  obtain ⟨loG0, elo⟩ : ∃ x, u11.heap.size = x := ⟨_, rfl⟩
  obtain ⟨hiG0, ehi⟩ : ∃ x, u13.heap.size = x := ⟨_, rfl⟩
  have HLG0 := Lib.hid (lies_of ho1 (by decide))
  rw [elo] at ho1
  rw [elo, ehi] at HLG0
  have HLOG0 := Lib.hid elo
  have HHIG0 := Lib.hid ehi
  have HOG0 := Lib.hid ho1
  clear ho1 elo ehi
  obtain ⟨loG1, elo⟩ : ∃ x, u11.heap.size = x := ⟨_, rfl⟩
  obtain ⟨hiG1, ehi⟩ : ∃ x, u13.heap.size = x := ⟨_, rfl⟩
  have HLG1 := Lib.hid (nrO_lies ho2)
  rw [elo] at ho2
  rw [elo, ehi] at HLG1
  have HLOG1 := Lib.hid elo
  have HHIG1 := Lib.hid ehi
  have HOG1 := Lib.hid ho2
  clear ho2 elo ehi
  have HS14_W0 := Lib.hid (HS12_W0.out.below hb)
  have HS14_W1 := Lib.hid (HS12_W1.out.below hb)
  have HS14_X0 := Lib.hid (HS12_X0.out.below hb)
  have HS14_X1 := Lib.hid (HOX1.out.below hb)
  have HB14 := Lib.hid (HB12.out.trans (hb.mono HB12.out.size))
  have HZ14 := Lib.hid hb.size
  clear hb HS12_W0 HS12_W1 HS12_X0 HOX1 HB12
  go_wp2_with fail
  refine (LawE.eqEntryS u13 _ _ AX HOG0.out.sl HS14_W0.out.sl).mono ?_
  rintro e u15 ⟨rfl, hb⟩
  have HS16_W0 := Lib.hid (HS14_W0.out.below hb)
  have HS16_W1 := Lib.hid (HS14_W1.out.below hb)
  have HS16_X0 := Lib.hid (HS14_X0.out.below hb)
  have HS16_X1 := Lib.hid (HS14_X1.out.below hb)
  have HS16_G0 := Lib.hid (HOG0.out.below hb)
  have HS16_G1 := Lib.hid (HOG1.out.below hb)
  have HB16 := Lib.hid (HB14.out.trans (hb.mono HB14.out.size))
  have HZ16 := Lib.hid hb.size
  clear hb HS14_W0 HS14_W1 HS14_X0 HS14_X1 HOG0 HOG1 HB14
  go_wp2_with fail
  refine (LawRS.eqResultS u15 _ _ AR _ _ HS16_G1.out.nr HS16_W1.out.nr).mono ?_
  rintro e u17 ⟨rfl, hb⟩
  have HS18_W0 := Lib.hid (HS16_W0.out.below hb)
  have HS18_W1 := Lib.hid (HS16_W1.out.below hb)
  have HS18_X0 := Lib.hid (HS16_X0.out.below hb)
  have HS18_X1 := Lib.hid (HS16_X1.out.below hb)
  have HS18_G0 := Lib.hid (HS16_G0.out.below hb)
  have HS18_G1 := Lib.hid (HS16_G1.out.below hb)
  have HB18 := Lib.hid (HB16.out.trans (hb.mono HB16.out.size))
  have HZ18 := Lib.hid hb.size
  clear hb HS16_W0 HS16_W1 HS16_X0 HS16_X1 HS16_G0 HS16_G1 HB16
  go_wp2_with fail
  refine (LawE.toEntryS u17 _ xs (HV.out.below HB18.out) HLX.out).mono ?_
  rintro e u19 ⟨r19, rfl, ho, hb⟩
  obtain ⟨aT0, qT0, rfl, _, _⟩ := ho.sl.form
  obtain ⟨loT0, elo⟩ : ∃ x, u17.heap.size = x := ⟨_, rfl⟩
  obtain ⟨hiT0, ehi⟩ : ∃ x, u19.heap.size = x := ⟨_, rfl⟩
  have HLT0 := Lib.hid (lies_of ho (by decide))
  rw [elo] at ho
  rw [elo, ehi] at HLT0
  have HLOT0 := Lib.hid elo
  have HHIT0 := Lib.hid ehi
  have HOT0 := Lib.hid ho
  clear ho elo ehi
  have HS20_W0 := Lib.hid (HS18_W0.out.below hb)
  have HS20_W1 := Lib.hid (HS18_W1.out.below hb)
  have HS20_X0 := Lib.hid (HS18_X0.out.below hb)
  have HS20_X1 := Lib.hid (HS18_X1.out.below hb)
  have HS20_G0 := Lib.hid (HS18_G0.out.below hb)
  have HS20_G1 := Lib.hid (HS18_G1.out.below hb)
  have HB20 := Lib.hid (HB18.out.trans (hb.mono HB18.out.size))
  have HZ20 := Lib.hid hb.size
  clear hb HS18_W0 HS18_W1 HS18_X0 HS18_X1 HS18_G0 HS18_G1 HB18
  go_wp2_with fail
  refine (LawE.eqEntryS u19 _ _ xs HS20_X0.out.sl HOT0.out.sl).mono ?_
  rintro e u21 ⟨rfl, hb⟩
  have HS22_W0 := Lib.hid (HS20_W0.out.below hb)
  have HS22_W1 := Lib.hid (HS20_W1.out.below hb)
  have HS22_X0 := Lib.hid (HS20_X0.out.below hb)
  have HS22_X1 := Lib.hid (HS20_X1.out.below hb)
  have HS22_G0 := Lib.hid (HS20_G0.out.below hb)
  have HS22_G1 := Lib.hid (HS20_G1.out.below hb)
  have HS22_T0 := Lib.hid (HOT0.out.below hb)
  have HB22 := Lib.hid (HB20.out.trans (hb.mono HB20.out.size))
  have HZ22 := Lib.hid hb.size
  clear hb HS20_W0 HS20_W1 HS20_X0 HS20_X1 HS20_G0 HS20_G1 HOT0 HB20
  go_wp2_with fail
  clear HS22_T0 HLT0
  refine (LawB.toTxnS u21 _ bss (HU.out.below HB22.out) HLU.out.1 HLU.out.2.1).mono ?_
  rintro e u23 ⟨r23, usT1, rfl, ho, hb⟩
  obtain ⟨aT1, qT1, rfl, _, _⟩ := ho.out.sl.form
  obtain ⟨loT1, elo⟩ : ∃ x, u21.heap.size = x := ⟨_, rfl⟩
  obtain ⟨hiT1, ehi⟩ : ∃ x, u23.heap.size = x := ⟨_, rfl⟩
  have HLT1 := Lib.hid (nsO_lies ho)
  rw [elo] at ho
  rw [elo, ehi] at HLT1
  have HLOT1 := Lib.hid elo
  have HHIT1 := Lib.hid ehi
  have HOT1 := Lib.hid ho
  clear ho elo ehi
  have HS24_W0 := Lib.hid (HS22_W0.out.below hb)
  have HS24_W1 := Lib.hid (HS22_W1.out.below hb)
  have HS24_X0 := Lib.hid (HS22_X0.out.below hb)
  have HS24_X1 := Lib.hid (HS22_X1.out.below hb)
  have HS24_G0 := Lib.hid (HS22_G0.out.below hb)
  have HS24_G1 := Lib.hid (HS22_G1.out.below hb)
  have HB24 := Lib.hid (HB22.out.trans (hb.mono HB22.out.size))
  have HZ24 := Lib.hid hb.size
  clear hb HS22_W0 HS22_W1 HS22_X0 HS22_X1 HS22_G0 HS22_G1 HB22
  go_wp2_with fail
  refine (LawB.eqTxnS u23 _ _ bss HS24_X1.out.ns HOT1.out.ns).mono ?_
  rintro e u25 ⟨rfl, hb⟩
  have HS26_W0 := Lib.hid (HS24_W0.out.below hb)
  have HS26_W1 := Lib.hid (HS24_W1.out.below hb)
  have HS26_X0 := Lib.hid (HS24_X0.out.below hb)
  have HS26_X1 := Lib.hid (HS24_X1.out.below hb)
  have HS26_G0 := Lib.hid (HS24_G0.out.below hb)
  have HS26_G1 := Lib.hid (HS24_G1.out.below hb)
  have HS26_T1 := Lib.hid (HOT1.out.below hb)
  have HB26 := Lib.hid (HB24.out.trans (hb.mono HB24.out.size))
  have HZ26 := Lib.hid hb.size
  clear hb HS24_W0 HS24_W1 HS24_X0 HS24_X1 HS24_G0 HS24_G1 HOT1 HB24
  go_wp2_with fail
  clear HS26_T1 HLT1
  obtain ⟨MA, eMA⟩ : ∃ x, 1 + xs.length * 2 = x := ⟨_, rfl⟩
  have EMA := Lib.hid eMA
  have HMMA := Lib.hid (show MA ≤ 10000000 by have := EMA.out; have := HLX.out; omega)
  have dMA : ¬ ((MA : Int) < 0) := by omega
  have fMA : ((MA : Int) != (MA : Int)) = false := by simp
  clear eMA
  obtain ⟨MB, eMB⟩ : ∃ x, MA + LawB.sm bss bss.length * 3 = x := ⟨_, rfl⟩
  have EMB := Lib.hid eMB
  have HMMB := Lib.hid (show MB ≤ 10000000 by have := EMB.out; have := HMMA.out; have := EMA.out; have := HLX.out; have := HLU.out.2.2; omega)
  have dMB : ¬ ((MB : Int) < 0) := by omega
  have fMB : ((MB : Int) != (MB : Int)) = false := by simp
  clear eMB
  obtain ⟨MC, eMC⟩ : ∃ x, 1 + AX.length * 2 = x := ⟨_, rfl⟩
  have EMC := Lib.hid eMC
  have HMMC := Lib.hid (show MC ≤ 10000000 by have := EMC.out; have := HT11.out.1; omega)
  have dMC : ¬ ((MC : Int) < 0) := by omega
  have fMC : ((MC : Int) != (MC : Int)) = false := by simp
  clear eMC
  obtain ⟨MD, eMD⟩ : ∃ x, MC + LawRS.sr AR AR.length = x := ⟨_, rfl⟩
  have EMD := Lib.hid eMD
  have HMMD := Lib.hid (show MD ≤ 10000000 by have := EMD.out; have := EMC.out; have := HT11.out.1; have := LawRS.sr_bound AR HT11.out.2.1 HT11.out.2.2; omega)
  have dMD : ¬ ((MD : Int) < 0) := by omega
  have fMD : ((MD : Int) != (MD : Int)) = false := by simp
  clear eMD
  refine (LawE.markEntryS u25 loX0 _ xs.length _ HS26_X0.out 1 (by have := EMA.out; have := HMMA.out; omega)).mono ?_
  rw [EMA.out]
  rintro e u27 ⟨rfl, ho, ht1⟩
  have HNW := Lib.hid ho
  have HT1 := Lib.hid ht1
  have ht := TurnsR.of_turns ht1 (fun v hv => by obtain rfl := List.mem_singleton.1 hv; exact HLX0.out)
  clear ht1 ho
  have HS28_W0 := Lib.hid (own_turnsR HS26_W0.out ht HLW0.out (by have := HZ2.out; have := HLOA0.out; have := HHIA0.out; have := HZ4.out; have := HLOB0.out; have := HHIB0.out; have := HZ6.out; have := HLOW0.out; have := HHIW0.out; have := HLOW1.out; have := HHIW1.out; have := HZ8.out; have := HLOX0.out; have := HHIX0.out; have := HZ10.out; have := HLOX1.out; have := HHIX1.out; have := HZ12.out; have := HLOG0.out; have := HHIG0.out; have := HLOG1.out; have := HHIG1.out; have := HZ14.out; have := HZ16.out; have := HZ18.out; have := HLOT0.out; have := HHIT0.out; have := HZ20.out; have := HZ22.out; have := HLOT1.out; have := HHIT1.out; have := HZ24.out; have := HZ26.out; omega))
  have HS28_W1 := Lib.hid (nrO_turnsR HS26_W1.out ht HLW1.out (by have := HZ2.out; have := HLOA0.out; have := HHIA0.out; have := HZ4.out; have := HLOB0.out; have := HHIB0.out; have := HZ6.out; have := HLOW0.out; have := HHIW0.out; have := HLOW1.out; have := HHIW1.out; have := HZ8.out; have := HLOX0.out; have := HHIX0.out; have := HZ10.out; have := HLOX1.out; have := HHIX1.out; have := HZ12.out; have := HLOG0.out; have := HHIG0.out; have := HLOG1.out; have := HHIG1.out; have := HZ14.out; have := HZ16.out; have := HZ18.out; have := HLOT0.out; have := HHIT0.out; have := HZ20.out; have := HZ22.out; have := HLOT1.out; have := HHIT1.out; have := HZ24.out; have := HZ26.out; omega))
  have HS28_X1 := Lib.hid (nsO_turnsR HS26_X1.out ht HLX1.out (by have := HZ2.out; have := HLOA0.out; have := HHIA0.out; have := HZ4.out; have := HLOB0.out; have := HHIB0.out; have := HZ6.out; have := HLOW0.out; have := HHIW0.out; have := HLOW1.out; have := HHIW1.out; have := HZ8.out; have := HLOX0.out; have := HHIX0.out; have := HZ10.out; have := HLOX1.out; have := HHIX1.out; have := HZ12.out; have := HLOG0.out; have := HHIG0.out; have := HLOG1.out; have := HHIG1.out; have := HZ14.out; have := HZ16.out; have := HZ18.out; have := HLOT0.out; have := HHIT0.out; have := HZ20.out; have := HZ22.out; have := HLOT1.out; have := HHIT1.out; have := HZ24.out; have := HZ26.out; omega))
  have HS28_G0 := Lib.hid (own_turnsR HS26_G0.out ht HLG0.out (by have := HZ2.out; have := HLOA0.out; have := HHIA0.out; have := HZ4.out; have := HLOB0.out; have := HHIB0.out; have := HZ6.out; have := HLOW0.out; have := HHIW0.out; have := HLOW1.out; have := HHIW1.out; have := HZ8.out; have := HLOX0.out; have := HHIX0.out; have := HZ10.out; have := HLOX1.out; have := HHIX1.out; have := HZ12.out; have := HLOG0.out; have := HHIG0.out; have := HLOG1.out; have := HHIG1.out; have := HZ14.out; have := HZ16.out; have := HZ18.out; have := HLOT0.out; have := HHIT0.out; have := HZ20.out; have := HZ22.out; have := HLOT1.out; have := HHIT1.out; have := HZ24.out; have := HZ26.out; omega))
  have HS28_G1 := Lib.hid (nrO_turnsR HS26_G1.out ht HLG1.out (by have := HZ2.out; have := HLOA0.out; have := HHIA0.out; have := HZ4.out; have := HLOB0.out; have := HHIB0.out; have := HZ6.out; have := HLOW0.out; have := HHIW0.out; have := HLOW1.out; have := HHIW1.out; have := HZ8.out; have := HLOX0.out; have := HHIX0.out; have := HZ10.out; have := HLOX1.out; have := HHIX1.out; have := HZ12.out; have := HLOG0.out; have := HHIG0.out; have := HLOG1.out; have := HHIG1.out; have := HZ14.out; have := HZ16.out; have := HZ18.out; have := HLOT0.out; have := HHIT0.out; have := HZ20.out; have := HZ22.out; have := HLOT1.out; have := HHIT1.out; have := HZ24.out; have := HZ26.out; omega))
  have HB28 := Lib.hid (HB26.out.trans (ht.below (by have := HZ2.out; have := HLOA0.out; have := HHIA0.out; have := HZ4.out; have := HLOB0.out; have := HHIB0.out; have := HZ6.out; have := HLOW0.out; have := HHIW0.out; have := HLOW1.out; have := HHIW1.out; have := HZ8.out; have := HLOX0.out; have := HHIX0.out; have := HZ10.out; have := HLOX1.out; have := HHIX1.out; have := HZ12.out; have := HLOG0.out; have := HHIG0.out; have := HLOG1.out; have := HHIG1.out; have := HZ14.out; have := HZ16.out; have := HZ18.out; have := HLOT0.out; have := HHIT0.out; have := HZ20.out; have := HZ22.out; have := HLOT1.out; have := HHIT1.out; have := HZ24.out; have := HZ26.out; omega) (by have := HZ2.out; have := HLOA0.out; have := HHIA0.out; have := HZ4.out; have := HLOB0.out; have := HHIB0.out; have := HZ6.out; have := HLOW0.out; have := HHIW0.out; have := HLOW1.out; have := HHIW1.out; have := HZ8.out; have := HLOX0.out; have := HHIX0.out; have := HZ10.out; have := HLOX1.out; have := HHIX1.out; have := HZ12.out; have := HLOG0.out; have := HHIG0.out; have := HLOG1.out; have := HHIG1.out; have := HZ14.out; have := HZ16.out; have := HZ18.out; have := HLOT0.out; have := HHIT0.out; have := HZ20.out; have := HZ22.out; have := HLOT1.out; have := HHIT1.out; have := HZ24.out; have := HZ26.out; have := HB26.out.size; omega)))
  have HZ28 := Lib.hid ht.size
  clear ht HS26_W0 HS26_W1 HS26_X1 HS26_G0 HS26_G1 HB26
  clear HT1 HS26_X0
  clear HNW HLX0
  go_wp2_with fail
  refine (LawB2.markTxnS u27 loX1 _ bss _ HS28_X1.out MA (by have := EMB.out; have := HMMB.out; omega)).mono ?_
  rw [EMB.out]
  rintro e u29 ⟨rfl, _, _, ht1⟩
  have ht := TurnsR.of_turns ht1 (fun v hv => by obtain ⟨j, hj, rfl⟩ := List.mem_map.1 hv; exact HLX1.out.inn j (List.mem_range.1 hj))
  clear ht1
  have HS30_W0 := Lib.hid (own_turnsR HS28_W0.out ht HLW0.out (by have := HZ2.out; have := HLOA0.out; have := HHIA0.out; have := HZ4.out; have := HLOB0.out; have := HHIB0.out; have := HZ6.out; have := HLOW0.out; have := HHIW0.out; have := HLOW1.out; have := HHIW1.out; have := HZ8.out; have := HLOX0.out; have := HHIX0.out; have := HZ10.out; have := HLOX1.out; have := HHIX1.out; have := HZ12.out; have := HLOG0.out; have := HHIG0.out; have := HLOG1.out; have := HHIG1.out; have := HZ14.out; have := HZ16.out; have := HZ18.out; have := HLOT0.out; have := HHIT0.out; have := HZ20.out; have := HZ22.out; have := HLOT1.out; have := HHIT1.out; have := HZ24.out; have := HZ26.out; have := HZ28.out; omega))
  have HS30_W1 := Lib.hid (nrO_turnsR HS28_W1.out ht HLW1.out (by have := HZ2.out; have := HLOA0.out; have := HHIA0.out; have := HZ4.out; have := HLOB0.out; have := HHIB0.out; have := HZ6.out; have := HLOW0.out; have := HHIW0.out; have := HLOW1.out; have := HHIW1.out; have := HZ8.out; have := HLOX0.out; have := HHIX0.out; have := HZ10.out; have := HLOX1.out; have := HHIX1.out; have := HZ12.out; have := HLOG0.out; have := HHIG0.out; have := HLOG1.out; have := HHIG1.out; have := HZ14.out; have := HZ16.out; have := HZ18.out; have := HLOT0.out; have := HHIT0.out; have := HZ20.out; have := HZ22.out; have := HLOT1.out; have := HHIT1.out; have := HZ24.out; have := HZ26.out; have := HZ28.out; omega))
  have HS30_G0 := Lib.hid (own_turnsR HS28_G0.out ht HLG0.out (by have := HZ2.out; have := HLOA0.out; have := HHIA0.out; have := HZ4.out; have := HLOB0.out; have := HHIB0.out; have := HZ6.out; have := HLOW0.out; have := HHIW0.out; have := HLOW1.out; have := HHIW1.out; have := HZ8.out; have := HLOX0.out; have := HHIX0.out; have := HZ10.out; have := HLOX1.out; have := HHIX1.out; have := HZ12.out; have := HLOG0.out; have := HHIG0.out; have := HLOG1.out; have := HHIG1.out; have := HZ14.out; have := HZ16.out; have := HZ18.out; have := HLOT0.out; have := HHIT0.out; have := HZ20.out; have := HZ22.out; have := HLOT1.out; have := HHIT1.out; have := HZ24.out; have := HZ26.out; have := HZ28.out; omega))
  have HS30_G1 := Lib.hid (nrO_turnsR HS28_G1.out ht HLG1.out (by have := HZ2.out; have := HLOA0.out; have := HHIA0.out; have := HZ4.out; have := HLOB0.out; have := HHIB0.out; have := HZ6.out; have := HLOW0.out; have := HHIW0.out; have := HLOW1.out; have := HHIW1.out; have := HZ8.out; have := HLOX0.out; have := HHIX0.out; have := HZ10.out; have := HLOX1.out; have := HHIX1.out; have := HZ12.out; have := HLOG0.out; have := HHIG0.out; have := HLOG1.out; have := HHIG1.out; have := HZ14.out; have := HZ16.out; have := HZ18.out; have := HLOT0.out; have := HHIT0.out; have := HZ20.out; have := HZ22.out; have := HLOT1.out; have := HHIT1.out; have := HZ24.out; have := HZ26.out; have := HZ28.out; omega))
  have HB30 := Lib.hid (HB28.out.trans (ht.below (by have := HZ2.out; have := HLOA0.out; have := HHIA0.out; have := HZ4.out; have := HLOB0.out; have := HHIB0.out; have := HZ6.out; have := HLOW0.out; have := HHIW0.out; have := HLOW1.out; have := HHIW1.out; have := HZ8.out; have := HLOX0.out; have := HHIX0.out; have := HZ10.out; have := HLOX1.out; have := HHIX1.out; have := HZ12.out; have := HLOG0.out; have := HHIG0.out; have := HLOG1.out; have := HHIG1.out; have := HZ14.out; have := HZ16.out; have := HZ18.out; have := HLOT0.out; have := HHIT0.out; have := HZ20.out; have := HZ22.out; have := HLOT1.out; have := HHIT1.out; have := HZ24.out; have := HZ26.out; have := HZ28.out; omega) (by have := HZ2.out; have := HLOA0.out; have := HHIA0.out; have := HZ4.out; have := HLOB0.out; have := HHIB0.out; have := HZ6.out; have := HLOW0.out; have := HHIW0.out; have := HLOW1.out; have := HHIW1.out; have := HZ8.out; have := HLOX0.out; have := HHIX0.out; have := HZ10.out; have := HLOX1.out; have := HHIX1.out; have := HZ12.out; have := HLOG0.out; have := HHIG0.out; have := HLOG1.out; have := HHIG1.out; have := HZ14.out; have := HZ16.out; have := HZ18.out; have := HLOT0.out; have := HHIT0.out; have := HZ20.out; have := HZ22.out; have := HLOT1.out; have := HHIT1.out; have := HZ24.out; have := HZ26.out; have := HZ28.out; have := HB28.out.size; omega)))
  have HZ30 := Lib.hid ht.size
  clear ht HS28_W0 HS28_W1 HS28_G0 HS28_G1 HB28
  clear HS28_X1 HLX1
  go_wp2_with fail
  refine (LawE.eqEntryS u29 _ _ AX HS30_G0.out.sl HS30_W0.out.sl).mono ?_
  rintro e u31 ⟨rfl, hb⟩
  have HS32_W0 := Lib.hid (HS30_W0.out.below hb)
  have HS32_W1 := Lib.hid (HS30_W1.out.below hb)
  have HS32_G0 := Lib.hid (HS30_G0.out.below hb)
  have HS32_G1 := Lib.hid (HS30_G1.out.below hb)
  have HB32 := Lib.hid (HB30.out.trans (hb.mono HB30.out.size))
  have HZ32 := Lib.hid hb.size
  clear hb HS30_W0 HS30_W1 HS30_G0 HS30_G1 HB30
  go_wp2_with fail
  refine (LawRS.eqResultS u31 _ _ AR _ _ HS32_G1.out.nr HS32_W1.out.nr).mono ?_
  rintro e u33 ⟨rfl, hb⟩
  have HS34_W0 := Lib.hid (HS32_W0.out.below hb)
  have HS34_W1 := Lib.hid (HS32_W1.out.below hb)
  have HS34_G0 := Lib.hid (HS32_G0.out.below hb)
  have HS34_G1 := Lib.hid (HS32_G1.out.below hb)
  have HB34 := Lib.hid (HB32.out.trans (hb.mono HB32.out.size))
  have HZ34 := Lib.hid hb.size
  clear hb HS32_W0 HS32_W1 HS32_G0 HS32_G1 HB32
  go_wp2_with fail
  refine (LawE.markEntryS u33 loG0 _ AX.length _ HS34_G0.out 1 (by have := EMC.out; have := HMMC.out; omega)).mono ?_
  rw [EMC.out]
  rintro e u35 ⟨rfl, ho, ht1⟩
  have HNW := Lib.hid ho
  have HT1 := Lib.hid ht1
  have ht := TurnsR.of_turns ht1 (fun v hv => by obtain rfl := List.mem_singleton.1 hv; exact HLG0.out)
  clear ht1 ho
  have HS36_W0 := Lib.hid (own_turnsR HS34_W0.out ht HLW0.out (by have := HZ2.out; have := HLOA0.out; have := HHIA0.out; have := HZ4.out; have := HLOB0.out; have := HHIB0.out; have := HZ6.out; have := HLOW0.out; have := HHIW0.out; have := HLOW1.out; have := HHIW1.out; have := HZ8.out; have := HLOX0.out; have := HHIX0.out; have := HZ10.out; have := HLOX1.out; have := HHIX1.out; have := HZ12.out; have := HLOG0.out; have := HHIG0.out; have := HLOG1.out; have := HHIG1.out; have := HZ14.out; have := HZ16.out; have := HZ18.out; have := HLOT0.out; have := HHIT0.out; have := HZ20.out; have := HZ22.out; have := HLOT1.out; have := HHIT1.out; have := HZ24.out; have := HZ26.out; have := HZ28.out; have := HZ30.out; have := HZ32.out; have := HZ34.out; omega))
  have HS36_W1 := Lib.hid (nrO_turnsR HS34_W1.out ht HLW1.out (by have := HZ2.out; have := HLOA0.out; have := HHIA0.out; have := HZ4.out; have := HLOB0.out; have := HHIB0.out; have := HZ6.out; have := HLOW0.out; have := HHIW0.out; have := HLOW1.out; have := HHIW1.out; have := HZ8.out; have := HLOX0.out; have := HHIX0.out; have := HZ10.out; have := HLOX1.out; have := HHIX1.out; have := HZ12.out; have := HLOG0.out; have := HHIG0.out; have := HLOG1.out; have := HHIG1.out; have := HZ14.out; have := HZ16.out; have := HZ18.out; have := HLOT0.out; have := HHIT0.out; have := HZ20.out; have := HZ22.out; have := HLOT1.out; have := HHIT1.out; have := HZ24.out; have := HZ26.out; have := HZ28.out; have := HZ30.out; have := HZ32.out; have := HZ34.out; omega))
  have HS36_G1 := Lib.hid (nrO_turns HS34_G1.out HT1.out (fun v hv => by obtain rfl := List.mem_singleton.1 hv; exact HAG.out.1.symm) (fun j hj => (fun v hv => by obtain rfl := List.mem_singleton.1 hv; exact (HAG.out.2 j hj).symm)))
  have HB36 := Lib.hid (HB34.out.trans (ht.below (by have := HZ2.out; have := HLOA0.out; have := HHIA0.out; have := HZ4.out; have := HLOB0.out; have := HHIB0.out; have := HZ6.out; have := HLOW0.out; have := HHIW0.out; have := HLOW1.out; have := HHIW1.out; have := HZ8.out; have := HLOX0.out; have := HHIX0.out; have := HZ10.out; have := HLOX1.out; have := HHIX1.out; have := HZ12.out; have := HLOG0.out; have := HHIG0.out; have := HLOG1.out; have := HHIG1.out; have := HZ14.out; have := HZ16.out; have := HZ18.out; have := HLOT0.out; have := HHIT0.out; have := HZ20.out; have := HZ22.out; have := HLOT1.out; have := HHIT1.out; have := HZ24.out; have := HZ26.out; have := HZ28.out; have := HZ30.out; have := HZ32.out; have := HZ34.out; omega) (by have := HZ2.out; have := HLOA0.out; have := HHIA0.out; have := HZ4.out; have := HLOB0.out; have := HHIB0.out; have := HZ6.out; have := HLOW0.out; have := HHIW0.out; have := HLOW1.out; have := HHIW1.out; have := HZ8.out; have := HLOX0.out; have := HHIX0.out; have := HZ10.out; have := HLOX1.out; have := HHIX1.out; have := HZ12.out; have := HLOG0.out; have := HHIG0.out; have := HLOG1.out; have := HHIG1.out; have := HZ14.out; have := HZ16.out; have := HZ18.out; have := HLOT0.out; have := HHIT0.out; have := HZ20.out; have := HZ22.out; have := HLOT1.out; have := HHIT1.out; have := HZ24.out; have := HZ26.out; have := HZ28.out; have := HZ30.out; have := HZ32.out; have := HZ34.out; have := HB34.out.size; omega)))
  have HZ36 := Lib.hid ht.size
  clear ht HS34_W0 HS34_W1 HS34_G1 HB34
  clear HT1 HS34_G0
  have HM_G0 := Lib.hid HNW.out
  clear HNW
  go_wp2_with fail
  refine (LawRS.markResultS u35 loG1 _ AR _ HS36_G1.out MC (by have := EMD.out; have := HMMD.out; omega)).mono ?_
  rw [EMD.out]
  rintro e u37 ⟨rfl, ho, ht1⟩
  have HNW := Lib.hid ho
  have HT1 := Lib.hid ht1
  have ht := TurnsR.of_turns ht1 (fun v hv => by
    rcases List.mem_cons.1 hv with rfl | hv
    · exact HLG1.out.out
    · obtain ⟨j, hj, rfl⟩ := List.mem_map.1 hv
      exact HLG1.out.inn j (List.mem_range.1 hj))
  clear ht1 ho
  have HS38_W0 := Lib.hid (own_turnsR HS36_W0.out ht HLW0.out (by have := HZ2.out; have := HLOA0.out; have := HHIA0.out; have := HZ4.out; have := HLOB0.out; have := HHIB0.out; have := HZ6.out; have := HLOW0.out; have := HHIW0.out; have := HLOW1.out; have := HHIW1.out; have := HZ8.out; have := HLOX0.out; have := HHIX0.out; have := HZ10.out; have := HLOX1.out; have := HHIX1.out; have := HZ12.out; have := HLOG0.out; have := HHIG0.out; have := HLOG1.out; have := HHIG1.out; have := HZ14.out; have := HZ16.out; have := HZ18.out; have := HLOT0.out; have := HHIT0.out; have := HZ20.out; have := HZ22.out; have := HLOT1.out; have := HHIT1.out; have := HZ24.out; have := HZ26.out; have := HZ28.out; have := HZ30.out; have := HZ32.out; have := HZ34.out; have := HZ36.out; omega))
  have HS38_W1 := Lib.hid (nrO_turnsR HS36_W1.out ht HLW1.out (by have := HZ2.out; have := HLOA0.out; have := HHIA0.out; have := HZ4.out; have := HLOB0.out; have := HHIB0.out; have := HZ6.out; have := HLOW0.out; have := HHIW0.out; have := HLOW1.out; have := HHIW1.out; have := HZ8.out; have := HLOX0.out; have := HHIX0.out; have := HZ10.out; have := HLOX1.out; have := HHIX1.out; have := HZ12.out; have := HLOG0.out; have := HHIG0.out; have := HLOG1.out; have := HHIG1.out; have := HZ14.out; have := HZ16.out; have := HZ18.out; have := HLOT0.out; have := HHIT0.out; have := HZ20.out; have := HZ22.out; have := HLOT1.out; have := HHIT1.out; have := HZ24.out; have := HZ26.out; have := HZ28.out; have := HZ30.out; have := HZ32.out; have := HZ34.out; have := HZ36.out; omega))
  have HS38_G0 := Lib.hid (own_turns HM_G0.out HT1.out (fun v hv => by
    rcases List.mem_cons.1 hv with rfl | hv
    · exact HAG.out.1
    · obtain ⟨j, hj, rfl⟩ := List.mem_map.1 hv
      exact HAG.out.2 j (List.mem_range.1 hj)))
  have HB38 := Lib.hid (HB36.out.trans (ht.below (by have := HZ2.out; have := HLOA0.out; have := HHIA0.out; have := HZ4.out; have := HLOB0.out; have := HHIB0.out; have := HZ6.out; have := HLOW0.out; have := HHIW0.out; have := HLOW1.out; have := HHIW1.out; have := HZ8.out; have := HLOX0.out; have := HHIX0.out; have := HZ10.out; have := HLOX1.out; have := HHIX1.out; have := HZ12.out; have := HLOG0.out; have := HHIG0.out; have := HLOG1.out; have := HHIG1.out; have := HZ14.out; have := HZ16.out; have := HZ18.out; have := HLOT0.out; have := HHIT0.out; have := HZ20.out; have := HZ22.out; have := HLOT1.out; have := HHIT1.out; have := HZ24.out; have := HZ26.out; have := HZ28.out; have := HZ30.out; have := HZ32.out; have := HZ34.out; have := HZ36.out; omega) (by have := HZ2.out; have := HLOA0.out; have := HHIA0.out; have := HZ4.out; have := HLOB0.out; have := HHIB0.out; have := HZ6.out; have := HLOW0.out; have := HHIW0.out; have := HLOW1.out; have := HHIW1.out; have := HZ8.out; have := HLOX0.out; have := HHIX0.out; have := HZ10.out; have := HLOX1.out; have := HHIX1.out; have := HZ12.out; have := HLOG0.out; have := HHIG0.out; have := HLOG1.out; have := HHIG1.out; have := HZ14.out; have := HZ16.out; have := HZ18.out; have := HLOT0.out; have := HHIT0.out; have := HZ20.out; have := HZ22.out; have := HLOT1.out; have := HHIT1.out; have := HZ24.out; have := HZ26.out; have := HZ28.out; have := HZ30.out; have := HZ32.out; have := HZ34.out; have := HZ36.out; have := HB36.out.size; omega)))
  have HZ38 := Lib.hid ht.size
  clear ht HS36_W0 HS36_W1 HM_G0 HB36
  clear HT1 HS36_G1
  go_wp2_with fail
  refine (LawE.heldEntryS u37 _ AX.length 1 HS38_G0.out.sl (by have := EMC.out; have := HMMC.out; omega)).mono ?_
  rw [EMC.out]
  rintro e u39 ⟨rfl, hu⟩
  have hu2 := hu.symm
  subst hu2
  clear hu
  go_wp2_with fail
  refine (LawRS.heldResultS u37 _ _ AR _ MC HNW.out (by have := EMD.out; have := HMMD.out; omega)).mono ?_
  rw [EMD.out]
  rintro e u40 ⟨rfl, hb⟩
  have HS41_W0 := Lib.hid (HS38_W0.out.below hb)
  have HS41_W1 := Lib.hid (HS38_W1.out.below hb)
  have HS41_G0 := Lib.hid (HS38_G0.out.below hb)
  have HS41_G1 := Lib.hid (HNW.out.below hb)
  have HB41 := Lib.hid (HB38.out.trans (hb.mono HB38.out.size))
  have HZ41 := Lib.hid hb.size
  clear hb HS38_W0 HS38_W1 HS38_G0 HNW HB38
  go_wp2_with fail
  refine (LawE.toEntryS u40 _ xs (HV.out.below HB41.out) HLX.out).mono ?_
  rintro e u42 ⟨r42, rfl, ho, hb⟩
  obtain ⟨aY0, qY0, rfl, _, _⟩ := ho.sl.form
  obtain ⟨loY0, elo⟩ : ∃ x, u40.heap.size = x := ⟨_, rfl⟩
  obtain ⟨hiY0, ehi⟩ : ∃ x, u42.heap.size = x := ⟨_, rfl⟩
  have HLY0 := Lib.hid (lies_of ho (by decide))
  rw [elo] at ho
  rw [elo, ehi] at HLY0
  have HLOY0 := Lib.hid elo
  have HHIY0 := Lib.hid ehi
  have HOY0 := Lib.hid ho
  clear ho elo ehi
  have HS43_W0 := Lib.hid (HS41_W0.out.below hb)
  have HS43_W1 := Lib.hid (HS41_W1.out.below hb)
  have HS43_G0 := Lib.hid (HS41_G0.out.below hb)
  have HS43_G1 := Lib.hid (HS41_G1.out.below hb)
  have HB43 := Lib.hid (HB41.out.trans (hb.mono HB41.out.size))
  have HZ43 := Lib.hid hb.size
  clear hb HS41_W0 HS41_W1 HS41_G0 HS41_G1 HB41
  go_wp2_with fail
  refine (LawB.toTxnS u42 _ bss (HU.out.below HB43.out) HLU.out.1 HLU.out.2.1).mono ?_
  rintro e u44 ⟨r44, usY1, rfl, ho, hb⟩
  obtain ⟨aY1, qY1, rfl, _, _⟩ := ho.out.sl.form
  obtain ⟨loY1, elo⟩ : ∃ x, u42.heap.size = x := ⟨_, rfl⟩
  obtain ⟨hiY1, ehi⟩ : ∃ x, u44.heap.size = x := ⟨_, rfl⟩
  have HLY1 := Lib.hid (nsO_lies ho)
  rw [elo] at ho
  rw [elo, ehi] at HLY1
  have HLOY1 := Lib.hid elo
  have HHIY1 := Lib.hid ehi
  have HOY1 := Lib.hid ho
  clear ho elo ehi
  have HS45_W0 := Lib.hid (HS43_W0.out.below hb)
  have HS45_W1 := Lib.hid (HS43_W1.out.below hb)
  have HS45_G0 := Lib.hid (HS43_G0.out.below hb)
  have HS45_G1 := Lib.hid (HS43_G1.out.below hb)
  have HS45_Y0 := Lib.hid (HOY0.out.below hb)
  have HB45 := Lib.hid (HB43.out.trans (hb.mono HB43.out.size))
  have HZ45 := Lib.hid hb.size
  clear hb HS43_W0 HS43_W1 HS43_G0 HS43_G1 HOY0 HB43
  go_wp2_with fail
  refine (HI.out _ _ HS45_Y0.out.sl _ HOY1.out.ns).mono ?_
  rintro e u46 ⟨⟨x9, v9, usH1, rfl, hq⟩, hb⟩
  simp only at hq
  have ho1 := hq.out.1
  have ho2 := hq.out.2.1
  clear hq
  obtain ⟨aH0, qH0, rfl, _, _⟩ := ho1.sl.form
  obtain ⟨aH1, qH1, rfl, _, _⟩ := ho2.out.sl.form
  obtain ⟨loH0, elo⟩ : ∃ x, u44.heap.size = x := ⟨_, rfl⟩
  obtain ⟨hiH0, ehi⟩ : ∃ x, u46.heap.size = x := ⟨_, rfl⟩
  have HLH0 := Lib.hid (lies_of ho1 (by decide))
  rw [elo] at ho1
  rw [elo, ehi] at HLH0
  have HLOH0 := Lib.hid elo
  have HHIH0 := Lib.hid ehi
  have HOH0 := Lib.hid ho1
  clear ho1 elo ehi
  obtain ⟨loH1, elo⟩ : ∃ x, u44.heap.size = x := ⟨_, rfl⟩
  obtain ⟨hiH1, ehi⟩ : ∃ x, u46.heap.size = x := ⟨_, rfl⟩
  have HLH1 := Lib.hid (nrO_lies ho2)
  rw [elo] at ho2
  rw [elo, ehi] at HLH1
  have HLOH1 := Lib.hid elo
  have HHIH1 := Lib.hid ehi
  have HOH1 := Lib.hid ho2
  clear ho2 elo ehi
  have HS47_W0 := Lib.hid (HS45_W0.out.below hb)
  have HS47_W1 := Lib.hid (HS45_W1.out.below hb)
  have HS47_G0 := Lib.hid (HS45_G0.out.below hb)
  have HS47_G1 := Lib.hid (HS45_G1.out.below hb)
  have HS47_Y0 := Lib.hid (HS45_Y0.out.below hb)
  have HS47_Y1 := Lib.hid (HOY1.out.below hb)
  have HB47 := Lib.hid (HB45.out.trans (hb.mono HB45.out.size))
  have HZ47 := Lib.hid hb.size
  clear hb HS45_W0 HS45_W1 HS45_G0 HS45_G1 HS45_Y0 HOY1 HB45
  clear HS47_Y0 HLY0
  clear HS47_Y1 HLY1
  go_wp2_with fail
  refine (LawE.eqEntryS u46 _ _ AX HOH0.out.sl HS47_W0.out.sl).mono ?_
  rintro e u48 ⟨rfl, hb⟩
  have HS49_W0 := Lib.hid (HS47_W0.out.below hb)
  have HS49_W1 := Lib.hid (HS47_W1.out.below hb)
  have HS49_G0 := Lib.hid (HS47_G0.out.below hb)
  have HS49_G1 := Lib.hid (HS47_G1.out.below hb)
  have HS49_H0 := Lib.hid (HOH0.out.below hb)
  have HS49_H1 := Lib.hid (HOH1.out.below hb)
  have HB49 := Lib.hid (HB47.out.trans (hb.mono HB47.out.size))
  have HZ49 := Lib.hid hb.size
  clear hb HS47_W0 HS47_W1 HS47_G0 HS47_G1 HOH0 HOH1 HB47
  go_wp2_with fail
  refine (LawRS.eqResultS u48 _ _ AR _ _ HS49_H1.out.nr HS49_W1.out.nr).mono ?_
  rintro e u50 ⟨rfl, hb⟩
  have HS51_W0 := Lib.hid (HS49_W0.out.below hb)
  have HS51_W1 := Lib.hid (HS49_W1.out.below hb)
  have HS51_G0 := Lib.hid (HS49_G0.out.below hb)
  have HS51_G1 := Lib.hid (HS49_G1.out.below hb)
  have HS51_H0 := Lib.hid (HS49_H0.out.below hb)
  have HS51_H1 := Lib.hid (HS49_H1.out.below hb)
  have HB51 := Lib.hid (HB49.out.trans (hb.mono HB49.out.size))
  have HZ51 := Lib.hid hb.size
  clear hb HS49_W0 HS49_W1 HS49_G0 HS49_G1 HS49_H0 HS49_H1 HB49
  go_wp2_with fail
  refine (LawE.heldEntryS u50 _ AX.length 1 HS51_G0.out.sl (by have := EMC.out; have := HMMC.out; omega)).mono ?_
  rw [EMC.out]
  rintro e u52 ⟨rfl, hu⟩
  have hu2 := hu.symm
  subst hu2
  clear hu
  go_wp2_with fail
  refine (LawRS.heldResultS u50 _ _ AR _ MC HS51_G1.out (by have := EMD.out; have := HMMD.out; omega)).mono ?_
  rw [EMD.out]
  rintro e u53 ⟨rfl, hb⟩
  have HS54_W0 := Lib.hid (HS51_W0.out.below hb)
  have HS54_W1 := Lib.hid (HS51_W1.out.below hb)
  have HS54_G0 := Lib.hid (HS51_G0.out.below hb)
  have HS54_G1 := Lib.hid (HS51_G1.out.below hb)
  have HS54_H0 := Lib.hid (HS51_H0.out.below hb)
  have HS54_H1 := Lib.hid (HS51_H1.out.below hb)
  have HB54 := Lib.hid (HB51.out.trans (hb.mono HB51.out.size))
  have HZ54 := Lib.hid hb.size
  clear hb HS51_W0 HS51_W1 HS51_G0 HS51_G1 HS51_H0 HS51_H1 HB51
  go_wp2_with fail
  go_ret
  exact ⟨rfl, HB54.out⟩
set_option maxRecDepth 100000 in
theorem walk_any {H : Type} {enc : TypeId × Value → H} {W : World} {base base1 b0 b1 : Nat} {spare spare1 : Nat → Bool} {held held1 : Bool} {v u : Value} {d d1 : DataW H} {p p1 : List MemPlace}
    (o : Value.okWide Try.prog W .any b0 41 v) (h : DataW.Trod enc Try.prog W base spare held 41 v d p)
    (o1 : Value.okWide Try.prog W .any b1 64 u) (h1 : DataW.Trod enc Try.prog W base1 spare1 held1 64 u d1 p1) :
    Calls Try.prog 6 #[v, u] W fun e w' => e = .returned (.bool true) ∧ Below W.heap.size W w' := by
  obtain ⟨xs, hr, _⟩ := open_map h (okWide_slice Try.underlying41 o)
  obtain ⟨bss, hs⟩ := OpenB.open_batch (okWide_slice Try.underlying64 o1) h1
  exact walk W v xs hr u bss hs
end Go.Proofs.Ytealdpkgfmokpaa.ExMapBatch
