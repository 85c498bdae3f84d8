/-
  What is proved: the exact law on MapDo returns true (the walk).
-/
import Derived.Test.YtifkihjjkomfiaaRows
import Derived.Test.YtifkihjjkomfiaaDoAs
import Derived.Test.YtifkihjjkomfiaaHeldN
import Derived.Test.YtifkihjjkomfiaaOpenB
import Derived.Deep.RegionHeld3
import Derived.Deep.RegionWith
import Derived.Deep.CutRange
namespace Go.Proofs.Ytifkihjjkomfiaa.ExMapDo
open Go.ChangeShapes Go.WideShapes Go.ChangeAt Go.RowKit
open Sl (Sl Own Off)
open OpenSl (nc)
open Dev Orm LawE MapP MapOk MapOkS MapD MapW MapGet DoA DoAs
open OpB (Ok)
set_option linter.unusedVariables false

theorem bt {w u w' : World} (h1 : Below w.heap.size w u) (h2 : Below u.heap.size u w') : Below w.heap.size w w' := h1.trans (h2.mono h1.size)
theorem toOp (x y z : Int) (w : World) :
    Calls Try.prog 31 #[.agg #[.int .i64 x, .int .i64 y, .int .i64 z]] w fun e w' => e = .returned (.agg #[.int .i64 x, .int .i64 y, .int .i64 z]) ∧ Below w.heap.size w w' := by
  go_enter Try.func31, Try.ntmps31
  go_wp2
  refine bodyPost_ret (v := .agg #[.int .i64 x, .int .i64 y, .int .i64 z]) (by simp [results, Try.results31, go_sem]) rfl ⟨rfl, ?_⟩
  repeat (first | exact Below.refl _ _ | refine Below.alloc ?_ (by simp; try omega) _ | refine Below.setCell ?_ (by simp; try omega) _)
/-- The law's values share nothing. -/
structure Ap (lo bx bg G : Nat) (v x9 g0 g1 u6 u7 : Value) : Prop where
  lx : lo ≤ bx
  lg : lo ≤ bg
  gl : G < lo
  vx : Apart v x9
  v0 : Apart v g0
  v1 : Apart v g1
  ux : Apart u6 x9
  u0 : Apart u6 g0
  u1 : Apart u6 g1
  tx : Apart u7 x9
  t0 : Apart u7 g0
  t1 : Apart u7 g1
  x0 : Apart x9 g0
  x1 : Apart x9 g1
  gg : Apart g0 g1
/-- What of them stands in a world. -/
structure Al (U : World) (bx bg G : Nat) (v x9 g0 g1 u6 u7 : Value) (k z y : Int) (xs AX : List En) (AV : List Int) (cX c0 c1 : Nat → Value) (w : World) : Prop where
  bel : Below U.heap.size U w
  w0 : Sl w 2 u6 AX.length (ec AX)
  w1 : Sl w 1 u7 AV.length (nc AV)
  x : Own w bx 2 x9 xs.length cX
  g0 : Own w bg 2 g0 AX.length c0
  g1 : Own w bg 1 g1 AV.length c1
  vv : Sl w 2 v xs.length (ec xs)
  box : Box3.Bx w G (.int .i64 k) (.int .i64 z) (.int .i64 y)
section
variable {U w w' : World} {bx bg G : Nat} {v x9 g0 g1 u6 u7 : Value} {k z y : Int} {xs AX : List En} {AV : List Int} {cX c0 c1 c' : Nat → Value}
theorem Al.below (h : Al U bx bg G v x9 g0 g1 u6 u7 k z y xs AX AV cX c0 c1 w) (hb : Below w.heap.size w w') : Al U bx bg G v x9 g0 g1 u6 u7 k z y xs AX AV cX c0 c1 w' :=
  ⟨bt h.bel hb, h.w0.below hb, h.w1.below hb, h.x.below hb, h.g0.below hb, h.g1.below hb, h.vv.below hb, h.box.below hb⟩
theorem one {u x : Value} (h : Apart u x) : ∀ a ∈ [x], Apart u a := fun a ha => by have e : a = x := (by simpa using ha); rw [e]; exact h
theorem Al.turnX (h : Al U bx bg G v x9 g0 g1 u6 u7 k z y xs AX AV cX c0 c1 w) (p : Ap U.heap.size bx bg G v x9 g0 g1 u6 u7) (ht : Turns [x9] w w') (ho : Own w' bx 2 x9 xs.length c') : Al U bx bg G v x9 g0 g1 u6 u7 k z y xs AX AV c' c0 c1 w' :=
  have low : ∀ i, i < U.heap.size → Off x9 i := fun i hi => own_low ho i (Nat.lt_of_lt_of_le hi p.lx)
  ⟨h.bel.trans (ht.below h.bel.size (fun a ha i hi => by have e : a = x9 := (by simpa using ha); rw [e]; exact low i hi)), sl_turns h.w0 ht (one p.ux), sl_turns h.w1 ht (one p.tx), ho, own_turns h.g0 ht (one p.x0.symm), own_turns h.g1 ht (one p.x1.symm), sl_turns h.vv ht (one p.vx), h.box.turns ht (fun a ha => by have e : a = x9 := (by simpa using ha); rw [e]; exact low G p.gl)⟩
theorem Al.turn0 (h : Al U bx bg G v x9 g0 g1 u6 u7 k z y xs AX AV cX c0 c1 w) (p : Ap U.heap.size bx bg G v x9 g0 g1 u6 u7) (ht : Turns [g0] w w') (ho : Own w' bg 2 g0 AX.length c') : Al U bx bg G v x9 g0 g1 u6 u7 k z y xs AX AV cX c' c1 w' :=
  have low : ∀ i, i < U.heap.size → Off g0 i := fun i hi => own_low ho i (Nat.lt_of_lt_of_le hi p.lg)
  ⟨h.bel.trans (ht.below h.bel.size (fun a ha i hi => by have e : a = g0 := (by simpa using ha); rw [e]; exact low i hi)), sl_turns h.w0 ht (one p.u0), sl_turns h.w1 ht (one p.t0), own_turns h.x ht (one p.x0), ho, own_turns h.g1 ht (one p.gg.symm), sl_turns h.vv ht (one p.v0), h.box.turns ht (fun a ha => by have e : a = g0 := (by simpa using ha); rw [e]; exact low G p.gl)⟩
theorem Al.turn1 (h : Al U bx bg G v x9 g0 g1 u6 u7 k z y xs AX AV cX c0 c1 w) (p : Ap U.heap.size bx bg G v x9 g0 g1 u6 u7) (ht : Turns [g1] w w') (ho : Own w' bg 1 g1 AV.length c') : Al U bx bg G v x9 g0 g1 u6 u7 k z y xs AX AV cX c0 c' w' :=
  have low : ∀ i, i < U.heap.size → Off g1 i := fun i hi => own_low ho i (Nat.lt_of_lt_of_le hi p.lg)
  ⟨h.bel.trans (ht.below h.bel.size (fun a ha i hi => by have e : a = g1 := (by simpa using ha); rw [e]; exact low i hi)), sl_turns h.w0 ht (one p.u1), sl_turns h.w1 ht (one p.t1), own_turns h.x ht (one p.x1), own_turns h.g0 ht (one p.gg), ho, sl_turns h.vv ht (one p.v1), h.box.turns ht (fun a ha => by have e : a = g1 := (by simpa using ha); rw [e]; exact low G p.gl)⟩
end
theorem ax_len (xs : List En) (o : Bk) : (ax xs o).length ≤ 11 := by
  unfold ax
  split
  · rename_i h
    exact (dx_ok h.1 h.2).1
  · simp
theorem av_len (xs : List En) (o : Bk) : (av xs o).length ≤ 8 := by
  unfold av
  split
  · rename_i h
    exact dv_len xs h.2
  · simp

set_option maxRecDepth 100000 in
set_option maxHeartbeats 6400000 in
theorem walk (w : World) (v : Value) (xs : List En) (h : Sl w 2 v xs.length (ec xs)) (k z y : Int) : Calls Try.prog 8 #[v, .agg #[.int .i64 k, .int .i64 z, .int .i64 y]] w fun e w' => e = .returned (.bool true) ∧ Below w.heap.size w w' := by
  have HS := Lib.hid (fun u x (hx : Sl u 2 x xs.length (ec xs)) => specDo u x xs hx k z y)
  have HI := Lib.hid (fun u x (hx : Sl u 2 x xs.length (ec xs)) => implDo u x xs hx k z y)
  have HA11 := Lib.hid (ax_len xs (k, z, y))
  have HA8 := Lib.hid (av_len xs (k, z, y))
  generalize ax xs (k, z, y) = AX at *
  generalize av xs (k, z, y) = AV at *
  generalize ac xs (k, z, y) = CC at *
  have b1 : (CC != CC) = false := by simp
  obtain ⟨U, e1, hb, hsz, X⟩ := Box3.box3 w 59 (.int .i64 k) (.int .i64 z) (.int .i64 y)
  obtain ⟨G, eG⟩ : ∃ G, w.heap.size = G := ⟨_, rfl⟩
  rw [eG] at X
  have HB := Lib.hid hb
  have HV0 := Lib.hid h
  have HV := Lib.hid (h.below hb)
  have HX := Lib.hid X
  have HGU := Lib.hid (show G < U.heap.size from X.lt)
  have HSW := Lib.hid hb.size
  have HEG := Lib.hid eG
  obtain ⟨a, cap, rfl, _, _⟩ := h.form
  obtain ⟨x0, x1, x2, _, _, _⟩ := X
  clear h hb hsz
  go_enter Try.func8, Try.ntmps8
  go_wp2_with fail
  clear e1 eG
  refine (szEntryS U _ xs HV.out 1048576 (by omega)).mono ?_
  rintro e w1 ⟨⟨r, rfl, hr⟩, hu⟩
  have hu2 := hu.symm
  subst hu2
  rcases hr with rfl | ⟨R, rfl, hR⟩
  · go_wp2_with fail
    go_ret
    exact ⟨rfl, HB.out⟩
  have HL := Lib.hid (show xs.length ≤ 1048576 by omega)
  clear hR hu
  have HVU := Lib.hid (fun (u : World) (hu : Below U.heap.size U u) => HV.out.below hu)
  go_upto_region 5 with (fail)
  go_cut [6, 7, 8] from 24 to 32 (fun r6 r7 r8 wx => r8 = .int .i64 CC ∧ Hid (Sl wx 2 r6 AX.length (ec AX) ∧ Sl wx 1 r7 AV.length (nc AV)) ∧ Hid (Below U.heap.size U wx))
  case first =>
    have HCL := Lib.hid (fun (u : World) (hu : Below U.heap.size U u) => HX.out.below hu)
    go_region_held3 (fun w' => w'.cell? ⟨G, 0, none⟩ = some (.int .i64 k) ∧ w'.cell? ⟨G, 1, none⟩ = some (.int .i64 z) ∧ w'.cell? ⟨G, 2, none⟩ = some (.int .i64 y))
      (first | exact ⟨x0, x1, x2⟩ | exact ⟨f0, f1, f2⟩ | exact ⟨g0, g1, g2⟩ | exact ⟨h0, h1, h2⟩)
      (first
        | (go_at_call 27; refine (toEntryS _ _ xs (HVU.out _ (by repeat (with_reducible (first | exact Below.refl _ _ | exact HEY.out | exact HEZ.out | refine Below.drew ?_ | refine below_drewN ?_ _)))) HL.out).mono ?_; rintro e y1 ⟨r1, rfl, ho, hb⟩; have HEY : Hid (Below U.heap.size U y1) := Lib.hid (bt (by repeat (with_reducible (first | exact Below.refl _ _ | exact HEY.out | exact HEZ.out | refine Below.drew ?_ | refine below_drewN ?_ _))) hb); have HN1 := Lib.hid ho.sl; obtain ⟨f0, f1, f2, _, _, _⟩ := HCL.out _ HEY.out; clear hb ho)
        | (go_at_call 31; refine (toOp k z y _).mono ?_; rintro e y2 ⟨rfl, hb⟩; have HEZ : Hid (Below U.heap.size U y2) := Lib.hid (bt (by repeat (with_reducible (first | exact Below.refl _ _ | exact HEY.out | exact HEZ.out | refine Below.drew ?_ | refine below_drewN ?_ _))) hb); have HFZ := Lib.hid hb; obtain ⟨g0, g1, g2, _, _, _⟩ := HCL.out _ HEZ.out; clear hb)
        | (go_at_call 30; refine (HS.out _ _ (by first | exact HN1.out | exact HN1.out.below HFZ.out)).mono ?_; rintro e y3 ⟨⟨r6, r7, rfl, hq⟩, hb⟩; have HEW : Hid (Below U.heap.size U y3) := Lib.hid (bt (by repeat (with_reducible (first | exact Below.refl _ _ | exact HEY.out | exact HEZ.out | refine Below.drew ?_ | refine below_drewN ?_ _))) hb); have HQ := Lib.hid hq; obtain ⟨h0, h1, h2, _, _, _⟩ := HCL.out _ HEW.out; clear hb hq))
    all_goals
      go_wp2_with fail
      go_meet
      exact ⟨rfl, Lib.hid ⟨HQ.out.1, HQ.out.2⟩, HEW⟩
  case rest =>
  obtain ⟨rfl, HQ, HBC⟩ := hcut
  go_wp2_with fail
  refine (toEntryS _ _ xs (HVU.out _ HBC.out) HL.out).mono ?_
  rintro e w6 ⟨x9, rfl, hx9, hb⟩
  have HB6 := Lib.hid (bt HBC.out hb)
  have HX9 := Lib.hid hx9
  have HQ6 := Lib.hid (And.intro (HQ.out.1.below hb) (HQ.out.2.below hb))
  have HAX := Lib.hid (And.intro (apart_of HQ.out.1 (by decide) hx9 (Nat.le_refl _)) (And.intro (apart_of HQ.out.2 (by decide) hx9 (Nat.le_refl _)) (apart_of HV.out (by decide) hx9 HBC.out.size)))
  have HCS := Lib.hid HBC.out.size
  clear hb hx9 x0 x1 x2
  obtain ⟨x0, x1, x2, _, _, _⟩ := HX.out.below HB6.out
  go_wp2_with fail
  refine (toOp k z y _).mono ?_
  rintro e w7 ⟨rfl, hb⟩
  have HB7 := Lib.hid (bt HB6.out hb)
  have HX7 := Lib.hid (HX9.out.below hb)
  have HQ7 := Lib.hid (And.intro (HQ6.out.1.below hb) (HQ6.out.2.below hb))
  clear hb x0 x1 x2
  go_wp2_with fail
  refine (HI.out _ _ HX7.out.sl).mono ?_
  rintro e w8 ⟨⟨g0, g1, rfl, hq⟩, hb⟩
  have HA8x := Lib.hid (show Al U wc.heap.size w7.heap.size G (.slice a xs.length cap) x9 g0 g1 u6 u7 k z y xs AX AV (ec xs) (ec AX) (nc AV) w8 from
    ⟨bt HB7.out hb, HQ7.out.1.below hb, HQ7.out.2.below hb, HX7.out.below hb, hq.out.1, hq.out.2.1, HVU.out _ (bt HB7.out hb), HX.out.below (bt HB7.out hb)⟩)
  have HAP := Lib.hid (show Ap U.heap.size wc.heap.size w7.heap.size G (.slice a xs.length cap) x9 g0 g1 u6 u7 from
    ⟨HCS.out, HB7.out.size, HGU.out, HAX.out.2.2, apart_of HV.out (by decide) hq.out.1 HB7.out.size, apart_of HV.out (by decide) hq.out.2.1 HB7.out.size,
     HAX.out.1, apart_of HQ7.out.1 (by decide) hq.out.1 (Nat.le_refl _), apart_of HQ7.out.1 (by decide) hq.out.2.1 (Nat.le_refl _),
     HAX.out.2.1, apart_of HQ7.out.2 (by decide) hq.out.1 (Nat.le_refl _), apart_of HQ7.out.2 (by decide) hq.out.2.1 (Nat.le_refl _),
     apart_of HX7.out.sl (by decide) hq.out.1 (Nat.le_refl _), apart_of HX7.out.sl (by decide) hq.out.2.1 (Nat.le_refl _), hq.out.2.2⟩)
  obtain ⟨bx, ebx⟩ : ∃ b, wc.heap.size = b := ⟨_, rfl⟩
  obtain ⟨bg, ebg⟩ : ∃ b, w7.heap.size = b := ⟨_, rfl⟩
  rw [ebx, ebg] at HA8x HAP
  clear ebx ebg hq hb HQ7 HX7 HB7 HQ6 HX9 HB6 HAX HCS HQ HBC
  obtain ⟨MX, eMX⟩ : ∃ M, 1 + xs.length * 2 = M := ⟨_, rfl⟩
  obtain ⟨M0, eM0⟩ : ∃ M, 1 + AX.length * 2 = M := ⟨_, rfl⟩
  obtain ⟨M1, eM1⟩ : ∃ M, M0 + AV.length = M := ⟨_, rfl⟩
  have HMX := Lib.hid (fun u c (hh : Own u bx 2 x9 xs.length c) => markEntryS u bx x9 xs.length c hh 1 (by have := HL.out; omega))
  have HM0 := Lib.hid (fun u c (hh : Own u bg 2 g0 AX.length c) => markEntryS u bg g0 AX.length c hh 1 (by have := HA11.out; omega))
  have HM1 := Lib.hid (fun u c (hh : Own u bg 1 g1 AV.length c) => LawN.markIntS u bg g1 AV.length c hh M0 (by have := HA11.out; have := HA8.out; omega))
  have HH0 := Lib.hid (fun u (hh : Sl u 2 g0 AX.length (LawN.mi 1)) => heldEntryS u g0 AX.length 1 hh (by have := HA11.out; omega))
  have HH1 := Lib.hid (fun u (hh : Sl u 1 g1 AV.length (LawN.mi M0)) => HeldN.heldIntS u g1 AV.length M0 hh (by have := HA11.out; have := HA8.out; omega))
  rw [eMX] at HMX
  rw [eM0] at HM0 HH0
  rw [eM1] at HM1 HH1
  have dX : ¬ (MX : Int) < 0 := by omega
  have d0 : ¬ (M0 : Int) < 0 := by omega
  have d1 : ¬ (M1 : Int) < 0 := by omega
  have b2 : ((M1 : Int) != (M1 : Int)) = false := by simp
  clear eMX eM0 eM1
  go_wp2_with fail
  refine (eqEntryS _ _ _ AX HA8x.out.g0.sl HA8x.out.w0).mono ?_
  rintro e w9 ⟨rfl, hb⟩
  have HA9 := Lib.hid (HA8x.out.below hb)
  clear hb
  go_wp2_with fail
  refine (LawN.eqIntS _ _ _ AV HA9.out.g1.sl HA9.out.w1).mono ?_
  rintro e wa ⟨rfl, hb⟩
  have HAa := Lib.hid (HA9.out.below hb)
  clear hb
  go_wp2_with fail
  refine (toEntryS _ _ xs HAa.out.vv HL.out).mono ?_
  rintro e wb ⟨rb, rfl, hrb, hb⟩
  have HAb := Lib.hid (HAa.out.below hb)
  have HRB := Lib.hid hrb.sl
  clear hb hrb
  go_wp2_with fail
  refine (eqEntryS _ _ _ xs HAb.out.x.sl HRB.out).mono ?_
  rintro e wd ⟨rfl, hb⟩
  have HAd := Lib.hid (HAb.out.below hb)
  clear hb
  go_wp2_with fail
  refine (HMX.out _ _ HAd.out.x).mono ?_
  rintro e we ⟨rfl, ho, ht⟩
  have HAe := Lib.hid (HAd.out.turnX HAP.out ht ho)
  clear ho ht
  go_wp2_with fail
  refine (eqEntryS _ _ _ AX HAe.out.g0.sl HAe.out.w0).mono ?_
  rintro e wf ⟨rfl, hb⟩
  have HAf := Lib.hid (HAe.out.below hb)
  clear hb
  go_wp2_with fail
  refine (LawN.eqIntS _ _ _ AV HAf.out.g1.sl HAf.out.w1).mono ?_
  rintro e wg ⟨rfl, hb⟩
  have HAg := Lib.hid (HAf.out.below hb)
  clear hb
  go_wp2_with fail
  refine (HM0.out _ _ HAg.out.g0).mono ?_
  rintro e wh ⟨rfl, ho, ht⟩
  have HAh := Lib.hid (HAg.out.turn0 HAP.out ht ho)
  clear ho ht
  go_wp2_with fail
  refine (HM1.out _ _ HAh.out.g1).mono ?_
  rintro e wi ⟨rfl, ho, ht⟩
  have HAi := Lib.hid (HAh.out.turn1 HAP.out ht ho)
  clear ho ht
  go_wp2_with fail
  refine (HH0.out _ HAi.out.g0.sl).mono ?_
  rintro e wj ⟨rfl, hu⟩
  have hu2 := hu.symm
  subst hu2
  clear hu
  go_wp2_with fail
  refine (HH1.out _ HAi.out.g1.sl).mono ?_
  rintro e wk ⟨rfl, hb⟩
  have HAk := Lib.hid (HAi.out.below hb)
  have HVK := Lib.hid (fun (u : World) (hu : Below wk.heap.size wk u) => HAk.out.vv.below hu)
  have HXK := Lib.hid HAk.out.box
  clear hb
  obtain ⟨x0, x1, x2, _, _, _⟩ := HXK.out
  go_upto_region 28 with (fail)
  go_cut [16, 17, 18] from 104 to 112 (fun r6 r7 r8 wx => r8 = .int .i64 CC ∧ Hid (Sl wx 2 r6 AX.length (ec AX) ∧ Sl wx 1 r7 AV.length (nc AV)) ∧ Hid (Below wk.heap.size wk wx))
  case first =>
    have HCL := Lib.hid (fun (u : World) (hu : Below wk.heap.size wk u) => HXK.out.below hu)
    go_region_held3 (fun w' => w'.cell? ⟨G, 0, none⟩ = some (.int .i64 k) ∧ w'.cell? ⟨G, 1, none⟩ = some (.int .i64 z) ∧ w'.cell? ⟨G, 2, none⟩ = some (.int .i64 y))
      (first | exact ⟨x0, x1, x2⟩ | exact ⟨f0, f1, f2⟩ | exact ⟨g0, g1, g2⟩ | exact ⟨h0, h1, h2⟩)
      (first
        | (go_at_call 27; refine (toEntryS _ _ xs (HVK.out _ (by repeat (with_reducible (first | exact Below.refl _ _ | exact HEY.out | exact HEZ.out | refine Below.drew ?_ | refine below_drewN ?_ _)))) HL.out).mono ?_; rintro e y1 ⟨r1, rfl, ho, hb⟩; have HEY : Hid (Below wk.heap.size wk y1) := Lib.hid (bt (by repeat (with_reducible (first | exact Below.refl _ _ | exact HEY.out | exact HEZ.out | refine Below.drew ?_ | refine below_drewN ?_ _))) hb); have HN1 := Lib.hid ho.sl; obtain ⟨f0, f1, f2, _, _, _⟩ := HCL.out _ HEY.out; clear hb ho)
        | (go_at_call 31; refine (toOp k z y _).mono ?_; rintro e y2 ⟨rfl, hb⟩; have HEZ : Hid (Below wk.heap.size wk y2) := Lib.hid (bt (by repeat (with_reducible (first | exact Below.refl _ _ | exact HEY.out | exact HEZ.out | refine Below.drew ?_ | refine below_drewN ?_ _))) hb); have HFZ := Lib.hid hb; obtain ⟨g0, g1, g2, _, _, _⟩ := HCL.out _ HEZ.out; clear hb)
        | (go_at_call 13; refine (HI.out _ _ (by first | exact HN1.out | exact HN1.out.below HFZ.out)).mono ?_; rintro e y3 ⟨⟨r6, r7, rfl, hq⟩, hb⟩; have HEW : Hid (Below wk.heap.size wk y3) := Lib.hid (bt (by repeat (with_reducible (first | exact Below.refl _ _ | exact HEY.out | exact HEZ.out | refine Below.drew ?_ | refine below_drewN ?_ _))) hb); have HQ := Lib.hid hq; obtain ⟨h0, h1, h2, _, _, _⟩ := HCL.out _ HEW.out; clear hb hq))
    all_goals
      go_wp2_with fail
      go_meet
      exact ⟨rfl, Lib.hid ⟨HQ.out.1.sl, HQ.out.2.1.sl⟩, HEW⟩
  case rest =>
  obtain ⟨rfl, HQ2, HBC⟩ := hcut
  have HAl := Lib.hid (HAk.out.below HBC.out)
  clear HBC HAk HVK HXK x0 x1 x2
  go_wp2_with fail
  refine (eqEntryS _ _ _ AX HQ2.out.1 HAl.out.w0).mono ?_
  rintro e wm ⟨rfl, hb⟩
  have HAm := Lib.hid (HAl.out.below hb)
  have HQm := Lib.hid (HQ2.out.2.below hb)
  clear hb
  go_wp2_with fail
  refine (LawN.eqIntS _ _ _ AV HQm.out HAm.out.w1).mono ?_
  rintro e wn ⟨rfl, hb⟩
  have HAn := Lib.hid (HAm.out.below hb)
  clear hb
  go_wp2_with fail
  refine (HH0.out _ HAn.out.g0.sl).mono ?_
  rintro e wo ⟨rfl, hu⟩
  have hu2 := hu.symm
  subst hu2
  clear hu
  go_wp2_with fail
  refine (HH1.out _ HAn.out.g1.sl).mono ?_
  rintro e wp ⟨rfl, hb⟩
  have HBF := Lib.hid (bt (HAn.out.bel) hb)
  clear hb
  go_wp2_with fail
  go_ret
  exact ⟨rfl, HB.out.trans (HBF.out.mono HSW.out)⟩
set_option maxRecDepth 100000 in
theorem walk_any {H : Type} {enc : TypeId × Value → H} {W : World} {base base1 b0 b1 : Nat} {spare spare1 : Nat → Bool} {held held1 : Bool} {v u : Value} {d d1 : DataW H} {p p1 : List MemPlace}
    (o : Value.okWide Try.prog W .any b0 54 v) (h : DataW.Trod enc Try.prog W base spare held 54 v d p)
    (o1 : Value.okWide Try.prog W .any b1 59 u) (h1 : DataW.Trod enc Try.prog W base1 spare1 held1 59 u d1 p1) :
    Calls Try.prog 8 #[v, u] W fun e w' => e = .returned (.bool true) ∧ Below W.heap.size W w' := by
  obtain ⟨xs, hr, _⟩ := open_map h (okWide_slice Try.underlying54 o)
  obtain ⟨k, z, y, rfl⟩ := OpenB.open_op o1 h1
  exact walk W v xs hr k z y
end Go.Proofs.Ytifkihjjkomfiaa.ExMapDo
