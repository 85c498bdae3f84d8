/-
  What is proved: the model's MapOf answers the plain map that a hidden map hides, in memory of its own (a contract for the walks).
-/
import Derived.Test.YtealdpkgfmokpaaRows
import Derived.Test.YtealdpkgfmokpaaMofP
import Derived.Test.YtealdpkgfmokpaaPutM
import Derived.Test.YtealdpkgfmokpaaVlW
import Derived.Deep.RegionHeld3
import Derived.Deep.RegionWith
namespace Go.Proofs.Ytealdpkgfmokpaa.MofS
open Go.ChangeShapes Go.WideShapes Go.ChangeAt Go.RowKit Go.Maps
open Sl (Sl Off)
open OpenSl (nc)
open Dev Orm LawE MapP MapOk MapW EntI EncP EokE MofP
set_option linter.unusedVariables false

set_option maxRecDepth 100000 in
set_option maxHeartbeats 3200000 in
theorem l11Map (w : World) (v : Value) (m : Em) (h : RdE w v m) (hok : EOk m) :
    Calls Try.prog 99 #[v] w fun e w' => ∃ x, e = .returned x ∧ Sl.Own w' w.heap.size 2 x (fo m.ks (fun i => OkP.vl m.o (i : Int)) 11).length (ec (fo m.ks (fun i => OkP.vl m.o (i : Int)) 11)) ∧ Below w.heap.size w w' := by
  have hkl := hok.len
  have HFF := Lib.hid (fun j (hj : j ≤ 11) => fo_facts (kd_of hok) (fun i => OkP.vl m.o (i : Int)) j (by omega))
  have HF0 := Lib.hid (show fo m.ks (fun i => OkP.vl m.o (i : Int)) 0 = [] from rfl)
  have HFS := Lib.hid (fun j => show fo m.ks (fun i => OkP.vl m.o (i : Int)) (j + 1) = if 0 < m.ks.getD j 0 then pu (fo m.ks (fun i => OkP.vl m.o (i : Int)) j) (m.ks.getD j 0) (OkP.vl m.o (j : Int)) else fo m.ks (fun i => OkP.vl m.o (i : Int)) j from rfl)
  obtain ⟨FO, eFO⟩ : ∃ FO, fo m.ks (fun i => OkP.vl m.o (i : Int)) = FO := ⟨_, rfl⟩
  rw [eFO] at HFF HFS HF0 ⊢
  clear eFO
  obtain ⟨k, p, s, b, rfl, h1, h2⟩ := h
  obtain ⟨U, e1, hb, hz, X⟩ := box4 w 77 k p s b
  obtain ⟨G, eG⟩ : ∃ G, w.heap.size = G := ⟨_, rfl⟩
  obtain ⟨U0, eU0, hb0, HM⟩ := PutM.empty_row U 117
  have HB0 := Lib.hid (hb.trans (hb0.mono hb.size))
  have HOE := Lib.hid ((es_own (xs := []) HM).base hb.size)
  obtain ⟨G0, eG0⟩ : ∃ G0, U.heap.size = G0 := ⟨_, rfl⟩
  rw [eG0] at HOE
  have HG := Lib.hid eG
  rw [eG] at X
  have HX := Lib.hid (X.below hb0)
  obtain ⟨ka, kc, rfl, k1, k2⟩ := h1.form
  unfold maxLen at k2
  have HK := Lib.hid h1
  have HT := Lib.hid h2
  rw [hkl] at k1 HK HX e1 ⊢
  clear h1 h2 hb hz hb0 HM X
  go_enter Try.func99, Try.ntmps99
  go_wp2
  clear e1 eG eU0 eG0
  go_loopw [3, 4] (fun mv iv wz => ∃ (j : Nat) (wr : World) (a : Option Addr) (n cap : Nat), wr = wz ∧ j ≤ 11 ∧ mv = .slice a n cap ∧ iv = .int .i64 j ∧ Hid (Sl.Own wr w.heap.size 2 (.slice a n cap) (FO j).length (ec (FO j)) ∧ n = (FO j).length ∧ Below w.heap.size w wr ∧ B4 wr G (.slice ka 11 kc) p s b)) (fun _ i _ => 11 - (Go.RowKit.intOf i).toNat)
  case atStart => exact ⟨0, _, _, _, _, rfl, by omega, rfl, rfl, Lib.hid ⟨by rw [HF0.out]; exact HOE.out, by rw [HF0.out]; rfl, HB0.out, HX.out⟩⟩
  case round =>
    obtain ⟨j, wr, a, n, cap, rfl, hj, rfl, rfl, HJ⟩ := hrel
    obtain ⟨c0, c1, c2, c3, _, _, _, _⟩ := HJ.out.2.2.2
    by_cases hlt : j < 11
    · obtain ⟨b1, o1, e1, hc⟩ := (HK.out.below HJ.out.2.2.1).at (by omega)
      subst e1
      have d0 := hc j (by omega)
      unfold nc at d0
      have HS := Lib.hid (HFS.out j)
      have HQ := Lib.hid (fun u (hu : Below wr.heap.size wr u) => And.intro (HJ.out.2.2.2.below hu) ((hu.cell (World.block_lt_of_cell? _ _ d0)).trans d0))
      clear hc
      generalize m.ks.getD j 0 = z at *
      have i0 : (0 : Int) ≤ (j : Int) := Int.natCast_nonneg _
      have i1 : (j : Int) < 11 := by omega
      have i2 : (j : Int) < ((11 : Nat) : Int) := by omega
      by_cases hz : 0 < z
      · have t1 : decide (z > 0) = true := decide_eq_true hz
        have t2 : z > 0 := hz
        have HE := Lib.hid (show FO (j + 1) = pu (FO j) z (OkP.vl m.o (j : Int)) by rw [HS.out, if_pos hz])
        have HV := Lib.hid (fun u (hu : Below wr.heap.size wr u) => VlW.l08Value u _ m.o (HT.out.below (HJ.out.2.2.1.trans (hu.mono HJ.out.2.2.1.size))) (j : Int))
        have HP := Lib.hid (fun u y (hu : Below wr.heap.size wr u) => PutM.l10Put u (.slice a n cap) (FO j) (HJ.out.1.sl.below hu) (HFF.out j hj).1 (by have := (HFF.out j hj).2.2; omega) z y)
        generalize OkP.vl m.o (j : Int) = y at *
        go_wp2_with fail
        go_region_held3 (fun w' => w'.cell? ⟨G, 0, none⟩ = some (.slice (some ⟨b1, o1, none⟩) 11 kc) ∧ w'.cell? ⟨G, 1, none⟩ = some p ∧ w'.cell? ⟨G, 2, none⟩ = some s ∧ w'.cell? ⟨G, 3, none⟩ = some b ∧ w'.cell? ⟨b1, o1 + j, none⟩ = some (.int .i64 z))
          (first | exact ⟨c0, c1, c2, c3, d0⟩ | exact ⟨e20, e21, e22, e23, e24⟩ | exact ⟨e10, e11, e12, e13, e14⟩)
          (first
            | (go_at_call 136; refine (HV.out _ (below_drewN (Below.refl wr.heap.size wr) _)).mono ?_; rintro e y1 ⟨rfl, hb⟩; have HEY : Hid (Below wr.heap.size wr y1) := Lib.hid ⟨hb.os, hb.tape, hb.output, hb.size, hb.block⟩; obtain ⟨⟨e10, e11, e12, e13, _, _, _, _⟩, e14⟩ := HQ.out y1 HEY.out; clear hb)
            | (go_at_call 135; refine (HP.out _ _ (by first | exact HEY.out | exact below_drewN HEY.out _)).mono ?_; rintro e z1 ⟨r, rfl, hrow, hb⟩; have HEZ := Lib.hid (HEY.out.trans (hb.mono HEY.out.size)); obtain ⟨a', cap', rfl⟩ := MapI.row_form hrow; have HR := Lib.hid hrow; obtain ⟨⟨e20, e21, e22, e23, _, _, _, _⟩, e24⟩ := HQ.out z1 HEZ.out; have HBZ := Lib.hid (show y1.heap.size ≤ z1.heap.size from hb.size); clear hrow hb))
        have HNX := Lib.hid (show Sl.Own z1 w.heap.size 2 (.slice a' (pu (FO j) z y).length cap') (pu (FO j) z y).length (ec (pu (FO j) z y)) from (es_own HR.out).base (by have := HJ.out.2.2.1.size; have := HEY.out.size; omega))
        have HB2 := Lib.hid (HJ.out.2.2.1.trans (HEZ.out.mono HJ.out.2.2.1.size))
        have HX2 := Lib.hid (HJ.out.2.2.2.below HEZ.out)
        go_wp2
        go_roundw
        case rel => exact ⟨j + 1, _, a', _, cap', rfl, by omega, rfl, by go_num, Lib.hid ⟨by rw [HE.out]; exact HNX.out, by rw [HE.out], HB2.out, HX2.out⟩⟩
        case measure => simp [Go.RowKit.intOf]; omega
      · have t1 : decide (z > 0) = false := decide_eq_false hz
        have t2 : ¬ z > 0 := hz
        have HE := Lib.hid (show FO (j + 1) = FO j by rw [HS.out, if_neg hz])
        go_wp2
        go_roundw
        case rel => exact ⟨j + 1, _, a, n, cap, rfl, by omega, rfl, by go_num, Lib.hid (by rw [HE.out]; exact HJ.out)⟩
        case measure => simp [Go.RowKit.intOf]; omega
    · have HE := Lib.hid (show j = 11 by omega)
      have HO := Lib.hid (show Sl.Own wr w.heap.size 2 (.slice a n cap) (FO 11).length (ec (FO 11)) from HE.out ▸ HJ.out.1)
      go_wp2
      go_ret
      exact ⟨_, rfl, HO.out, HJ.out.2.2.1⟩

set_option maxRecDepth 100000 in
set_option maxHeartbeats 3200000 in
theorem spec (w : World) (v : Value) (m : Em) (h : RdE w v m) (q : Bool) (hq : q = true ↔ EOk m) :
    Calls Try.prog 54 #[v] w fun e w' => ∃ x, e = .returned (.tuple #[x, .int .i64 (mc q)]) ∧ Sl.Own w' w.heap.size 2 x (mo m q).length (ec (mo m q)) ∧ Below w.heap.size w w' := by
  have HRD := Lib.hid h
  obtain ⟨k, p, s, b, rfl, _, _⟩ := h
  obtain ⟨U, e1, hb, hz, X⟩ := box4 w 77 k p s b
  obtain ⟨G, eG⟩ : ∃ G, w.heap.size = G := ⟨_, rfl⟩
  have HB := Lib.hid hb
  have HG := Lib.hid eG
  have HE := Lib.hid (EokE.spec U _ m (HRD.out.below hb) q hq)
  rw [eG] at X
  have HX := Lib.hid X
  obtain ⟨c0, c1, c2, c3, _, _, _, _⟩ := X
  cases q with
  | false =>
    clear hb hz hq
    go_enter Try.func54, Try.ntmps54
    go_wp2_with fail
    clear e1 eG
    refine HE.out.mono ?_
    rintro e w1 ⟨rfl, hb⟩
    have HB1 := Lib.hid (HB.out.trans (hb.mono HB.out.size))
    obtain ⟨U0, eU0, hb0, HM⟩ := PutM.empty_row w1 117
    obtain ⟨G0, eG0⟩ : ∃ G0, w1.heap.size = G0 := ⟨_, rfl⟩
    have HOE := Lib.hid ((es_own (xs := []) HM).base HB1.out.size)
    have HB2 := Lib.hid (HB1.out.trans (hb0.mono HB1.out.size))
    rw [eG0] at HOE
    clear hb hb0 HM
    go_wp2
    go_ret2
    exact ⟨_, rfl, HOE.out, HB2.out⟩
  | true =>
    have HM := Lib.hid (fun u x (hx : RdE u x m) => l11Map u x m hx (hq.1 rfl))
    have HMO := Lib.hid (show mo m true = fo m.ks (fun i => OkP.vl m.o (i : Int)) 11 by unfold mo; rw [if_pos rfl])
    rw [HMO.out]
    clear hb hz hq HMO
    go_enter Try.func54, Try.ntmps54
    go_wp2_with fail
    clear e1 eG
    refine HE.out.mono ?_
    rintro e w1 ⟨rfl, hb⟩
    have HB1 := Lib.hid (HB.out.trans (hb.mono HB.out.size))
    have HX1 := Lib.hid (HX.out.below hb)
    clear hb c0 c1 c2 c3
    obtain ⟨c0, c1, c2, c3, _, _, _, _⟩ := HX1.out
    go_wp2_with fail
    refine (HM.out _ _ (HRD.out.below HB1.out)).mono ?_
    rintro e w2 ⟨r, rfl, ho, hb⟩
    have HB2 := Lib.hid (HB1.out.trans (hb.mono HB1.out.size))
    have HO := Lib.hid (ho.base HB1.out.size)
    clear hb ho
    go_wp2
    go_ret2
    exact ⟨_, rfl, HO.out, HB2.out⟩
end Go.Proofs.Ytealdpkgfmokpaa.MofS
