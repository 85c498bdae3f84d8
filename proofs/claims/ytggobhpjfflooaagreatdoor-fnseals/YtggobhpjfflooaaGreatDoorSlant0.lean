/-
  What is proved: four quarter rounds of sixteen words of uint32, with slant 0, are the plain ones (contract for the walks).
-/
import Derived.Test.YtggobhpjfflooaaGreatDoorRows
import Derived.Test.YtggobhpjfflooaaGreatDoorKitA
import Derived.WalkSpells
import Derived.Deep.RegionHeld3
import Derived.Deep.CutRange
namespace Go.Proofs.YtggobhpjfflooaaGreatDoor.Slant0
open Go.ChangeShapes Go.WideShapes Go.ChangeAt Go.RowKit
open Quarter (Q4 qr agg4)
open Arr (Row)
open Cha
set_option linter.unusedVariables false

set_option maxRecDepth 100000 in
set_option maxHeartbeats 6400000 in
theorem slanted (V : List Nat) (hV : Ok V) (w : World) :
    Calls Tryz.prog 82 #[.agg (c32 V).toArray, .int .i64 0] w fun e' w' => e' = .returned (.agg (c32 (slant 0 V)).toArray) ∧ Below w.heap.size w w' := by
  have HV := Lib.hid hV
  have HRO := Lib.hid (fun k => runS_ok 0 hV k)
  have HR0 := Lib.hid (runS_zero 0 V)
  have HRS := Lib.hid (runS_succ 0 V)
  have HSL := Lib.hid (show slant 0 V = runS 0 V 4 from rfl)
  have HI := Lib.hid (infoUV hV)
  clear hV
  generalize runS 0 V = F at *
  generalize hys : c32 V = ys at *
  have HYS := Lib.hid hys
  clear hys
  go_enter Tryz.func82, Tryz.ntmps82
  go_wp2
  generalize hW : (w.alloc _).alloc _ = W
  obtain ⟨z1, hz1, R0, R1, HB, hsz⟩ : ∃ z1 : List Value, z1.length = 16 ∧ Row W w.heap.size 91 ys ∧ Row W (w.heap.size + 1) 91 z1 ∧ Below w.heap.size w W ∧ w.heap.size + 2 ≤ W.heap.size := by
    rw [← hW]
    refine ⟨_, ?_, (Arr.two_new w _ _ _ _).1, (Arr.two_new w _ _ _ _).2.1, (Arr.two_new w _ _ _ _).2.2.1, (Arr.two_new w _ _ _ _).2.2.2⟩
    · rfl
  clear hW
  have Z1 := Lib.hid hz1
  have RR := Lib.hid (show Row W w.heap.size 91 (c32 (F 0)) ∧ Row W (w.heap.size + 1) 91 z1 ∧ Below w.heap.size w W ∧ w.heap.size + 2 ≤ W.heap.size from ⟨by rw [HR0.out, HYS.out]; exact R0, R1, HB, hsz⟩)
  clear hz1 R0 R1 HB hsz
  go_loopw [10] (fun i wr => ∃ k : Nat, k ≤ 4 ∧ i = .int .i64 k ∧ Hid (Row wr w.heap.size 91 (c32 (F k)) ∧ Row wr (w.heap.size + 1) 91 z1 ∧ Below w.heap.size w wr ∧ w.heap.size + 2 ≤ wr.heap.size)) (fun i _ => 4 - (intOf i).toNat)
  case atStart => exact ⟨0, by omega, rfl, RR⟩
  case round =>
    rename_i wr
    clear RR
    obtain ⟨k, hk, rfl, HX⟩ := hrel
    by_cases hlt : k < 4
    · have hk4 : (k : Int) < 4 := by omega
      have hk0 : (0 : Int) ≤ (k : Int) := by omega
      obtain ⟨bi, ebi⟩ : ∃ b : Nat, 4 + (k + 0) % 4 = b := ⟨_, rfl⟩
      obtain ⟨ci, eci⟩ : ∃ b : Nat, 8 + (k + 2 * 0) % 4 = b := ⟨_, rfl⟩
      obtain ⟨di, edi⟩ : ∃ b : Nat, 12 + (k + 3 * 0) % 4 = b := ⟨_, rfl⟩
      have HNX := Lib.hid (show F (k + 1) = Cha.step (F k) k bi ci di by rw [HRS.out k, ebi, eci, edi])
      have hok := HRO.out k
      have ha := HX.out.1.cell k
      rw [c32_at _ _ (by rw [hok.len]; omega)] at ha
      have hb := HX.out.1.cell bi
      rw [c32_at _ _ (by rw [hok.len]; omega)] at hb
      have hc := HX.out.1.cell ci
      rw [c32_at _ _ (by rw [hok.len]; omega)] at hc
      have hd := HX.out.1.cell di
      rw [c32_at _ _ (by rw [hok.len]; omega)] at hd
      have HQ0 := Lib.hid (c32_step (F k) k bi ci di)
      have la := hok.getD k
      have lb := hok.getD bi
      have lc := hok.getD ci
      have ld := hok.getD di
      generalize (F k).getD k 0 = xa at *
      generalize (F k).getD bi 0 = xb at *
      generalize (F k).getD ci 0 = xc at *
      generalize (F k).getD di 0 = xd at *
      have HL := Lib.hid (show Q4.ok ⟨xa, xb, xc, xd⟩ from ⟨la, lb, lc, ld⟩)
      clear hok la lb lc ld
      have HQ := Lib.hid (HQ0.out (qr ⟨xa, xb, xc, xd⟩) rfl)
      clear HQ0
      have HQT := Lib.hid (fun u => Quarter.quarter ⟨xa, xb, xc, xd⟩ HL.out u)
      have hsz := HX.out.2.2.2
      have lw0 : w.heap.size < wr.heap.size := by omega
      have lw1 : w.heap.size < wr.heap.size + 1 := by omega
      generalize qr ⟨xa, xb, xc, xd⟩ = q at *
      unfold agg4 at HQT
      have r0 : (k : Int) < 16 := by omega
      have r1 : (bi : Int) < 16 := by omega
      have r2 : (ci : Int) < 16 := by omega
      have r3 : (di : Int) < 16 := by omega
      have s1 : (0 : Int) ≤ (bi : Int) := by omega
      have s2 : (0 : Int) ≤ (ci : Int) := by omega
      have s3 : (0 : Int) ≤ (di : Int) := by omega
      have n1 : k ≠ bi := by omega
      have n2 : k ≠ ci := by omega
      have n3 : k ≠ di := by omega
      have n4 : bi ≠ ci := by omega
      have n5 : bi ≠ di := by omega
      have n6 : ci ≠ di := by omega
      have EB := Lib.hid (show (4 : Int) + (k : Int) % 4 = (bi : Int) by omega)
      have EC := Lib.hid (show (8 : Int) + (k : Int) % 4 = (ci : Int) by omega)
      have ED := Lib.hid (show (12 : Int) + (k : Int) % 4 = (di : Int) by omega)
      clear ebi eci edi
      go_upto_region 5 with (fail)
      rw [EB.out, EC.out, ED.out]
      clear EB EC ED
      go_cut [9] from 11 to 60 (fun v9 wc => ∃ gg : Nat, v9 = .pointer (some ⟨gg, 0, none⟩) ∧ w.heap.size + 2 ≤ gg ∧ (wc.cell? ⟨gg, 0, none⟩ = some (.int .u32 (q.a : Int)) ∧ wc.cell? ⟨gg, 1, none⟩ = some (.int .u32 (q.b : Int)) ∧ wc.cell? ⟨gg, 2, none⟩ = some (.int .u32 (q.c : Int)) ∧ wc.cell? ⟨gg, 3, none⟩ = some (.int .u32 (q.d : Int))) ∧ Hid (Row wc w.heap.size 91 (c32 (F k)) ∧ Row wc (w.heap.size + 1) 91 z1 ∧ Below w.heap.size w wc ∧ w.heap.size + 2 ≤ wc.heap.size))
      case first =>
        go_region_held3 (fun w' => w'.cell? ⟨w.heap.size, k, none⟩ = some (.int .u32 (xa : Int)) ∧ w'.cell? ⟨w.heap.size, bi, none⟩ = some (.int .u32 (xb : Int)) ∧ w'.cell? ⟨w.heap.size, ci, none⟩ = some (.int .u32 (xc : Int)) ∧ w'.cell? ⟨w.heap.size, di, none⟩ = some (.int .u32 (xd : Int)))
          (first | exact ⟨ha, hb, hc, hd⟩ | (refine ⟨?_, ?_, ?_, ?_⟩ <;> go_simp))
          ((go_at_call 98; refine (HQT.out _).mono ?_; rintro e' w1 ⟨rfl, hb1⟩; obtain ⟨hc1, hf1⟩ := Quarter.bcell hb1; have hz1 := hb1.size; have HB1 := Lib.hid hb1; clear hb1; (try simp only [World.size_drew] at hc1 hf1 hz1); (try simp only [World.size_alloc] at hc1 hf1 hz1); have l5 : w.heap.size < w1.heap.size := (by omega)))
        all_goals
          go_wp2_with fail
          go_meet
          refine ⟨_, rfl, by omega, ⟨?_, ?_, ?_, ?_⟩, Lib.hid ⟨?_, ?_, ?_, ?_⟩⟩
          · go_simp
          · go_simp
          · go_simp
          · go_simp
          · first
              | exact (Row.below HX.out.1.drew HB1.out (show w.heap.size < wr.heap.size by omega)).alloc _
              | exact ((((Row.below (HX.out.1.alloc _).drew HB1.out (by simp; omega)).set_far _ _ _ (by omega)).set_far _ _ _ (by omega)).set_far _ _ _ (by omega)).set_far _ _ _ (by omega)
          · first
              | exact (Row.below HX.out.2.1.drew HB1.out (show w.heap.size + 1 < wr.heap.size by omega)).alloc _
              | exact ((((Row.below (HX.out.2.1.alloc _).drew HB1.out (by simp; omega)).set_far _ _ _ (by omega)).set_far _ _ _ (by omega)).set_far _ _ _ (by omega)).set_far _ _ _ (by omega)
          · first
              | exact (HX.out.2.2.1.drew.trans (HB1.out.mono (show w.heap.size ≤ wr.heap.size by omega))).alloc (by omega) _
              | exact (((((HX.out.2.2.1.alloc (by omega) _).drew.trans (HB1.out.mono (by simp; omega))).setCell (show w.heap.size ≤ wr.heap.size by omega) _).setCell (show w.heap.size ≤ wr.heap.size by omega) _).setCell (show w.heap.size ≤ wr.heap.size by omega) _).setCell (show w.heap.size ≤ wr.heap.size by omega) _
          · first
              | (simp; omega)
              | (simp; done)
      case rest =>
        clear ha hb hc hd HQT hsz lw0 lw1 HX
        obtain ⟨gg, rfl, hgg, ⟨c0, c1, c2, c3⟩, HW1⟩ := hcut
        have l1 : w.heap.size < gg := by omega
        have l2 : gg ≠ w.heap.size := by omega
        have l3 : w.heap.size ≠ gg := by omega
        have hlen := HRO.out k
        obtain ⟨va, ca⟩ : ∃ v, wc.cell? ⟨w.heap.size, k, none⟩ = some v := ⟨_, (HW1.out.1.cell k).trans (c32_at _ _ (by rw [hlen.len]; omega))⟩
        obtain ⟨vb, cb⟩ : ∃ v, wc.cell? ⟨w.heap.size, bi, none⟩ = some v := ⟨_, (HW1.out.1.cell bi).trans (c32_at _ _ (by rw [hlen.len]; omega))⟩
        obtain ⟨vc, cc⟩ : ∃ v, wc.cell? ⟨w.heap.size, ci, none⟩ = some v := ⟨_, (HW1.out.1.cell ci).trans (c32_at _ _ (by rw [hlen.len]; omega))⟩
        obtain ⟨vd, cd⟩ : ∃ v, wc.cell? ⟨w.heap.size, di, none⟩ = some v := ⟨_, (HW1.out.1.cell di).trans (c32_at _ _ (by rw [hlen.len]; omega))⟩
        have fa := HW1.out.1.frozen k
        have fb := HW1.out.1.frozen bi
        have fc := HW1.out.1.frozen ci
        have fd := HW1.out.1.frozen di
        clear hlen
        go_wp2
        go_region_held3 (fun w' => w'.cell? ⟨gg, 0, none⟩ = some (.int .u32 (q.a : Int)) ∧ w'.cell? ⟨gg, 1, none⟩ = some (.int .u32 (q.b : Int)) ∧ w'.cell? ⟨gg, 2, none⟩ = some (.int .u32 (q.c : Int)) ∧ w'.cell? ⟨gg, 3, none⟩ = some (.int .u32 (q.d : Int)))
          (first | exact ⟨c0, c1, c2, c3⟩ | (refine ⟨?_, ?_, ?_, ?_⟩ <;> go_simp)) ((fail))
        go_wp2
        go_roundw
        case rel =>
          refine ⟨k + 1, by omega, by go_num, Lib.hid ⟨?_, ?_, ?_, ?_⟩⟩
          · rw [HNX.out, ← HQ.out]
            exact ((((HW1.out.1.set k _).set bi _).set ci _).set di _).drew
          · exact ((((HW1.out.2.1.set_far _ _ _ (by omega)).set_far _ _ _ (by omega)).set_far _ _ _ (by omega)).set_far _ _ _ (by omega)).drew
          · exact (HW1.out.2.2.1.setCell (by exact Nat.le_refl _) _ |>.setCell (by exact Nat.le_refl _) _ |>.setCell (by exact Nat.le_refl _) _ |>.setCell (by exact Nat.le_refl _) _).drew
          · have := HW1.out.2.2.2
            simpa using this
        case measure => simp [intOf]; omega
    · obtain rfl : k = 4 := by omega
      have HK := HRO.out 4
      have HI4 := Lib.hid (infoUV HK)
      have H1 := Lib.hid (c32_one (F 4))
      have HRR := Lib.hid HX.out.1
      have HT := Lib.hid (show wr.there (w.heap.size + 1) 0 (c32 (F 4)).toArray.size by have := HX.out.2.1.there; rw [Z1.out] at this; rw [show (c32 (F 4)).toArray.size = 16 by rw [List.size_toArray, c32_len, HK.len]]; exact this)
      have HRES := Lib.hid (HX.out.2.1.sets_all (vs := c32 (F 4)) (by rw [c32_len, HK.len, Z1.out]))
      have HBF := Lib.hid (Arr.below_sets (B := w.heap.size) (a := w) (w.heap.size + 1) (by omega) (c32 (F 4)) 0 wr HX.out.2.2.1)
      clear HK HX
      generalize hus : c32 (F 4) = us at *
      have HUS := Lib.hid hus
      clear hus
      go_wp2_with (first
        | (refine wpList_load_row rfl 91 _ rfl w.heap.size rfl 91 _ (0, 0) _ HRR.out Tryz.underlying91 rfl HI4.out ?_)
        | (refine wpList_store_mid rfl 91 _ _ rfl (w.heap.size + 1) 0 us.toArray rfl rfl HT.out HI4.out H1.out ?_))
      refine bodyPost_ret (v := .agg us.toArray) ?_ rfl ⟨by rw [HSL.out, HUS.out], HBF.out⟩
      exact results_cell_row rfl _ _ (w.heap.size + 1) 91 _ (0, 0) _ rfl HRES.out Tryz.underlying91 rfl HI4.out
end Go.Proofs.YtggobhpjfflooaaGreatDoor.Slant0