/-
  What is proved: the program's folding of what is above 130 bits, and its sum of two numbers in five parts, are the plain ones (contracts for the walks).
-/
import Derived.Test.YtcfdnifllehbjaaDoorRows
import Derived.Test.YtcfdnifllehbjaaDoorCarried
namespace Go.Proofs.YtcfdnifllehbjaaDoor.Wrapped
open Go.ChangeShapes Go.WideShapes Go.ChangeAt Go.RowKit
open Arr (Row)
open Five Poly
set_option linter.unusedVariables false

set_option maxRecDepth 100000 in
set_option maxHeartbeats 1600000 in
theorem wrapped (v : Nat → Nat) (hv : Small v) (w : World) :
    Calls Tryd.prog 77 #[.agg (cn .u64 v).toArray] w fun e' w' => e' = .returned (.agg (cn .u64 (fo v)).toArray) ∧ Below w.heap.size w w' := by
  have HC := Lib.hid (Carried.carried v hv)
  have hov := ov_lt hv 5 (by omega)
  have hd0 := dg_lt v 0
  have HFO := Lib.hid (fun (x : Int) (hx : x = (fo v 0 : Int)) => cn_set .u64 (dg v) (fo v) 0 x (by omega) hx (fun j hj h0 => (fo_pos v j (by omega)).symm))
  have HF0 := Lib.hid (fo_zero v)
  have HA0 := Lib.hid (cn_at .u64 (dg v) 0 (by omega))
  have HI := Lib.hid (infoU v)
  have HID := Lib.hid (infoU (dg v))
  have HIF := Lib.hid (infoU (fo v))
  have HOD := Lib.hid (cn_one .u64 (dg v))
  have HOF := Lib.hid (cn_one .u64 (fo v))
  have HLN := Lib.hid (cn_len .u64 v)
  have HLD := Lib.hid (cn_len .u64 (dg v))
  have HLF := Lib.hid (cn_len .u64 (fo v))
  have HTH := Lib.hid (fun (w : World) g t xs (h : Row w g t xs) hl => there_row h hl .u64 (dg v))
  have HTF := Lib.hid (fun (w : World) g t xs (h : Row w g t xs) hl => there_row h hl .u64 (fo v))
  have HSD := Lib.hid (fun (w : World) g t xs (h : Row w g t xs) hl => sets_row h hl .u64 (dg v))
  have HSF := Lib.hid (fun (w : World) g t xs (h : Row w g t xs) hl => sets_row h hl .u64 (fo v))
  clear hv
  obtain ⟨s, es⟩ : ∃ s, dg v 0 + 5 * ov v 5 = s := ⟨_, rfl⟩
  have hsb : s < 18446744073709551616 := by omega
  obtain ⟨p, ep⟩ : ∃ p, 5 * ov v 5 = p := ⟨_, rfl⟩
  have hw0 : IntKind.u64.wrap (5 * (ov v 5 : Int)) = (p : Int) := by rw [← u64_wrap p (by omega), ← ep]; rfl
  have hw : IntKind.u64.wrap ((dg v 0 : Int) + (p : Int)) = (s : Int) := by rw [← u64_wrap s hsb, ← es, ← ep]; rfl
  rw [es] at HF0
  clear es ep
  generalize ov v 5 = o5 at *
  generalize dg v 0 = d0 at *
  generalize cn .u64 v = ys at *
  generalize cn .u64 (dg v) = ds at *
  generalize cn .u64 (fo v) = fs at *
  go_enter Tryd.func77, Tryd.ntmps77
  have HW := Lib.hid (Arr.two_new w ys.toArray)
  go_upto_region 1 with (fail)
  generalize hW : (w.alloc _).alloc _ = W
  obtain ⟨z1, hz1, R0, R1, HB, hsz⟩ : ∃ z1 : List Value, z1.length = 5 ∧ Row W w.heap.size 76 ys ∧ Row W (w.heap.size + 1) 76 z1 ∧ Below w.heap.size w W ∧ w.heap.size + 2 ≤ W.heap.size := by
    rw [← hW]
    exact ⟨_, rfl, HW.out _ _ _⟩
  clear hW HW
  have Z1 := Lib.hid hz1
  have HR0 := Lib.hid R0
  have HR1 := Lib.hid R1
  have HBB := Lib.hid HB
  clear hz1 R0 R1 HB
  go_wp2_with (((with_reducible show wpList _ _ _ _ _ _); refine wpList_load_row rfl 76 _ rfl w.heap.size rfl 76 _ (0, 0) _ HR0.out Tryd.underlying76 rfl HI.out ?_))
  refine (HC.out _).mono ?_
  rintro e' w1 ⟨rfl, hb⟩
  have HQ0 := Lib.hid (HR0.out.below hb (by omega))
  have HQ1 := Lib.hid (HR1.out.below hb (by omega))
  have HQB := Lib.hid (HBB.out.trans (hb.mono (by omega)))
  clear hb HR0 HR1 HBB
  have HT1 := Lib.hid (HTH.out _ _ _ _ HQ0.out HLN.out)
  have HS1 := Lib.hid (HSD.out _ _ _ _ HQ0.out HLN.out)
  have HS2 := Lib.hid (HQ1.out.sets_far (show w.heap.size + 1 ≠ w.heap.size by omega) ds 0 w1)
  have HSB := Lib.hid (Arr.below_sets (B := w.heap.size) (a := w) w.heap.size (Nat.le_refl _) ds 0 w1 HQB.out)
  clear HQ0 HQ1 HQB
  go_upto_region 2 with (((with_reducible show wpList _ _ _ _ _ _); refine wpList_store_mid rfl 76 _ _ rfl w.heap.size 0 ds.toArray rfl rfl HT1.out HID.out HOD.out ?_; simp only []))
  generalize w1.setCells w.heap.size 0 ds = W2 at *
  have c0 := HS1.out.cell 0
  rw [HA0.out] at c0
  have f0 := HS1.out.frozen 0
  go_upto_region 3 with (fail)
  have HX0 := Lib.hid (HS1.out.set 0 (.int .u64 (s : Int)))
  rw [HFO.out _ (by rw [HF0.out])] at HX0
  have HX1 := Lib.hid (HS2.out.set_far w.heap.size 0 (.int .u64 (s : Int)) (show w.heap.size + 1 ≠ w.heap.size by omega))
  have HXB := Lib.hid (HSB.out.setCell (p := ⟨w.heap.size, 0, none⟩) (Nat.le_refl _) (.int .u64 (s : Int)))
  clear HS1 HS2 HSB
  generalize W2.setCell ⟨w.heap.size, 0, none⟩ (.int .u64 (s : Int)) = W3 at *
  have HT := Lib.hid (HTF.out _ _ _ _ HX1.out Z1.out)
  have HRES := Lib.hid (HSF.out _ _ _ _ HX1.out Z1.out)
  have HBF := Lib.hid (Arr.below_sets (B := w.heap.size) (a := w) (w.heap.size + 1) (by omega) fs 0 W3 HXB.out)
  go_wp2_with (first
    | ((with_reducible show wpList _ _ _ _ _ _); refine wpList_load_row rfl 76 _ rfl w.heap.size rfl 76 _ (0, 0) _ HX0.out Tryd.underlying76 rfl HIF.out ?_)
    | ((with_reducible show wpList _ _ _ _ _ _); refine wpList_store_mid rfl 76 _ _ rfl (w.heap.size + 1) 0 fs.toArray rfl rfl HT.out HIF.out HOF.out ?_))
  refine bodyPost_ret (v := .agg fs.toArray) ?_ rfl ⟨rfl, HBF.out⟩
  exact results_cell_row rfl _ _ (w.heap.size + 1) 76 _ (0, 0) _ rfl HRES.out Tryd.underlying76 rfl HIF.out

set_option maxRecDepth 100000 in
set_option maxHeartbeats 1600000 in
theorem plus (a b : Nat → Nat) (hs : ∀ j, j < 5 → a j + b j < 18446744073709551616) (w : World) :
    Calls Tryd.prog 56 #[.agg (cn .u64 a).toArray, .agg (cn .u64 b).toArray] w fun e' w' => e' = .returned (.agg (cn .u64 fun j => a j + b j).toArray) ∧ Below w.heap.size w w' := by
  have HS := Lib.hid hs
  clear hs
  generalize hys : cn .u64 a = ys at *
  generalize hzs : cn .u64 b = zs at *
  have HYS := Lib.hid hys
  have HZS := Lib.hid hzs
  clear hys hzs
  go_enter Tryd.func56, Tryd.ntmps56
  have HW := Lib.hid (three_new w ys.toArray zs.toArray)
  go_wp2
  generalize hW : ((w.alloc _).alloc _).alloc _ = W
  obtain ⟨z1, hz1, R0, R1, R2, HB, hsz⟩ : ∃ z1 : List Value, z1.length = 5 ∧ Row W w.heap.size 76 ys ∧ Row W (w.heap.size + 1) 76 zs ∧ Row W (w.heap.size + 2) 76 z1 ∧ Below w.heap.size w W ∧ w.heap.size + 3 ≤ W.heap.size := by
    rw [← hW]
    exact ⟨_, rfl, HW.out _ _ _ _⟩
  clear hW HW
  have Z1 := Lib.hid hz1
  rw [← HYS.out] at R0
  rw [← HZS.out] at R1
  have RR := Lib.hid (show Row W w.heap.size 76 (cn .u64 fun j => if j < 0 then a j + b j else a j) ∧ Row W (w.heap.size + 1) 76 (cn .u64 b) ∧ Row W (w.heap.size + 2) 76 z1 ∧ Below w.heap.size w W from ⟨R0, R1, R2, HB⟩)
  clear hz1 R0 R1 R2 HB hsz
  go_loopw [6] (fun i wr => ∃ k : Nat, k ≤ 5 ∧ i = .int .i64 k ∧ Hid (Row wr w.heap.size 76 (cn .u64 fun j => if j < k then a j + b j else a j) ∧ Row wr (w.heap.size + 1) 76 (cn .u64 b) ∧ Row wr (w.heap.size + 2) 76 z1 ∧ Below w.heap.size w wr)) (fun i _ => 5 - (intOf i).toNat)
  case atStart => exact ⟨0, by omega, rfl, RR⟩
  case round =>
    rename_i wr
    clear RR
    obtain ⟨k, hk, rfl, HX⟩ := hrel
    by_cases hlt : k < 5
    · have c0 := HX.out.1.cell k
      rw [cn_at .u64 _ k hlt, if_neg (by omega)] at c0
      have c1 := HX.out.2.1.cell k
      rw [cn_at .u64 _ k hlt] at c1
      have f0 := HX.out.1.frozen k
      have b0 := HS.out k hlt
      have i1 : (k : Int) < 5 := by omega
      have i0 : (0 : Int) ≤ (k : Int) := by omega
      obtain ⟨s, es⟩ : ∃ s, a k + b k = s := ⟨_, rfl⟩
      have hw : IntKind.u64.wrap ((a k : Int) + (b k : Int)) = (s : Int) := by rw [← u64_wrap s (by omega), ← es]; rfl
      have HES := Lib.hid (show ∀ c, c = k → a c + b c = s from fun c hc => by rw [hc]; exact es)
      clear es b0
      generalize a k = ak at *
      generalize b k = bk at *
      have q0 : ∀ k', (World.mk wr.heap wr.tape k' wr.os wr.output).cell? ⟨w.heap.size, k, none⟩ = some (.int .u64 (ak : Int)) := fun _ => c0
      have q1 : ∀ k', (World.mk wr.heap wr.tape k' wr.os wr.output).cell? ⟨w.heap.size + 1, k, none⟩ = some (.int .u64 (bk : Int)) := fun _ => c1
      go_wp2
      go_still_tail 8, (by kernel_rfl)
      clear q0 q1
      change wpList _ _ _ _ _ wr.drew
      go_wp2
      go_roundw
      case rel =>
        obtain ⟨h1, h2, h3, h4⟩ := HX.out
        refine ⟨k + 1, by omega, by go_num, Lib.hid ⟨?_, (h2.set_far _ _ _ (by omega)).drew, (h3.set_far _ _ _ (by omega)).drew, (h4.setCell (show w.heap.size ≤ w.heap.size from Nat.le_refl _) _).drew⟩⟩
        have h5 := h1.set k (.int .u64 (s : Int))
        rw [cn_set .u64 _ (fun j => if j < k + 1 then a j + b j else a j) k _ hlt ?_ ?_] at h5
        · exact h5.drew
        · rw [if_pos (by omega), HES.out k rfl]
        · intro j hj hjk
          by_cases e : j < k
          · rw [if_pos e, if_pos (by omega)]
          · rw [if_neg e, if_neg (by omega)]
      case measure => simp [intOf]; omega
    · obtain rfl : k = 5 := by omega
      obtain ⟨h1, h2, h3, h4⟩ := HX.out
      rw [cn_congr .u64 (u := fun j => a j + b j) (fun j hj => if_pos hj)] at h1
      have HRR := Lib.hid h1
      have HT := Lib.hid (there_row h3 Z1.out .u64 (fun j => a j + b j))
      have HRES := Lib.hid (sets_row h3 Z1.out .u64 (fun j => a j + b j))
      have HBF := Lib.hid (Arr.below_sets (B := w.heap.size) (a := w) (w.heap.size + 2) (by omega) (cn .u64 (fun j => a j + b j)) 0 wr h4)
      have HI4 := Lib.hid (infoU (fun j => a j + b j))
      have H1 := Lib.hid (cn_one .u64 (fun j => a j + b j))
      clear h1 h2 h3 h4 HX
      generalize hus : cn .u64 (fun j => a j + b j) = us at *
      have HUS := Lib.hid hus
      clear hus
      go_wp2_with (first
        | ((with_reducible show wpList _ _ _ _ _ _); refine wpList_load_row rfl 76 _ rfl w.heap.size rfl 76 _ (0, 0) _ HRR.out Tryd.underlying76 rfl HI4.out ?_)
        | ((with_reducible show wpList _ _ _ _ _ _); refine wpList_store_mid rfl 76 _ _ rfl (w.heap.size + 2) 0 us.toArray rfl rfl HT.out HI4.out H1.out ?_))
      refine bodyPost_ret (v := .agg us.toArray) ?_ rfl ⟨by rw [HUS.out], HBF.out⟩
      exact results_cell_row rfl _ _ (w.heap.size + 2) 76 _ (0, 0) _ rfl HRES.out Tryd.underlying76 rfl HI4.out
end Go.Proofs.YtcfdnifllehbjaaDoor.Wrapped
