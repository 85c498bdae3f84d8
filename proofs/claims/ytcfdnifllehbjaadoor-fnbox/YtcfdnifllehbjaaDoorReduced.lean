/-
  What is proved: the program's least number modulo 2 to the 130 less 5 is the plain one (contract for the walks).
-/
import Derived.Test.YtcfdnifllehbjaaDoorRows
import Derived.Test.YtcfdnifllehbjaaDoorCarried
namespace Go.Proofs.YtcfdnifllehbjaaDoor.Reduced
open Go.ChangeShapes Go.WideShapes Go.ChangeAt Go.RowKit
open Arr (Row)
open Five Poly
set_option linter.unusedVariables false

theorem cn_p5 (v : Nat → Nat) (x : Int) (hx : x = ((v 0 + 5 : Nat) : Int)) : (cn .u64 v).set 0 (.int .u64 x) = cn .u64 (p5 v) :=
  cn_set .u64 v (p5 v) 0 x (by omega) hx (fun j hj h0 => (if_neg h0).symm)
theorem new_row (w : World) (κ : IntKind) (v : Nat → Nat) (t : TypeId) (cs : Array Value) (hcs : cs.size = 5) : (w.alloc (.cells cs t)).there w.heap.size 0 (cn κ v).toArray.size ∧
    Row ((w.alloc (.cells cs t)).setCells w.heap.size 0 (cn κ v)) w.heap.size t (cn κ v) := by
  have h := Arr.row_new w cs t
  exact ⟨there_row h (by simpa using hcs) κ v, sets_row h (by simpa using hcs) κ v⟩

set_option maxRecDepth 100000 in
set_option maxHeartbeats 1600000 in
theorem reduced (v : Nat → Nat) (hv : Half v) (w : World) :
    Calls Tryd.prog 58 #[.agg (cn .u64 v).toArray] w fun e' w' => e' = .returned (.agg (cn .u64 (rd v)).toArray) ∧ Below w.heap.size w w' := by
  have HC := Lib.hid (Carried.carried (p5 v) (p5_small hv))
  have HP5 := Lib.hid (cn_p5 v)
  have hv0 := hv.low
  have HA0 := Lib.hid (cn_at .u64 v 0 (by omega))
  have hw : IntKind.u64.wrap ((v 0 : Int) + 5) = ((v 0 + 5 : Nat) : Int) := by rw [← u64_wrap (v 0 + 5) (by omega)]; rfl
  have HI := Lib.hid (infoU v)
  have HI5 := Lib.hid (infoU (p5 v))
  have HID := Lib.hid (infoU (dg (p5 v)))
  have HO := Lib.hid (cn_one .u64 v)
  have HOD := Lib.hid (cn_one .u64 (dg (p5 v)))
  have HTH := Lib.hid (fun (w : World) g t xs (h : Row w g t xs) hl => there_row h hl .u64 v)
  have HTD := Lib.hid (fun (w : World) g t xs (h : Row w g t xs) hl => there_row h hl .u64 (dg (p5 v)))
  have HSV := Lib.hid (fun (w : World) g t xs (h : Row w g t xs) hl => sets_row h hl .u64 v)
  have HSD := Lib.hid (fun (w : World) g t xs (h : Row w g t xs) hl => sets_row h hl .u64 (dg (p5 v)))
  have HNV := Lib.hid (fun (w : World) cs hcs => new_row w .u64 v 76 cs hcs)
  have HND := Lib.hid (fun (w : World) cs hcs => new_row w .u64 (dg (p5 v)) 76 cs hcs)
  have HRD := Lib.hid (show cn .u64 (rd v) = if 0 < ov (p5 v) 5 then cn .u64 (dg (p5 v)) else cn .u64 v by unfold rd; split <;> rfl)
  clear hv
  generalize hs : v 0 + 5 = s at *
  generalize v 0 = v0 at *
  clear hs
  generalize ov (p5 v) 5 = o5 at *
  generalize cn .u64 v = ys at *
  generalize cn .u64 (p5 v) = ps at *
  generalize cn .u64 (dg (p5 v)) = ds at *
  generalize cn .u64 (rd v) = rs at *
  go_enter Tryd.func58, Tryd.ntmps58
  have HW := Lib.hid (Arr.two_new w ys.toArray)
  go_upto_region 1 with (fail)
  generalize hW : (w.alloc _).alloc _ = W
  obtain ⟨z1, hz1, R0, R1, HB, hsz⟩ : ∃ z1 : List Value, z1.length = 5 ∧ Row W w.heap.size 76 ys ∧ Row W (w.heap.size + 1) 76 z1 ∧ Below w.heap.size w W ∧ w.heap.size + 2 ≤ W.heap.size := by
    rw [← hW]
    exact ⟨_, rfl, HW.out _ _ _⟩
  clear hW HW
  have Z1 := Lib.hid hz1
  have HR0 := Lib.hid R0
  have HR1 := Lib.hid R1
  have HBB := Lib.hid HB
  clear hz1 R0 R1 HB
  go_upto_region 2 with (first
    | ((with_reducible show wpList _ _ _ _ _ _); refine wpList_load_row rfl 76 _ rfl w.heap.size rfl 76 _ (0, 0) _ HR0.out Tryd.underlying76 rfl HI.out ?_)
    | ((with_reducible show wpList _ _ _ _ _ _); refine wpList_store_mid rfl 76 _ _ rfl W.heap.size 0 ys.toArray rfl rfl (HNV.out W _ rfl).1 HI.out HO.out ?_; simp only []))
  generalize hW1 : (W.alloc _).setCells _ _ _ = W1
  obtain ⟨Q0, Q1, Q2, QB, qsz⟩ : Row W1 w.heap.size 76 ys ∧ Row W1 (w.heap.size + 1) 76 z1 ∧ Row W1 W.heap.size 76 ys ∧ Below w.heap.size w W1 ∧ W1.heap.size = W.heap.size + 1 := by
    rw [← hW1]
    refine ⟨(HR0.out.alloc _).sets_far (by omega) _ _ _, (HR1.out.alloc _).sets_far (by omega) _ _ _, (HNV.out W _ rfl).2, Arr.below_sets _ (by omega) _ _ _ (HBB.out.alloc (by omega) _), by rw [Arr.size_sets]; simp⟩
  clear hW1
  generalize W.heap.size = G at *
  have c0 := Q2.cell 0
  rw [HA0.out] at c0
  have f0 := Q2.frozen 0
  have HX2 := Lib.hid (Q2.set 0 (.int .u64 (s : Int)))
  rw [HP5.out _ rfl] at HX2
  have HX0 := Lib.hid (Q0.set_far G 0 (.int .u64 (s : Int)) (by omega))
  have HX1 := Lib.hid (Q1.set_far G 0 (.int .u64 (s : Int)) (by omega))
  have HXB := Lib.hid (QB.setCell (p := ⟨G, 0, none⟩) (show w.heap.size ≤ G by omega) (.int .u64 (s : Int)))
  have hxs : (W1.setCell ⟨G, 0, none⟩ (.int .u64 (s : Int))).heap.size = G + 1 := by simp [World.setCell]; exact qsz
  clear Q0 Q1 Q2 QB HR0 HR1 HBB
  go_upto_region 3 with (fail)
  generalize W1.setCell ⟨G, 0, none⟩ (.int .u64 (s : Int)) = W2 at *
  go_wp2_with (((with_reducible show wpList _ _ _ _ _ _); refine wpList_load_row rfl 76 _ rfl G rfl 76 _ (0, 0) _ HX2.out Tryd.underlying76 rfl HI5.out ?_))
  refine (HC.out _).mono ?_
  rintro e' w1 ⟨rfl, hb⟩
  have HY0 := Lib.hid (HX0.out.below hb (by omega))
  have HY1 := Lib.hid (HX1.out.below hb (by omega))
  have HYB := Lib.hid (HXB.out.trans (hb.mono (by omega)))
  have hys : G + 1 ≤ w1.heap.size := by have := hb.size; omega
  clear hb HX0 HX1 HX2 HXB hxs c0 f0
  go_upto_region 4 with (((with_reducible show wpList _ _ _ _ _ _); refine wpList_store_mid rfl 76 _ _ rfl w1.heap.size 0 ds.toArray rfl rfl (HND.out w1 _ rfl).1 HID.out HOD.out ?_; simp only []))
  generalize hW3 : (w1.alloc _).setCells _ _ _ = W3
  obtain ⟨Q0, Q1, Q2, QB⟩ : Row W3 w.heap.size 76 ys ∧ Row W3 (w.heap.size + 1) 76 z1 ∧ Row W3 w1.heap.size 76 ds ∧ Below w.heap.size w W3 := by
    rw [← hW3]
    refine ⟨(HY0.out.alloc _).sets_far (by omega) _ _ _, (HY1.out.alloc _).sets_far (by omega) _ _ _, (HND.out w1 _ rfl).2, Arr.below_sets _ (by omega) _ _ _ (HYB.out.alloc (by omega) _)⟩
  clear hW3
  have HQ0 := Lib.hid Q0
  have HQ2 := Lib.hid Q2
  by_cases ho : 0 < o5
  · have ho2 : (0 : Int) < (o5 : Int) := by omega
    rw [if_pos ho] at HRD
    have HT := Lib.hid (HTD.out _ _ _ _ Q1 Z1.out)
    have HRES := Lib.hid (HSD.out _ _ _ _ Q1 Z1.out)
    have HBF := Lib.hid (Arr.below_sets (B := w.heap.size) (a := w) (w.heap.size + 1) (by omega) ds 0 W3 QB)
    clear Q0 Q1 Q2 QB
    go_wp2_with (first
      | ((with_reducible show wpList _ _ _ _ _ _); refine wpList_load_row rfl 76 _ rfl w1.heap.size rfl 76 _ (0, 0) _ HQ2.out Tryd.underlying76 rfl HID.out ?_)
      | ((with_reducible show wpList _ _ _ _ _ _); refine wpList_store_mid rfl 76 _ _ rfl (w.heap.size + 1) 0 ds.toArray rfl rfl HT.out HID.out HOD.out ?_))
    refine bodyPost_ret (v := .agg ds.toArray) ?_ rfl ⟨by rw [HRD.out], HBF.out⟩
    exact results_cell_row rfl _ _ (w.heap.size + 1) 76 _ (0, 0) _ rfl HRES.out Tryd.underlying76 rfl HID.out
  · have ho2 : ¬ (0 : Int) < (o5 : Int) := by omega
    rw [if_neg ho] at HRD
    have HT := Lib.hid (HTH.out _ _ _ _ Q1 Z1.out)
    have HRES := Lib.hid (HSV.out _ _ _ _ Q1 Z1.out)
    have HBF := Lib.hid (Arr.below_sets (B := w.heap.size) (a := w) (w.heap.size + 1) (by omega) ys 0 W3 QB)
    clear Q0 Q1 Q2 QB
    go_wp2_with (first
      | ((with_reducible show wpList _ _ _ _ _ _); refine wpList_load_row rfl 76 _ rfl w.heap.size rfl 76 _ (0, 0) _ HQ0.out Tryd.underlying76 rfl HI.out ?_)
      | ((with_reducible show wpList _ _ _ _ _ _); refine wpList_store_mid rfl 76 _ _ rfl (w.heap.size + 1) 0 ys.toArray rfl rfl HT.out HI.out HO.out ?_))
    refine bodyPost_ret (v := .agg ys.toArray) ?_ rfl ⟨by rw [HRD.out], HBF.out⟩
    exact results_cell_row rfl _ _ (w.heap.size + 1) 76 _ (0, 0) _ rfl HRES.out Tryd.underlying76 rfl HI.out
end Go.Proofs.YtcfdnifllehbjaaDoor.Reduced
