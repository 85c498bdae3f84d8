/-
  What is proved: the model's least number modulo 2 to the 130 less 5 is the plain one (contract for the walks).
-/
import Derived.Test.YtcfdnifllehbjaaDoorRows
import Derived.Test.YtcfdnifllehbjaaDoorSpCarry
import Derived.Test.YtcfdnifllehbjaaDoorReduced
namespace Go.Proofs.YtcfdnifllehbjaaDoor.SpLess
open Go.ChangeShapes Go.WideShapes Go.ChangeAt Go.RowKit
open Arr (Row)
open Five Poly
open SpParts (i64_wrap i64_mask26)
open SpCarry (cr cr_zero cr_self cr_next cr_step)
set_option linter.unusedVariables false

theorem cn_p5 (v : Nat → Nat) (x : Int) (hx : x = ((v 0 + 5 : Nat) : Int)) : (cn .i64 v).set 0 (.int .i64 x) = cn .i64 (cr (p5 v) 0) := by
  rw [cr_zero]
  exact cn_set .i64 v (p5 v) 0 x (by omega) hx (fun j hj h0 => (if_neg h0).symm)
theorem cr_end (u : Nat → Nat) (d : Int) (hd : d = (dg u 4 : Int)) : (cn .i64 (cr u 4)).set 4 (.int .i64 d) = cn .i64 (dg u) := by
  refine cn_set .i64 _ _ 4 d (by omega) hd ?_
  intro j hj hne
  unfold cr
  rw [if_pos (by omega)]

set_option maxRecDepth 100000 in
set_option maxHeartbeats 3200000 in
theorem l03Less (v : Nat → Nat) (hv : Half v) (w : World) :
    Calls Tryd.prog 68 #[.agg (cn .i64 v).toArray] w fun e' w' => e' = .returned (.agg (cn .i64 (rd v)).toArray) ∧ Below w.heap.size w w' := by
  have HU := Lib.hid (p5_small hv)
  have HP5 := Lib.hid (cn_p5 v)
  have hv0 := hv.low
  have HA0 := Lib.hid (cn_at .i64 v 0 (by omega))
  have hw : IntKind.i64.wrap ((v 0 : Int) + 5) = ((v 0 + 5 : Nat) : Int) := by rw [← i64_wrap (v 0 + 5) (by omega)]; rfl
  have HI := Lib.hid (infoI v)
  have HO := Lib.hid (cn_one .i64 v)
  have HTH := Lib.hid (fun (w : World) g t xs (h : Row w g t xs) hl => there_row h hl .i64 v)
  have HSV := Lib.hid (fun (w : World) g t xs (h : Row w g t xs) hl => sets_row h hl .i64 v)
  have HNV := Lib.hid (fun (w : World) cs hcs => Reduced.new_row w .i64 v 87 cs hcs)
  have HRD := Lib.hid (show cn .i64 (rd v) = if 0 < ov (p5 v) 5 then cn .i64 (dg (p5 v)) else cn .i64 v by unfold rd; split <;> rfl)
  clear hv
  generalize hs : v 0 + 5 = s0 at *
  generalize v 0 = v0 at *
  clear hs
  generalize cn .i64 (rd v) = rs at *
  generalize cn .i64 v = ys at *
  generalize p5 v = u at *
  go_enter Tryd.func68, Tryd.ntmps68
  have HW := Lib.hid (Arr.two_new w ys.toArray)
  go_upto_region 1 with (fail)
  generalize hW : (w.alloc _).alloc _ = W
  obtain ⟨z1, hz1, R0, R1, HB, hsz⟩ : ∃ z1 : List Value, z1.length = 5 ∧ Row W w.heap.size 87 ys ∧ Row W (w.heap.size + 1) 87 z1 ∧ Below w.heap.size w W ∧ w.heap.size + 2 ≤ W.heap.size := by
    rw [← hW]
    exact ⟨_, rfl, HW.out _ _ _⟩
  clear hW HW
  have Z1 := Lib.hid hz1
  have HR0 := Lib.hid R0
  have HR1 := Lib.hid R1
  have HBB := Lib.hid HB
  clear hz1 R0 R1 HB
  go_upto_region 2 with (first
    | ((with_reducible show wpList _ _ _ _ _ _); refine wpList_load_row rfl 87 _ rfl w.heap.size rfl 87 _ (0, 0) _ HR0.out Tryd.underlying87 rfl HI.out ?_)
    | ((with_reducible show wpList _ _ _ _ _ _); refine wpList_store_mid rfl 87 _ _ rfl W.heap.size 0 ys.toArray rfl rfl (HNV.out W _ rfl).1 HI.out HO.out ?_; simp only []))
  generalize hW1 : (W.alloc _).setCells _ _ _ = W1
  obtain ⟨Q0, Q1, Q2, QB, qsz⟩ : Row W1 w.heap.size 87 ys ∧ Row W1 (w.heap.size + 1) 87 z1 ∧ Row W1 W.heap.size 87 ys ∧ Below w.heap.size w W1 ∧ W1.heap.size = W.heap.size + 1 := by
    rw [← hW1]
    refine ⟨(HR0.out.alloc _).sets_far (by omega) _ _ _, (HR1.out.alloc _).sets_far (by omega) _ _ _, (HNV.out W _ rfl).2, Arr.below_sets _ (by omega) _ _ _ (HBB.out.alloc (by omega) _), by rw [Arr.size_sets]; simp⟩
  clear hW1
  generalize W.heap.size = G at *
  have c0 := Q2.cell 0
  rw [HA0.out] at c0
  have f0 := Q2.frozen 0
  have HX2 := Lib.hid (Q2.set 0 (.int .i64 (s0 : Int)))
  rw [HP5.out _ rfl] at HX2
  have HX0 := Lib.hid (show Row (W1.setCell ⟨G, 0, none⟩ (.int .i64 (s0 : Int))) G 87 (cn .i64 (cr u 0)) ∧ Row (W1.setCell ⟨G, 0, none⟩ (.int .i64 (s0 : Int))) w.heap.size 87 ys ∧ Row (W1.setCell ⟨G, 0, none⟩ (.int .i64 (s0 : Int))) (w.heap.size + 1) 87 z1 ∧ Below w.heap.size w (W1.setCell ⟨G, 0, none⟩ (.int .i64 (s0 : Int))) from
    ⟨HX2.out, Q0.set_far G 0 _ (by omega), Q1.set_far G 0 _ (by omega), QB.setCell (p := ⟨G, 0, none⟩) (show w.heap.size ≤ G by omega) _⟩)
  clear Q0 Q1 Q2 QB HR0 HR1 HBB HX2
  go_upto_region 3 with (fail)
  generalize W1.setCell ⟨G, 0, none⟩ (.int .i64 (s0 : Int)) = W2 at *
  clear c0 f0 hw qsz
  have hG : w.heap.size + 2 ≤ G := hsz
  clear hsz
  go_wp2
  go_loopw [4] (fun i wz => ∃ (j : Nat) (wr : World), j ≤ 4 ∧ i = .int .i64 j ∧ wr = wz ∧ Hid (Row wr G 87 (cn .i64 (cr u j)) ∧ Row wr w.heap.size 87 ys ∧ Row wr (w.heap.size + 1) 87 z1 ∧ Below w.heap.size w wr)) (fun i _ => 4 - (intOf i).toNat)
  case atStart => exact ⟨0, _, by omega, rfl, rfl, HX0⟩
  case round =>
    clear HX0
    obtain ⟨j, wr, hj, rfl, rfl, HX⟩ := hrel
    by_cases hjt : j < 4
    · have j4 : (j : Int) < 4 := by omega
      have j5 : (j : Int) < 5 := by omega
      have j0 : (0 : Int) ≤ (j : Int) := by omega
      have c0 := HX.out.1.cell j
      rw [cn_at .i64 _ j (by omega), cr_self] at c0
      have c1 := HX.out.1.cell (j + 1)
      rw [cn_at .i64 _ (j + 1) (by omega), cr_next] at c1
      have f0 := HX.out.1.frozen j
      have f1 := HX.out.1.frozen (j + 1)
      have b0 := HU.out j (by omega)
      have b1 := HU.out (j + 1) (by omega)
      have o0 := ov_lt HU.out j (by omega)
      have o1 := ov_lt HU.out (j + 1) (by omega)
      have HST := Lib.hid (fun s d => cr_step u j s d hjt)
      have HOV := Lib.hid (show ov u (j + 1) = (u j + ov u j) / 67108864 from rfl)
      have HDG := Lib.hid (show dg u j = (u j + ov u j) % 67108864 from rfl)
      obtain ⟨a, ea⟩ : ∃ a, u j + ov u j = a := ⟨_, rfl⟩
      obtain ⟨b, eb⟩ : ∃ b, u (j + 1) = b := ⟨_, rfl⟩
      rw [ea] at c0 HOV HDG
      rw [eb] at c1 HST b1
      rw [HOV.out] at HST o1
      rw [HDG.out] at HST
      obtain ⟨a1, ea1⟩ : ∃ a1, a / 67108864 = a1 := ⟨_, rfl⟩
      rw [ea1] at HST o1
      have hdv : (a : Int) / 67108864 = (a1 : Int) := by omega
      have hand := i64_mask26 a (by omega)
      have hwb : IntKind.i64.wrap ((b : Int) + (a1 : Int)) = ((b + a1 : Nat) : Int) := by rw [← i64_wrap (b + a1) (by omega)]; rfl
      generalize b + a1 = s at *
      generalize a % 67108864 = d at *
      obtain ⟨j', ej'⟩ : ∃ j', j + 1 = j' := ⟨_, rfl⟩
      have e5 : (j : Int) + 1 = (j' : Int) := by omega
      have q3 : (j' : Int) < 5 := by omega
      have q4 : (0 : Int) ≤ (j' : Int) := by omega
      have wj' : IntKind.i64.wrap (j' : Int) = j' := by rw [IntKind.wrap_i64]; omega
      have hne : j ≠ j' := by omega
      have hne2 : j' ≠ j := by omega
      rw [ej'] at c1 f1 HST
      have HEJ := Lib.hid ej'
      have hann : (0 : Int) ≤ (a : Int) := by omega
      clear ea eb ea1 b0 b1 o0 o1 HOV HDG ej'
      have q0 : ∀ k', (World.mk wr.heap wr.tape k' wr.os wr.output).cell? ⟨G, j, none⟩ = some (.int .i64 (a : Int)) := fun _ => c0
      have q1 : ∀ k', (World.mk wr.heap wr.tape k' wr.os wr.output).cell? ⟨G, j', none⟩ = some (.int .i64 (b : Int)) := fun _ => c1
      go_wp2
      go_still_tail 10, (by kernel_rfl)
      clear q0 q1
      change wpList _ _ _ _ _ wr.drew
      go_wp2
      go_roundw
      case rel =>
        obtain ⟨h1, h2, h3, h4⟩ := HX.out
        refine ⟨j + 1, _, by omega, by first | go_num | (have := HEJ.out; simp; omega), rfl, Lib.hid ⟨?_, ((h2.set_far _ _ _ (by omega)).drew).set_far _ _ _ (by omega), ((h3.set_far _ _ _ (by omega)).drew).set_far _ _ _ (by omega), ((h4.setCell (show w.heap.size ≤ G by omega) _).drew).setCell (show w.heap.size ≤ G by omega) _⟩⟩
        have h5 := ((h1.set j' (.int .i64 (s : Int))).drew).set j (.int .i64 (d : Int))
        rw [HST.out _ _ rfl rfl] at h5
        rw [HEJ.out]
        exact h5
      case measure => simp [intOf]; omega
    · obtain rfl : j = 4 := by omega
      have c4 := HX.out.1.cell 4
      rw [cn_at .i64 _ 4 (by omega), cr_self] at c4
      have f4 := HX.out.1.frozen 4
      have HST := Lib.hid (cr_end u)
      have b4 := HU.out 4 (by omega)
      have o4 := ov_lt HU.out 4 (by omega)
      have HOV := Lib.hid (show ov u 5 = (u 4 + ov u 4) / 67108864 from rfl)
      have HDG := Lib.hid (show dg u 4 = (u 4 + ov u 4) % 67108864 from rfl)
      have HID := Lib.hid (infoI (dg u))
      have HOD := Lib.hid (cn_one .i64 (dg u))
      have HTD := Lib.hid (fun (w : World) g t xs (h : Row w g t xs) hl => there_row h hl .i64 (dg u))
      have HSD := Lib.hid (fun (w : World) g t xs (h : Row w g t xs) hl => sets_row h hl .i64 (dg u))
      obtain ⟨a, ea⟩ : ∃ a, u 4 + ov u 4 = a := ⟨_, rfl⟩
      rw [ea] at c4 HOV HDG
      rw [HDG.out] at HST
      obtain ⟨a1, ea1⟩ : ∃ a1, a / 67108864 = a1 := ⟨_, rfl⟩
      rw [HOV.out, ea1] at HRD
      have hdv : (a : Int) / 67108864 = (a1 : Int) := by omega
      have hand := i64_mask26 a (by omega)
      generalize a % 67108864 = d at *
      have hann : (0 : Int) ≤ (a : Int) := by omega
      generalize cn .i64 (dg u) = ds at *
      clear ea ea1 b4 o4 HOV HDG
      obtain ⟨h1, h2, h3, h4⟩ := HX.out
      by_cases ho : 0 < a1
      · have ho2 : ((a1 : Int) == 0) = false := by simp; omega
        rw [if_pos ho] at HRD
        have HQ := Lib.hid (show Row (wr.setCell ⟨G, 4, none⟩ (.int .i64 (d : Int))) G 87 ds ∧ Row (wr.setCell ⟨G, 4, none⟩ (.int .i64 (d : Int))) (w.heap.size + 1) 87 z1 ∧ Below w.heap.size w (wr.setCell ⟨G, 4, none⟩ (.int .i64 (d : Int))) from
          ⟨by rw [← HST.out _ rfl]; exact h1.set 4 _, h3.set_far G 4 _ (by omega), h4.setCell (p := ⟨G, 4, none⟩) (show w.heap.size ≤ G by omega) _⟩)
        clear h1 h2 h3 h4 HX
        go_upto_region 11 with (fail)
        generalize wr.setCell ⟨G, 4, none⟩ (.int .i64 (d : Int)) = W3 at *
        have HT := Lib.hid (HTD.out _ _ _ _ HQ.out.2.1 Z1.out)
        have HRES := Lib.hid (HSD.out _ _ _ _ HQ.out.2.1 Z1.out)
        have HBF := Lib.hid (Arr.below_sets (B := w.heap.size) (a := w) (w.heap.size + 1) (by omega) ds 0 W3 HQ.out.2.2)
        go_wp2_with (first
          | ((with_reducible show wpList _ _ _ _ _ _); refine wpList_load_row rfl 87 _ rfl G rfl 87 _ (0, 0) _ HQ.out.1 Tryd.underlying87 rfl HID.out ?_)
          | ((with_reducible show wpList _ _ _ _ _ _); refine wpList_store_mid rfl 87 _ _ rfl (w.heap.size + 1) 0 ds.toArray rfl rfl HT.out HID.out HOD.out ?_))
        refine bodyPost_ret (v := .agg ds.toArray) ?_ rfl ⟨by rw [HRD.out], HBF.out⟩
        exact results_cell_row rfl _ _ (w.heap.size + 1) 87 _ (0, 0) _ rfl HRES.out Tryd.underlying87 rfl HID.out
      · have ho2 : ((a1 : Int) == 0) = true := by simp; omega
        rw [if_neg ho] at HRD
        have HR0 := Lib.hid h2
        have HT := Lib.hid (HTH.out _ _ _ _ h3 Z1.out)
        have HRES := Lib.hid (HSV.out _ _ _ _ h3 Z1.out)
        have HBF := Lib.hid (Arr.below_sets (B := w.heap.size) (a := w) (w.heap.size + 1) (by omega) ys 0 wr h4)
        clear h1 h2 h3 h4 HX
        go_wp2_with (first
          | ((with_reducible show wpList _ _ _ _ _ _); refine wpList_load_row rfl 87 _ rfl w.heap.size rfl 87 _ (0, 0) _ HR0.out Tryd.underlying87 rfl HI.out ?_)
          | ((with_reducible show wpList _ _ _ _ _ _); refine wpList_store_mid rfl 87 _ _ rfl (w.heap.size + 1) 0 ys.toArray rfl rfl HT.out HI.out HO.out ?_))
        refine bodyPost_ret (v := .agg ys.toArray) ?_ rfl ⟨by rw [HRD.out], HBF.out⟩
        exact results_cell_row rfl _ _ (w.heap.size + 1) 87 _ (0, 0) _ rfl HRES.out Tryd.underlying87 rfl HI.out
end Go.Proofs.YtcfdnifllehbjaaDoor.SpLess
