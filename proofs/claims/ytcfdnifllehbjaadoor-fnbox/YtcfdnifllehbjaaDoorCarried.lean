/-
  What is proved: the program's carrying of five parts is the plain one (contract for the walks).
-/
import Derived.Test.YtcfdnifllehbjaaDoorRows
import Derived.Test.YtcfdnifllehbjaaDoorFive
namespace Go.Proofs.YtcfdnifllehbjaaDoor.Carried
open Go.ChangeShapes Go.WideShapes Go.ChangeAt Go.RowKit
open Arr (Row)
open Five Poly
set_option linter.unusedVariables false

set_option maxRecDepth 100000 in
set_option maxHeartbeats 1600000 in
theorem carried (v : Nat → Nat) (hv : Small v) (w : World) :
    Calls Tryd.prog 59 #[.agg (cn .u64 v).toArray] w fun e' w' => e' = .returned (.tuple #[.agg (cn .u64 (dg v)).toArray, .int .u64 (ov v 5 : Int)]) ∧ Below w.heap.size w w' := by
  have HS := Lib.hid hv
  clear hv
  have HI := Lib.hid infoU
  have HCA := Lib.hid (cn_at .u64 v)
  have HLN := Lib.hid (cn_len .u64)
  generalize hys : cn .u64 v = ys at *
  have HYS := Lib.hid hys
  clear hys
  go_enter Tryd.func59, Tryd.ntmps59
  go_wp2
  generalize hW : (w.alloc _).alloc _ = W
  obtain ⟨z1, hz1, R0, R1, HB, hsz⟩ : ∃ z1 : List Value, z1.length = 5 ∧ Row W w.heap.size 76 ys ∧ Row W (w.heap.size + 1) 76 z1 ∧ Below w.heap.size w W ∧ w.heap.size + 2 ≤ W.heap.size := by
    rw [← hW]
    refine ⟨_, ?_, (Arr.two_new w _ _ _ _).1, (Arr.two_new w _ _ _ _).2.1, (Arr.two_new w _ _ _ _).2.2.1, (Arr.two_new w _ _ _ _).2.2.2⟩
    · rfl
  clear hW
  have Z1 := Lib.hid hz1
  have RR := Lib.hid (show Row W w.heap.size 76 (cn .u64 fun j => if j < 0 then dg v j else v j) ∧ Row W (w.heap.size + 1) 76 z1 ∧ Below w.heap.size w W ∧ w.heap.size + 2 ≤ W.heap.size from ⟨by rw [← HYS.out] at R0; exact R0, R1, HB, hsz⟩)
  clear hz1 R0 R1 HB hsz
  go_loopw [4, 6] (fun o i wr => ∃ k : Nat, k ≤ 5 ∧ i = .int .i64 k ∧ o = .int .u64 (ov v k : Int) ∧ Hid (Row wr w.heap.size 76 (cn .u64 fun j => if j < k then dg v j else v j) ∧ Row wr (w.heap.size + 1) 76 z1 ∧ Below w.heap.size w wr ∧ w.heap.size + 2 ≤ wr.heap.size)) (fun _ i _ => 5 - (intOf i).toNat)
  case atStart => exact ⟨0, by omega, rfl, rfl, RR⟩
  case round =>
    rename_i wr
    clear RR
    obtain ⟨k, hk, rfl, rfl, HX⟩ := hrel
    by_cases hlt : k < 5
    · have c0 := HX.out.1.cell k
      rw [cn_at .u64 _ k hlt, if_neg (by omega)] at c0
      have f0 := HX.out.1.frozen k
      have b0 := HS.out k hlt
      have b1 := ov_lt HS.out k (by omega)
      have HD := Lib.hid (show dg v k = (v k + ov v k) % 67108864 from rfl)
      have HO := Lib.hid (show ov v (k + 1) = (v k + ov v k) / 67108864 from rfl)
      have i1 : (k : Int) < 5 := by omega
      have i0 : (0 : Int) ≤ (k : Int) := by omega
      obtain ⟨s, es⟩ : ∃ s, v k + ov v k = s := ⟨_, rfl⟩
      have hsb : s < 18446744073709551616 := by omega
      have hw : IntKind.u64.wrap ((v k : Int) + (ov v k : Int)) = (s : Int) := by rw [← u64_wrap s hsb, ← es]; rfl
      have hand := u64_and_nat s 67108863 hsb (by omega)
      rw [es] at HD HO
      clear es
      generalize v k = vk at *
      generalize ov v k = ok at *
      go_wp2
      go_roundw
      case rel =>
        obtain ⟨h1, h2, h3, h4⟩ := HX.out
        refine ⟨k + 1, by omega, by go_num, by rw [HO.out]; simp, Lib.hid ⟨?_, (h2.set_far _ _ _ (by omega)).set_far _ _ _ (by omega), (h3.setCell (show w.heap.size ≤ w.heap.size from Nat.le_refl _) _).setCell (show w.heap.size ≤ w.heap.size from Nat.le_refl _) _, by simp [World.setCell]; exact h4⟩⟩
        have h5 := (h1.set k (.int .u64 (s : Int))).set k (.int .u64 (bits .and .u64 (s : Int) 67108863))
        rw [List.set_set, cn_set .u64 _ (fun j => if j < k + 1 then dg v j else v j) k _ hlt ?_ ?_] at h5
        · exact h5
        · rw [if_pos (by omega), HD.out, ← nat_mask26, ← hand]
          rfl
        · intro j hj hjk
          by_cases e : j < k
          · rw [if_pos e, if_pos (by omega)]
          · rw [if_neg e, if_neg (by omega)]
      case measure => simp [intOf]; omega
    · obtain rfl : k = 5 := by omega
      obtain ⟨h1, h2, h3, h4⟩ := HX.out
      rw [cn_congr .u64 (u := dg v) (fun j hj => if_pos hj)] at h1
      have HRR := Lib.hid h1
      have HT := Lib.hid (there_row h2 Z1.out .u64 (dg v))
      have HRES := Lib.hid (sets_row h2 Z1.out .u64 (dg v))
      have HBF := Lib.hid (Arr.below_sets (B := w.heap.size) (a := w) (w.heap.size + 1) (by omega) (cn .u64 (dg v)) 0 wr h3)
      have HI4 := Lib.hid (infoU (dg v))
      have H1 := Lib.hid (cn_one .u64 (dg v))
      have HLD := Lib.hid (loadU HRES.out)
      clear h1 h2 h3 h4 HX
      generalize ho5 : ov v 5 = o5 at *
      have HO5 := Lib.hid ho5
      generalize hus : cn .u64 (dg v) = us at *
      have HUS := Lib.hid hus
      clear hus ho5
      go_wp2_with (first
        | ((with_reducible show wpList _ _ _ _ _ _); refine wpList_load_row rfl 76 _ rfl w.heap.size rfl 76 _ (0, 0) _ HRR.out Tryd.underlying76 rfl HI4.out ?_)
        | ((with_reducible show wpList _ _ _ _ _ _); refine wpList_store_mid rfl 76 _ _ rfl (w.heap.size + 1) 0 us.toArray rfl rfl HT.out HI4.out H1.out ?_))
      refine bodyPost_ret (v := .tuple #[.agg us.toArray, .int .u64 (o5 : Int)]) ?_ rfl ⟨by rw [HUS.out, HO5.out], HBF.out⟩
      exact results_cell_tmp_row rfl _ _ (w.heap.size + 1) _ _ rfl HLD.out rfl
end Go.Proofs.YtcfdnifllehbjaaDoor.Carried
