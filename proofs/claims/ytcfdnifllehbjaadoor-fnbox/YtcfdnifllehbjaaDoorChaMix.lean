/-
  What is proved: twenty rows of four quarter rounds of sixteen words of uint32 are the plain ones (contract for the walks).
-/
import Derived.Test.YtcfdnifllehbjaaDoorRows
import Derived.Test.YtcfdnifllehbjaaDoorSlant0
import Derived.Test.YtcfdnifllehbjaaDoorSlant1
namespace Go.Proofs.YtcfdnifllehbjaaDoor.ChaMix
open Go.ChangeShapes Go.WideShapes Go.ChangeAt Go.RowKit
open Arr (Row)
open Cha
set_option linter.unusedVariables false

theorem mixN_zero (V : List Nat) : mixN V 0 = V := rfl
theorem mixN_succ (V : List Nat) (n : Nat) : mixN V (n + 1) = slant 1 (slant 0 (mixN V n)) := rfl
set_option maxRecDepth 100000 in
set_option maxHeartbeats 1600000 in
theorem mixed (V : List Nat) (hV : Ok V) (w : World) :
    Calls Tryd.prog 52 #[.agg (c32 V).toArray] w fun e' w' => e' = .returned (.agg (c32 (mix V)).toArray) ∧ Below w.heap.size w w' := by
  have HV := Lib.hid hV
  have HRO := Lib.hid (fun k => mixN_ok hV k)
  have HR0 := Lib.hid (mixN_zero V)
  have HRS := Lib.hid (mixN_succ V)
  have HSL := Lib.hid (show mix V = mixN V 10 from rfl)
  have HI := Lib.hid (infoUV hV)
  clear hV
  generalize mixN V = F at *
  generalize mix V = M at *
  generalize hys : c32 V = ys at *
  have HYS := Lib.hid hys
  clear hys
  go_enter Tryd.func52, Tryd.ntmps52
  go_wp2
  generalize hW : (w.alloc _).alloc _ = W
  obtain ⟨z1, hz1, R0, R1, HB, hsz⟩ : ∃ z1 : List Value, z1.length = 16 ∧ Row W w.heap.size 52 ys ∧ Row W (w.heap.size + 1) 52 z1 ∧ Below w.heap.size w W ∧ w.heap.size + 2 ≤ W.heap.size := by
    rw [← hW]
    refine ⟨_, ?_, (Arr.two_new w _ _ _ _).1, (Arr.two_new w _ _ _ _).2.1, (Arr.two_new w _ _ _ _).2.2.1, (Arr.two_new w _ _ _ _).2.2.2⟩
    · rfl
  clear hW
  have Z1 := Lib.hid hz1
  have RR := Lib.hid (show Row W w.heap.size 52 (c32 (F 0)) ∧ Row W (w.heap.size + 1) 52 z1 ∧ Below w.heap.size w W ∧ w.heap.size + 2 ≤ W.heap.size from ⟨by rw [HR0.out, HYS.out]; exact R0, R1, HB, hsz⟩)
  clear hz1 R0 R1 HB hsz
  go_loopw [3] (fun i wr => ∃ k : Nat, k ≤ 10 ∧ i = .int .i64 k ∧ Hid (Row wr w.heap.size 52 (c32 (F k)) ∧ Row wr (w.heap.size + 1) 52 z1 ∧ Below w.heap.size w wr ∧ w.heap.size + 2 ≤ wr.heap.size)) (fun i _ => 10 - (intOf i).toNat)
  case atStart => exact ⟨0, by omega, rfl, RR⟩
  case round =>
    rename_i wr
    clear RR
    obtain ⟨k, hk, rfl, HX⟩ := hrel
    by_cases hlt : k < 10
    · have HK := Lib.hid (HRO.out k)
      have HNX := Lib.hid (HRS.out k)
      have HRR := Lib.hid HX.out.1
      have HI0 := Lib.hid (infoUV HK.out)
      generalize F k = X at *
      go_wp2_with (first
        | ((with_reducible show wpList _ _ _ _ _ _); refine wpList_load_row rfl 52 _ rfl w.heap.size rfl 52 _ (0, 0) _ HRR.out Tryd.underlying52 rfl HI0.out ?_))
      refine (Slant0.slanted X HK.out _).mono ?_
      rintro e' w1 ⟨rfl, hb⟩
      have HK1 := Lib.hid (slant_ok 0 HK.out)
      generalize slant 0 X = X1 at *
      have HI1 := Lib.hid (infoUV HK1.out)
      have H11 := Lib.hid (c32_one X1)
      have HR1 := Lib.hid (show Row w1 w.heap.size 52 (c32 X) ∧ Row w1 (w.heap.size + 1) 52 z1 ∧ Below w.heap.size w w1 ∧ w.heap.size + 2 ≤ w1.heap.size from
        ⟨HX.out.1.below hb (by have := HX.out.2.2.2; omega), HX.out.2.1.below hb (by have := HX.out.2.2.2; omega), HX.out.2.2.1.trans (hb.mono (by have := HX.out.2.2.2; omega)), Nat.le_trans HX.out.2.2.2 hb.size⟩)
      have HT1 := Lib.hid (show w1.there w.heap.size 0 (c32 X1).toArray.size by have := HR1.out.1.there; rw [c32_len, HK.out.len] at this; rw [show (c32 X1).toArray.size = 16 by rw [List.size_toArray, c32_len, HK1.out.len]]; exact this)
      have HS1 := Lib.hid (show Row (w1.setCells w.heap.size 0 (c32 X1)) w.heap.size 52 (c32 X1) ∧ Row (w1.setCells w.heap.size 0 (c32 X1)) (w.heap.size + 1) 52 z1 ∧ Below w.heap.size w (w1.setCells w.heap.size 0 (c32 X1)) ∧ w.heap.size + 2 ≤ (w1.setCells w.heap.size 0 (c32 X1)).heap.size from
        ⟨HR1.out.1.sets_all (by rw [c32_len, c32_len, HK1.out.len, HK.out.len]), HR1.out.2.1.sets_far (by omega) _ _ _, Arr.below_sets _ (Nat.le_refl _) _ _ _ HR1.out.2.2.1, by rw [Arr.size_sets]; exact HR1.out.2.2.2⟩)
      clear hb HX HRR
      go_wp2_with (first
        | ((with_reducible show wpList _ _ _ _ _ _); refine wpList_store_mid rfl 52 _ _ rfl w.heap.size 0 (c32 X1).toArray rfl rfl HT1.out HI1.out H11.out ?_; simp only [])
        | ((with_reducible show wpList _ _ _ _ _ _); refine wpList_load_row rfl 52 _ rfl w.heap.size rfl 52 _ (0, 0) _ HS1.out.1 Tryd.underlying52 rfl HI1.out ?_))
      generalize w1.setCells w.heap.size 0 (c32 X1) = W2 at *
      refine (Slant1.slanted X1 HK1.out _).mono ?_
      rintro e' w3 ⟨rfl, hb⟩
      have HK2 := Lib.hid (slant_ok 1 HK1.out)
      generalize slant 1 X1 = X2 at *
      have HI2 := Lib.hid (infoUV HK2.out)
      have H12 := Lib.hid (c32_one X2)
      have HR3 := Lib.hid (show Row w3 w.heap.size 52 (c32 X1) ∧ Row w3 (w.heap.size + 1) 52 z1 ∧ Below w.heap.size w w3 ∧ w.heap.size + 2 ≤ w3.heap.size from
        ⟨HS1.out.1.below hb (by have := HS1.out.2.2.2; omega), HS1.out.2.1.below hb (by have := HS1.out.2.2.2; omega), HS1.out.2.2.1.trans (hb.mono (by have := HS1.out.2.2.2; omega)), Nat.le_trans HS1.out.2.2.2 hb.size⟩)
      have HT3 := Lib.hid (show w3.there w.heap.size 0 (c32 X2).toArray.size by have := HR3.out.1.there; rw [c32_len, HK1.out.len] at this; rw [show (c32 X2).toArray.size = 16 by rw [List.size_toArray, c32_len, HK2.out.len]]; exact this)
      have HS3 := Lib.hid (show Row (w3.setCells w.heap.size 0 (c32 X2)) w.heap.size 52 (c32 X2) ∧ Row (w3.setCells w.heap.size 0 (c32 X2)) (w.heap.size + 1) 52 z1 ∧ Below w.heap.size w (w3.setCells w.heap.size 0 (c32 X2)) ∧ w.heap.size + 2 ≤ (w3.setCells w.heap.size 0 (c32 X2)).heap.size from
        ⟨HR3.out.1.sets_all (by rw [c32_len, c32_len, HK2.out.len, HK1.out.len]), HR3.out.2.1.sets_far (by omega) _ _ _, Arr.below_sets _ (Nat.le_refl _) _ _ _ HR3.out.2.2.1, by rw [Arr.size_sets]; exact HR3.out.2.2.2⟩)
      clear hb HS1 HR1 HT1 HI1
      go_wp2_with (first
        | ((with_reducible show wpList _ _ _ _ _ _); refine wpList_store_mid rfl 52 _ _ rfl w.heap.size 0 (c32 X2).toArray rfl rfl HT3.out HI2.out H12.out ?_; simp only []))
      generalize w3.setCells w.heap.size 0 (c32 X2) = W4 at *
      go_wp2
      go_roundw
      case rel => exact ⟨k + 1, by omega, by go_num, Lib.hid (by rw [HNX.out]; exact HS3.out)⟩
      case measure => simp [intOf]; omega
    · obtain rfl : k = 10 := by omega
      have HK := HRO.out 10
      have HI4 := Lib.hid (infoUV HK)
      have H1 := Lib.hid (c32_one (F 10))
      have HRR := Lib.hid HX.out.1
      have HT := Lib.hid (show wr.there (w.heap.size + 1) 0 (c32 (F 10)).toArray.size by have := HX.out.2.1.there; rw [Z1.out] at this; rw [show (c32 (F 10)).toArray.size = 16 by rw [List.size_toArray, c32_len, HK.len]]; exact this)
      have HRES := Lib.hid (HX.out.2.1.sets_all (vs := c32 (F 10)) (by rw [c32_len, HK.len, Z1.out]))
      have HBF := Lib.hid (Arr.below_sets (B := w.heap.size) (a := w) (w.heap.size + 1) (by omega) (c32 (F 10)) 0 wr HX.out.2.2.1)
      clear HK HX
      generalize hus : c32 (F 10) = us at *
      have HUS := Lib.hid hus
      clear hus
      go_wp2_with (first
        | ((with_reducible show wpList _ _ _ _ _ _); refine wpList_load_row rfl 52 _ rfl w.heap.size rfl 52 _ (0, 0) _ HRR.out Tryd.underlying52 rfl HI4.out ?_)
        | ((with_reducible show wpList _ _ _ _ _ _); refine wpList_store_mid rfl 52 _ _ rfl (w.heap.size + 1) 0 us.toArray rfl rfl HT.out HI4.out H1.out ?_))
      refine bodyPost_ret (v := .agg us.toArray) ?_ rfl ⟨by rw [HSL.out, HUS.out], HBF.out⟩
      exact results_cell_row rfl _ _ (w.heap.size + 1) 52 _ (0, 0) _ rfl HRES.out Tryd.underlying52 rfl HI4.out
end Go.Proofs.YtcfdnifllehbjaaDoor.ChaMix
