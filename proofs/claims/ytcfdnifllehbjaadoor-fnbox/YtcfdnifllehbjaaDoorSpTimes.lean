/-
  What is proved: the model's product of two numbers in five parts is the plain one (contract for the walks).
-/
import Derived.Test.YtcfdnifllehbjaaDoorRows
import Derived.Test.YtcfdnifllehbjaaDoorSpCarry
import Derived.Test.YtcfdnifllehbjaaDoorTimes
namespace Go.Proofs.YtcfdnifllehbjaaDoor.SpTimes
open Go.ChangeShapes Go.WideShapes Go.ChangeAt Go.RowKit
open Arr (Row)
open Five Poly
open SpParts (i64_wrap i64_mask26)
open Times (pa_step pt_at four_new)
set_option linter.unusedVariables false

set_option maxRecDepth 100000 in
set_option maxHeartbeats 3200000 in
theorem l03Times (a b : Nat → Nat) (ha : ∀ j, a j < 268435456) (hb : ∀ j, b j < 67108864) (w : World) :
    Calls Tryd.prog 67 #[.agg (cn .i64 a).toArray, .agg (cn .i64 b).toArray] w fun e' w' => e' = .returned (.agg (cn .i64 (fo (fo (fo (pa a b 25))))).toArray) ∧ Below w.heap.size w w' := by
  have HA := Lib.hid ha
  have HB := Lib.hid hb
  have HSM := Lib.hid (pa_small ha hb)
  have HPL := Lib.hid (pa_le ha hb)
  have HPT := Lib.hid (pt_le ha hb)
  clear ha hb
  generalize hys : cn .i64 a = ys at *
  generalize hzs : cn .i64 b = zs at *
  have HYS := Lib.hid hys
  have HZS := Lib.hid hzs
  clear hys hzs
  go_enter Tryd.func67, Tryd.ntmps67
  have HW := Lib.hid (four_new w ys.toArray zs.toArray)
  go_wp2
  generalize hW : (((w.alloc _).alloc _).alloc _).alloc _ = W
  obtain ⟨z1, hz1, R0, R1, R2, R3, HBL, hsz⟩ : ∃ z1 : List Value, z1.length = 5 ∧ Row W w.heap.size 87 ys ∧ Row W (w.heap.size + 1) 87 zs ∧ Row W (w.heap.size + 2) 87 z1 ∧ Row W (w.heap.size + 3) 87 (cn .i64 (pa a b (5 * 0))) ∧ Below w.heap.size w W ∧ w.heap.size + 4 ≤ W.heap.size := by
    rw [← hW]
    exact ⟨_, rfl, HW.out _ _ _ _ _ _⟩
  clear hW HW
  have Z1 := Lib.hid hz1
  rw [← HYS.out] at R0
  rw [← HZS.out] at R1
  have RR := Lib.hid (show Row W w.heap.size 87 (cn .i64 a) ∧ Row W (w.heap.size + 1) 87 (cn .i64 b) ∧ Row W (w.heap.size + 2) 87 z1 ∧ Row W (w.heap.size + 3) 87 (cn .i64 (pa a b (5 * 0))) ∧ Below w.heap.size w W ∧ w.heap.size + 4 ≤ W.heap.size from ⟨R0, R1, R2, R3, HBL, hsz⟩)
  clear hz1 R0 R1 R2 R3 HBL hsz
  go_loopw [6] (fun i wz => ∃ (k : Nat) (wr : World), k ≤ 5 ∧ i = .int .i64 k ∧ wr = wz ∧ Hid (Row wr w.heap.size 87 (cn .i64 a) ∧ Row wr (w.heap.size + 1) 87 (cn .i64 b) ∧ Row wr (w.heap.size + 2) 87 z1 ∧ Row wr (w.heap.size + 3) 87 (cn .i64 (pa a b (5 * k))) ∧ Below w.heap.size w wr ∧ w.heap.size + 4 ≤ wr.heap.size)) (fun i _ => 5 - (intOf i).toNat)
  case atStart => exact ⟨0, _, by omega, rfl, rfl, RR⟩
  case round =>
    clear RR
    obtain ⟨i, wo, hi, rfl, rfl, HX⟩ := hrel
    by_cases hlt : i < 5
    · have i1 : (i : Int) < 5 := by omega
      have i0 : (0 : Int) ≤ (i : Int) := by omega
      have HST := Lib.hid (show cn .i64 (pa a b (5 * i)) = cn .i64 (pa a b (5 * i + 0)) from rfl)
      rw [HST.out] at HX
      clear HST
      go_wp2
      go_loopw [7] (fun j wz => ∃ (k : Nat) (wr : World), k ≤ 5 ∧ j = .int .i64 k ∧ wr = wz ∧ Hid (Row wr w.heap.size 87 (cn .i64 a) ∧ Row wr (w.heap.size + 1) 87 (cn .i64 b) ∧ Row wr (w.heap.size + 2) 87 z1 ∧ Row wr (w.heap.size + 3) 87 (cn .i64 (pa a b (5 * i + k))) ∧ Below w.heap.size w wr ∧ w.heap.size + 4 ≤ wr.heap.size)) (fun j _ => 5 - (intOf j).toNat)
      case atStart => exact ⟨0, _, by omega, rfl, rfl, HX⟩
      case round =>
        clear HX
        obtain ⟨j, wr, hj, rfl, rfl, HX⟩ := hrel
        by_cases hjt : j < 5
        · have j1 : (j : Int) < 5 := by omega
          have j0 : (0 : Int) ≤ (j : Int) := by omega
          have c0 := HX.out.1.cell i
          rw [cn_at .i64 _ i hlt] at c0
          have c1 := HX.out.2.1.cell j
          rw [cn_at .i64 _ j hjt] at c1
          obtain ⟨q, eq⟩ : ∃ q, (i + j) % 5 = q := ⟨_, rfl⟩
          have hq : q < 5 := by omega
          have c2 := HX.out.2.2.2.1.cell q
          rw [cn_at .i64 _ q hq] at c2
          have f2 := HX.out.2.2.2.1.frozen q
          have b0 := HPL.out (5 * i + j) q
          have b1 := HPT.out (5 * i + j)
          have HSTEP := Lib.hid (fun s => pa_step .i64 a b i j q s hjt eq.symm)
          have ept := pt_at a b i j hjt
          obtain ⟨t, et⟩ : ∃ t, i + j = t := ⟨_, rfl⟩
          rw [et] at ept eq
          have ht8 : t ≤ 8 := by omega
          have hij : (i : Int) + (j : Int) = (t : Int) := by omega
          have hq0 : (t : Int) % 5 = (q : Int) := by omega
          have hq1 : (q : Int) < 5 := by omega
          have hq2 : (0 : Int) ≤ (q : Int) := by omega
          have jt : IntKind.i64.wrap (t : Int) = t := by rw [IntKind.wrap_i64]; omega
          have jq : IntKind.i64.wrap (q : Int) = q := by rw [IntKind.wrap_i64]; omega
          have hmb := Nat.mul_le_mul (Nat.le_of_lt (HA.out i)) (Nat.le_of_lt (HB.out j))
          obtain ⟨x, ex⟩ : ∃ x, a i * b j = x := ⟨_, rfl⟩
          rw [ex] at hmb ept
          have hwx : IntKind.i64.wrap ((a i : Int) * (b j : Int)) = (x : Int) := by rw [← i64_wrap x (by omega), ← ex]; rfl
          generalize hpt : pt a b (5 * i + j) = y at *
          have hb0 : pa a b (5 * i + j) q < 4611686018427387904 := by omega
          generalize pa a b (5 * i + j) q = o at *
          have hwy : IntKind.i64.wrap ((o : Int) + (y : Int)) = ((o + y : Nat) : Int) := by rw [← i64_wrap (o + y) (by omega)]; rfl
          generalize hs : o + y = s at *
          generalize a i = ai at *
          generalize b j = bj at *
          clear hpt hs et eq ex b0 hmb
          by_cases h5 : 5 ≤ t
          · have t5 : (4 : Int) < (t : Int) := by omega
            rw [if_pos h5] at ept
            have hwz : IntKind.i64.wrap ((x : Int) * 5) = (y : Int) := by rw [← i64_wrap y (by omega), ept]; rfl
            clear ept
            go_wp2
            go_quiet (fail)
            go_wp2
            go_roundw
            case rel =>
              obtain ⟨h1, h2, h3, h4, h6, h7⟩ := HX.out
              refine ⟨j + 1, _, by omega, by go_num, rfl, Lib.hid ⟨h1.set_far _ _ _ (by omega), h2.set_far _ _ _ (by omega), h3.set_far _ _ _ (by omega), ?_, (below_drewN h6 _).setCell (show w.heap.size ≤ w.heap.size + 3 by omega) _, by simp [World.setCell]; exact h7⟩⟩
              rw [← HSTEP.out (s : Int) rfl]
              exact h4.set q _
            case measure => simp [intOf]; omega
          · have t5 : ¬ (4 : Int) < (t : Int) := by omega
            rw [if_neg h5] at ept
            subst ept
            go_wp2
            go_quiet (fail)
            go_wp2
            go_roundw
            case rel =>
              obtain ⟨h1, h2, h3, h4, h6, h7⟩ := HX.out
              refine ⟨j + 1, _, by omega, by go_num, rfl, Lib.hid ⟨h1.set_far _ _ _ (by omega), h2.set_far _ _ _ (by omega), h3.set_far _ _ _ (by omega), ?_, (below_drewN h6 _).setCell (show w.heap.size ≤ w.heap.size + 3 by omega) _, by simp [World.setCell]; exact h7⟩⟩
              rw [← HSTEP.out (s : Int) rfl]
              exact h4.set q _
            case measure => simp [intOf]; omega
        · obtain rfl : j = 5 := by omega
          go_wp2
          go_roundw
          case rel => exact ⟨i + 1, _, by omega, by go_num, rfl, HX⟩
          case measure => simp [intOf]; omega
    · obtain rfl : i = 5 := by omega
      have HW1 := Lib.hid (SpCarry.l03Carry _ HSM.out)
      obtain ⟨h1, h2, h3, h4, h6, h7⟩ := HX.out
      have HR3 := Lib.hid (show Row wo (w.heap.size + 3) 87 (cn .i64 (pa a b 25)) from h4)
      have HR2 := Lib.hid h3
      have HBB := Lib.hid h6
      have HI0 := Lib.hid (infoI (pa a b 25))
      have HIF := Lib.hid (infoI (fo (fo (fo (pa a b 25)))))
      have HOF := Lib.hid (cn_one .i64 (fo (fo (fo (pa a b 25)))))
      have HTF := Lib.hid (fun (w : World) g t xs (h : Row w g t xs) hl => there_row h hl .i64 (fo (fo (fo (pa a b 25)))))
      have HSF := Lib.hid (fun (w : World) g t xs (h : Row w g t xs) hl => sets_row h hl .i64 (fo (fo (fo (pa a b 25)))))
      clear h1 h2 h3 h4 h6 HX HSM HPL HPT HA HB
      generalize hus : cn .i64 (fo (fo (fo (pa a b 25)))) = us at *
      have HUS := Lib.hid hus
      clear hus
      generalize cn .i64 (pa a b 25) = u0 at *
      go_wp2_with (((with_reducible show wpList _ _ _ _ _ _); refine wpList_load_row rfl 87 _ rfl (w.heap.size + 3) rfl 87 _ (0, 0) _ HR3.out Tryd.underlying87 rfl HI0.out ?_))
      refine (HW1.out _).mono ?_
      rintro e' w2 ⟨rfl, hb⟩
      have HR22 := Lib.hid (HR2.out.below hb (by omega))
      have HB2 := Lib.hid (HBB.out.trans (hb.mono (by omega)))
      clear hb HR2 HBB
      have HT := Lib.hid (HTF.out _ _ _ _ HR22.out Z1.out)
      have HRES := Lib.hid (HSF.out _ _ _ _ HR22.out Z1.out)
      have HBF := Lib.hid (Arr.below_sets (B := w.heap.size) (a := w) (w.heap.size + 2) (by omega) us 0 w2 HB2.out)
      go_wp2_with (((with_reducible show wpList _ _ _ _ _ _); refine wpList_store_mid rfl 87 _ _ rfl (w.heap.size + 2) 0 us.toArray rfl rfl HT.out HIF.out HOF.out ?_))
      refine bodyPost_ret (v := .agg us.toArray) ?_ rfl ⟨by rw [HUS.out], HBF.out⟩
      exact results_cell_row rfl _ _ (w.heap.size + 2) 87 _ (0, 0) _ rfl HRES.out Tryd.underlying87 rfl HIF.out
end Go.Proofs.YtcfdnifllehbjaaDoor.SpTimes
