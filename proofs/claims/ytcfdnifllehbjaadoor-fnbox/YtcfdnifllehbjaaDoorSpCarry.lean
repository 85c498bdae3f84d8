/-
  What is proved: the model's carrying of five parts is the plain folding, done three times (contract for the walks).
-/
import Derived.Test.YtcfdnifllehbjaaDoorRows
import Derived.Test.YtcfdnifllehbjaaDoorSpParts
namespace Go.Proofs.YtcfdnifllehbjaaDoor.SpCarry
open Go.ChangeShapes Go.WideShapes Go.ChangeAt Go.RowKit
open Arr (Row)
open Five Poly
open SpParts (i64_wrap i64_mask26)
set_option linter.unusedVariables false

/-- Parts of which the first i are carried. -/
def cr (u : Nat → Nat) (i j : Nat) : Nat := if j < i then dg u j else if j = i then u i + ov u i else u j
theorem cr_zero (u : Nat → Nat) : cr u 0 = u := by
  funext j
  unfold cr
  rw [if_neg (by omega)]
  split
  · rename_i h
    rw [h]
    exact Nat.add_zero _
  · rfl
theorem cr_self (u : Nat → Nat) (i : Nat) : cr u i i = u i + ov u i := by
  unfold cr
  rw [if_neg (by omega), if_pos rfl]
theorem cr_next (u : Nat → Nat) (i : Nat) : cr u i (i + 1) = u (i + 1) := by
  unfold cr
  rw [if_neg (by omega), if_neg (by omega)]
theorem cr_step (u : Nat → Nat) (i : Nat) (s d : Int) (hi : i < 4) (hs : s = ((u (i + 1) + ov u (i + 1) : Nat) : Int)) (hd : d = (dg u i : Int)) :
    ((cn .i64 (cr u i)).set (i + 1) (.int .i64 s)).set i (.int .i64 d) = cn .i64 (cr u (i + 1)) := by
  rw [cn_set .i64 (cr u i) (fun j => if j = i + 1 then u (i + 1) + ov u (i + 1) else cr u i j) (i + 1) s (by omega) (by rw [if_pos rfl]; exact hs) (fun j hj hne => (if_neg (by omega)).symm)]
  refine cn_set .i64 _ _ i d (by omega) ?_ ?_
  · rw [hd]
    unfold cr
    rw [if_pos (by omega)]
  · intro j hj hne
    by_cases e : j = i + 1
    · rw [if_pos e, e, cr_self]
    · rw [if_neg e]
      unfold cr
      by_cases h : j < i
      · rw [if_pos h, if_pos (by omega)]
      · rw [if_neg h, if_neg (by omega), if_neg (by omega), if_neg (by omega)]
theorem cr_fold (u : Nat → Nat) (s d : Int) (hs : s = ((dg u 0 + 5 * ov u 5 : Nat) : Int)) (hd : d = (dg u 4 : Int)) :
    ((cn .i64 (cr u 4)).set 0 (.int .i64 s)).set 4 (.int .i64 d) = cn .i64 (fo u) := by
  rw [cn_set .i64 (cr u 4) (fun j => if j = 0 then dg u 0 + 5 * ov u 5 else cr u 4 j) 0 s (by omega) (by rw [if_pos rfl]; exact hs) (fun j hj hne => (if_neg (by omega)).symm)]
  refine cn_set .i64 _ _ 4 d (by omega) ?_ ?_
  · rw [hd, fo_pos u 4 (by omega)]
  · intro j hj hne
    by_cases e : j = 0
    · rw [if_pos e, e, fo_zero]
    · rw [if_neg e, fo_pos u j (by omega)]
      unfold cr
      rw [if_pos (by omega)]
/-- Folded k times. -/
def fk (v : Nat → Nat) : Nat → Nat → Nat
  | 0 => v
  | k + 1 => fo (fk v k)
theorem fk_small {v : Nat → Nat} (h : Small v) : ∀ k, Small (fk v k)
  | 0 => h
  | k + 1 => fun j hj => by have := (fo_small (fk_small h k)).1 j hj; show fo (fk v k) j < _; omega

set_option maxRecDepth 100000 in
set_option maxHeartbeats 3200000 in
theorem l03Carry (v : Nat → Nat) (hv : Small v) (w : World) :
    Calls Tryd.prog 69 #[.agg (cn .i64 v).toArray] w fun e' w' => e' = .returned (.agg (cn .i64 (fo (fo (fo v)))).toArray) ∧ Below w.heap.size w w' := by
  have HSM := Lib.hid (fk_small hv)
  have HF0 := Lib.hid (show fk v 0 = v from rfl)
  have HFS := Lib.hid (show ∀ k, fk v (k + 1) = fo (fk v k) from fun _ => rfl)
  have HF3 := Lib.hid (show fo (fo (fo v)) = fk v 3 from rfl)
  clear hv
  generalize hys : cn .i64 v = ys at *
  have HYS := Lib.hid hys
  clear hys
  generalize fo (fo (fo v)) = G at *
  generalize fk v = F at *
  go_enter Tryd.func69, Tryd.ntmps69
  have HW := Lib.hid (Arr.two_new w ys.toArray)
  go_wp2
  generalize hW : (w.alloc _).alloc _ = W
  obtain ⟨z1, hz1, R0, R1, HB, hsz⟩ : ∃ z1 : List Value, z1.length = 5 ∧ Row W w.heap.size 87 ys ∧ Row W (w.heap.size + 1) 87 z1 ∧ Below w.heap.size w W ∧ w.heap.size + 2 ≤ W.heap.size := by
    rw [← hW]
    exact ⟨_, rfl, HW.out _ _ _⟩
  clear hW HW
  have Z1 := Lib.hid hz1
  rw [← HYS.out, ← HF0.out] at R0
  have RR := Lib.hid (show Row W w.heap.size 87 (cn .i64 (F 0)) ∧ Row W (w.heap.size + 1) 87 z1 ∧ Below w.heap.size w W from ⟨R0, R1, HB⟩)
  clear hz1 R0 R1 HB hsz
  go_loopw [3] (fun i wz => ∃ (k : Nat) (wr : World), k ≤ 3 ∧ i = .int .i64 k ∧ wr = wz ∧ Hid (Row wr w.heap.size 87 (cn .i64 (F k)) ∧ Row wr (w.heap.size + 1) 87 z1 ∧ Below w.heap.size w wr)) (fun i _ => 3 - (intOf i).toNat)
  case atStart => exact ⟨0, _, by omega, rfl, rfl, RR⟩
  case round =>
    clear RR
    obtain ⟨k, wo, hk, rfl, rfl, HX⟩ := hrel
    by_cases hlt : k < 3
    · have hk3 : (k : Int) < 3 := by omega
      have HU := Lib.hid (HSM.out k)
      have HNX := Lib.hid (HFS.out k)
      generalize F k = u at *
      have HX0 : Hid (Row wo w.heap.size 87 (cn .i64 (cr u 0)) ∧ Row wo (w.heap.size + 1) 87 z1 ∧ Below w.heap.size w wo) := Lib.hid (by rw [cr_zero]; exact HX.out)
      clear HX
      go_wp2
      go_loopw [4] (fun i wz => ∃ (j : Nat) (wr : World), j ≤ 4 ∧ i = .int .i64 j ∧ wr = wz ∧ Hid (Row wr w.heap.size 87 (cn .i64 (cr u j)) ∧ Row wr (w.heap.size + 1) 87 z1 ∧ Below w.heap.size w wr)) (fun i _ => 4 - (intOf i).toNat)
      case atStart => exact ⟨0, _, by omega, rfl, rfl, HX0⟩
      case round =>
        clear HX0
        obtain ⟨j, wr, hj, rfl, rfl, HX⟩ := hrel
        by_cases hjt : j < 4
        · have j4 : (j : Int) < 4 := by omega
          have j5 : (j : Int) < 5 := by omega
          have j0 : (0 : Int) ≤ (j : Int) := by omega
          have c0 := HX.out.1.cell j
          rw [cn_at .i64 _ j (by omega), cr_self] at c0
          have c1 := HX.out.1.cell (j + 1)
          rw [cn_at .i64 _ (j + 1) (by omega), cr_next] at c1
          have f0 := HX.out.1.frozen j
          have f1 := HX.out.1.frozen (j + 1)
          have b0 := HU.out j (by omega)
          have b1 := HU.out (j + 1) (by omega)
          have o0 := ov_lt HU.out j (by omega)
          have o1 := ov_lt HU.out (j + 1) (by omega)
          have HST := Lib.hid (fun s d => cr_step u j s d hjt)
          have HOV := Lib.hid (show ov u (j + 1) = (u j + ov u j) / 67108864 from rfl)
          have HDG := Lib.hid (show dg u j = (u j + ov u j) % 67108864 from rfl)
          obtain ⟨a, ea⟩ : ∃ a, u j + ov u j = a := ⟨_, rfl⟩
          obtain ⟨b, eb⟩ : ∃ b, u (j + 1) = b := ⟨_, rfl⟩
          rw [ea] at c0 HOV HDG
          rw [eb] at c1 HST b1
          rw [HOV.out] at HST o1
          rw [HDG.out] at HST
          obtain ⟨a1, ea1⟩ : ∃ a1, a / 67108864 = a1 := ⟨_, rfl⟩
          rw [ea1] at HST o1
          have hdv : (a : Int) / 67108864 = (a1 : Int) := by omega
          have hand := i64_mask26 a (by omega)
          have hwb : IntKind.i64.wrap ((b : Int) + (a1 : Int)) = ((b + a1 : Nat) : Int) := by rw [← i64_wrap (b + a1) (by omega)]; rfl
          generalize b + a1 = s at *
          generalize a % 67108864 = d at *
          obtain ⟨j', ej'⟩ : ∃ j', j + 1 = j' := ⟨_, rfl⟩
          have e5 : (j : Int) + 1 = (j' : Int) := by omega
          have q3 : (j' : Int) < 5 := by omega
          have q4 : (0 : Int) ≤ (j' : Int) := by omega
          have wj' : IntKind.i64.wrap (j' : Int) = j' := by rw [IntKind.wrap_i64]; omega
          have hne : j ≠ j' := by omega
          have hne2 : j' ≠ j := by omega
          rw [ej'] at c1 f1 HST
          have HEJ := Lib.hid ej'
          have hann : (0 : Int) ≤ (a : Int) := by omega
          clear ea eb ea1 b0 b1 o0 o1 HOV HDG ej'
          have q0 : ∀ k', (World.mk wr.heap wr.tape k' wr.os wr.output).cell? ⟨w.heap.size, j, none⟩ = some (.int .i64 (a : Int)) := fun _ => c0
          have q1 : ∀ k', (World.mk wr.heap wr.tape k' wr.os wr.output).cell? ⟨w.heap.size, j', none⟩ = some (.int .i64 (b : Int)) := fun _ => c1
          go_wp2
          go_still_tail 10, (by kernel_rfl)
          clear q0 q1
          change wpList _ _ _ _ _ wr.drew
          go_wp2
          go_roundw
          case rel =>
            obtain ⟨h1, h2, h3⟩ := HX.out
            refine ⟨j + 1, _, by omega, by first | go_num | (have := HEJ.out; simp; omega), rfl, Lib.hid ⟨?_, ((h2.set_far _ _ _ (by omega)).drew).set_far _ _ _ (by omega), ((h3.setCell (show w.heap.size ≤ w.heap.size from Nat.le_refl _) _).drew).setCell (show w.heap.size ≤ w.heap.size from Nat.le_refl _) _⟩⟩
            have h5 := ((h1.set j' (.int .i64 (s : Int))).drew).set j (.int .i64 (d : Int))
            rw [HST.out _ _ rfl rfl] at h5
            rw [HEJ.out]
            exact h5
          case measure => simp [intOf]; omega
        · obtain rfl : j = 4 := by omega
          have c0 := HX.out.1.cell 0
          have e0 : cr u 4 0 = dg u 0 := by unfold cr; rw [if_pos (by omega)]
          rw [cn_at .i64 _ 0 (by omega), e0] at c0
          have c4 := HX.out.1.cell 4
          rw [cn_at .i64 _ 4 (by omega), cr_self] at c4
          have f0 := HX.out.1.frozen 0
          have f4 := HX.out.1.frozen 4
          have HST := Lib.hid (cr_fold u)
          have b4 := HU.out 4 (by omega)
          have o4 := ov_lt HU.out 4 (by omega)
          have o5 := ov_lt HU.out 5 (by omega)
          have hd0 := dg_lt u 0
          have HOV := Lib.hid (show ov u 5 = (u 4 + ov u 4) / 67108864 from rfl)
          have HDG := Lib.hid (show dg u 4 = (u 4 + ov u 4) % 67108864 from rfl)
          obtain ⟨a, ea⟩ : ∃ a, u 4 + ov u 4 = a := ⟨_, rfl⟩
          rw [ea] at c4 HOV HDG
          rw [HDG.out] at HST
          obtain ⟨a1, ea1⟩ : ∃ a1, a / 67108864 = a1 := ⟨_, rfl⟩
          rw [HOV.out, ea1] at HST o5
          have hdv : (a : Int) / 67108864 = (a1 : Int) := by omega
          have hand := i64_mask26 a (by omega)
          obtain ⟨m, em⟩ : ∃ m, 5 * a1 = m := ⟨_, rfl⟩
          rw [em] at HST
          have hwm : IntKind.i64.wrap (5 * (a1 : Int)) = (m : Int) := by rw [← i64_wrap m (by omega), ← em]; rfl
          generalize dg u 0 = d0 at *
          have hwb : IntKind.i64.wrap ((d0 : Int) + (m : Int)) = ((d0 + m : Nat) : Int) := by rw [← i64_wrap (d0 + m) (by omega)]; rfl
          generalize d0 + m = s at *
          generalize a % 67108864 = d at *
          have hann : (0 : Int) ≤ (a : Int) := by omega
          clear ea ea1 em b4 o4 o5 hd0 HOV HDG e0
          go_wp2
          go_roundw
          case rel =>
            obtain ⟨h1, h2, h3⟩ := HX.out
            refine ⟨k + 1, _, by omega, by go_num, rfl, Lib.hid ⟨?_, (h2.set_far _ _ _ (by omega)).set_far _ _ _ (by omega), (h3.setCell (show w.heap.size ≤ w.heap.size from Nat.le_refl _) _).setCell (show w.heap.size ≤ w.heap.size from Nat.le_refl _) _⟩⟩
            have h5 := (h1.set 0 (.int .i64 (s : Int))).set 4 (.int .i64 (d : Int))
            rw [HST.out _ _ rfl rfl] at h5
            rw [HNX.out]
            exact h5
          case measure => simp [intOf]; omega
    · obtain rfl : k = 3 := by omega
      obtain ⟨h1, h2, h3⟩ := HX.out
      have HRR := Lib.hid (show Row wo w.heap.size 87 (cn .i64 G) by rw [HF3.out]; exact h1)
      have HT := Lib.hid (there_row h2 Z1.out .i64 G)
      have HRES := Lib.hid (sets_row h2 Z1.out .i64 G)
      have HBF := Lib.hid (Arr.below_sets (B := w.heap.size) (a := w) (w.heap.size + 1) (by omega) (cn .i64 G) 0 wo h3)
      have HI4 := Lib.hid (infoI G)
      have H1 := Lib.hid (cn_one .i64 G)
      clear h1 h2 h3 HX
      go_wp2_with (first
        | ((with_reducible show wpList _ _ _ _ _ _); refine wpList_load_row rfl 87 _ rfl w.heap.size rfl 87 _ (0, 0) _ HRR.out Tryd.underlying87 rfl HI4.out ?_)
        | ((with_reducible show wpList _ _ _ _ _ _); refine wpList_store_mid rfl 87 _ _ rfl (w.heap.size + 1) 0 (cn .i64 G).toArray rfl rfl HT.out HI4.out H1.out ?_))
      refine bodyPost_ret (v := .agg (cn .i64 G).toArray) ?_ rfl ⟨rfl, HBF.out⟩
      exact results_cell_row rfl _ _ (w.heap.size + 1) 87 _ (0, 0) _ rfl HRES.out Tryd.underlying87 rfl HI4.out
end Go.Proofs.YtcfdnifllehbjaaDoor.SpCarry
