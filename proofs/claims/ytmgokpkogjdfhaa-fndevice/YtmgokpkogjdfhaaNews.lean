/-
  What is proved: new devices: the program and the model answer the same plain device, of the call's own (contracts for the walks).
-/
import Derived.Test.YtmgokpkogjdfhaaRows
import Derived.Test.YtmgokpkogjdfhaaWrites
namespace Go.Proofs.Ytmgokpkogjdfhaa.News
open Go.ChangeShapes Go.WideShapes Go.ChangeAt Go.RowKit
open Sl (Sl Own Off)
open OpenSl (tc nc pc)
open Dev Cop Copied
set_option linter.unusedVariables false

def zr : List ByteArray := List.replicate 40 ByteArray.empty
theorem zr_len : zr.length = 40 := by unfold zr; simp
theorem zr_tc (j : Nat) : tc zr j = .string ByteArray.empty := by
  unfold tc zr
  by_cases h : j < 40
  · rw [List.getD_eq_getElem?_getD, List.getElem?_replicate, if_pos h]; rfl
  · rw [List.getD_eq_getElem?_getD, List.getElem?_eq_none (by simp; omega)]; rfl
/-- A result's place. -/
theorem place (w : World) (t' : TypeId) : ∃ W, w.alloc (.cells #[.slice none 0 0, .slice none 0 0] t') = W ∧ Below w.heap.size w W ∧ w.heap.size < W.heap.size ∧ W.cell? ⟨w.heap.size, 0, none⟩ = some (.slice none 0 0) ∧ W.cell? ⟨w.heap.size, 1, none⟩ = some (.slice none 0 0) ∧ W.frozen? ⟨w.heap.size, 0, none⟩ = false ∧ W.frozen? ⟨w.heap.size, 1, none⟩ = false :=
  ⟨_, rfl, (Below.refl _ w).alloc (Nat.le_refl _) _, by simp, by go_simp, by go_simp, by go_simp, by go_simp⟩
theorem empty_own (u : World) (base : Nat) (a : Option Addr) : Own u base 2 (.slice a 0 0) ([] : List (Int × ByteArray)).length (pc []) := ⟨a, 0, rfl, Nat.le_refl _, by unfold maxLen; omega, fun h => absurd h (by simp)⟩

set_option maxRecDepth 100000 in
set_option maxHeartbeats 800000 in
theorem impl (w : World) : Calls Try.prog 29 #[] w fun e w' => ∃ r, e = .returned r ∧ DevO w' w.heap.size r zr [] ∧ Below w.heap.size w w' := by
  obtain ⟨W, eW, hB, hlt, r0, r1, f0, f1⟩ := place w 26
  obtain ⟨g, o, w1, hmk, hown, hbel⟩ := made (P := Try.prog) W 23 9 1 (.string ByteArray.empty) 16 Try.underlying23 LawS.info9 40 (by omega) (by unfold maxLen; omega) (tc zr) (fun j hj => by rw [LawS.made_one _ rfl 40 j hj, zr_tc])
  have hd : DevO w1 W.heap.size (.agg #[.slice (some ⟨g, o, none⟩) 40 40, .slice none 0 0]) zr [] := ⟨_, _, rfl, by rw [zr_len]; exact hown, empty_own _ _ _, apart_empty _ _ _⟩
  have q0 := (hbel.cell (p := ⟨w.heap.size, 0, none⟩) hlt).trans r0
  have q1 := (hbel.cell (p := ⟨w.heap.size, 1, none⟩) hlt).trans r1
  have q2 := (hbel.frozen (p := ⟨w.heap.size, 0, none⟩) hlt).trans f0
  have q3 := (hbel.frozen (p := ⟨w.heap.size, 1, none⟩) hlt).trans f1
  obtain ⟨F, eF, hdF, R0, R1, hbF⟩ := put_dev hd hlt q0 q1
  have HD := Lib.hid (hdF.base hB.size)
  have HBF := Lib.hid (hB.trans ((hbel.mono hB.size).trans (hbF _ (Nat.le_refl _))))
  simp only [Int.cast_ofNat_Int] at hmk
  clear hd hdF hbF hown hbel hB
  go_enter Try.func29, Try.ntmps29
  go_wp2_with fail
  refine bodyPost_ret (v := .agg #[.slice (some ⟨g, o, none⟩) 40 40, .slice none 0 0]) (by simp [results, Try.results29, go_sem, R0, R1]) rfl ⟨_, rfl, HD.out, HBF.out⟩

set_option maxRecDepth 100000 in
set_option maxHeartbeats 800000 in
theorem spec (w : World) : Calls Try.prog 28 #[] w fun e w' => ∃ r, e = .returned r ∧ DevO w' w.heap.size r zr [] ∧ Below w.heap.size w w' := by
  obtain ⟨W, eW, hB, hlt, r0, r1, f0, f1⟩ := place w 26
  obtain ⟨g, o, w1, hmk, hown, hbel⟩ := made (P := Try.prog) W 23 9 1 (.string ByteArray.empty) 16 Try.underlying23 LawS.info9 40 (by omega) (by unfold maxLen; omega) (tc zr) (fun j hj => by rw [LawS.made_one _ rfl 40 j hj, zr_tc])
  obtain ⟨w2, ew2⟩ : ∃ w2, w1.alloc (.cells #[] 64) = w2 := ⟨_, rfl⟩
  have hb2 : Below w1.heap.size w1 w2 := by rw [← ew2]; exact (Below.refl _ _).alloc (Nat.le_refl _) _
  have hbel2 := hbel.trans (hb2.mono hbel.size)
  have hd : DevO w2 W.heap.size (.agg #[.slice (some ⟨g, o, none⟩) 40 40, .slice (some ⟨w1.heap.size, 0, none⟩) 0 0]) zr [] := ⟨_, _, rfl, by rw [zr_len]; exact hown.below hb2, empty_own _ _ _, apart_empty _ _ _⟩
  have q0 := (hbel2.cell (p := ⟨w.heap.size, 0, none⟩) hlt).trans r0
  have q1 := (hbel2.cell (p := ⟨w.heap.size, 1, none⟩) hlt).trans r1
  have q2 := (hbel2.frozen (p := ⟨w.heap.size, 0, none⟩) hlt).trans f0
  have q3 := (hbel2.frozen (p := ⟨w.heap.size, 1, none⟩) hlt).trans f1
  obtain ⟨F, eF, hdF, R0, R1, hbF⟩ := put_dev hd hlt q0 q1
  have HD := Lib.hid (hdF.base hB.size)
  have HBF := Lib.hid (hB.trans ((hbel2.mono hB.size).trans (hbF _ (Nat.le_refl _))))
  simp only [Int.cast_ofNat_Int] at hmk
  clear hd hdF hbF hown hbel hB hb2 hbel2
  go_enter Try.func28, Try.ntmps28
  go_wp2_with fail
  refine bodyPost_ret (v := .agg #[.slice (some ⟨g, o, none⟩) 40 40, .slice (some ⟨w1.heap.size, 0, none⟩) 0 0]) (by simp [results, Try.results28, go_sem, R0, R1]) rfl ⟨_, rfl, HD.out, HBF.out⟩
end Go.Proofs.Ytmgokpkogjdfhaa.News
