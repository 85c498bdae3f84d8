/-
  What is proved: the laws' comparison of two like devices says true (contracts for the walks).
-/
import Derived.Test.YtmgokpkogjdfhaaRows
import Derived.Test.YtmgokpkogjdfhaaSame2
namespace Go.Proofs.Ytmgokpkogjdfhaa.SameL
open Go.ChangeShapes Go.WideShapes Go.ChangeAt Go.RowKit
open Sl (Sl Own Off)
open OpenSl (tc nc pc)
open Dev Same
open LawI (pc_even pc_odd)
set_option linter.unusedVariables false

set_option maxRecDepth 100000 in
set_option maxHeartbeats 800000 in
theorem sameTexts (w : World) (u v : Value) (ts : List ByteArray) (hu : Sl w 1 u ts.length (tc ts)) (hv : Sl w 1 v ts.length (tc ts)) :
    Calls Try.prog 22 #[u, v] w fun e w' => e = .returned (.bool true) ∧ Below w.heap.size w w' := by
  obtain ⟨a, cap, rfl, h1, h2, h3⟩ := hu
  obtain ⟨a', cap', rfl, h1', h2', h3'⟩ := hv
  have H3 := Lib.hid h3
  have H3' := Lib.hid h3'
  clear h3 h3'
  unfold maxLen at h2 h2'
  generalize ts.length = n at *
  go_enter Try.func22, Try.ntmps22
  go_wp2
  go_loopw [5] (fun i wr => ∃ k m : Nat, k ≤ n ∧ i = .int .i64 k ∧ wr = w.drewN m) (fun i _ => n - (intOf i).toNat)
  case atStart => exact ⟨0, 0, by omega, rfl, rfl⟩
  case round =>
    obtain ⟨k, m, hk, rfl, rfl⟩ := hrel
    by_cases hlt : k < n
    · obtain ⟨b, o, rfl, hc⟩ := H3.out (by omega)
      obtain ⟨b', o', rfl, hc'⟩ := H3'.out (by omega)
      have c0 := hc k (by omega)
      have c1 := hc' k (by omega)
      unfold tc at c0 c1
      clear hc hc'
      generalize ts.getD k ByteArray.empty = s at *
      go_wp2
      go_quiet (fail)
      go_wp2
      go_roundw
      case rel => exact ⟨k + 1, _, by omega, by go_num, rfl⟩
      case measure => simp [intOf]; omega
    · go_wp2
      go_ret
      exact ⟨rfl, below_drewN (Below.refl _ _) m⟩

set_option maxRecDepth 100000 in
set_option maxHeartbeats 1600000 in
theorem sameDevice (w : World) (u v : Value) (ts : List ByteArray) (xs : List (Int × ByteArray)) (hu : Dev w u ts xs) (hv : Dev w v ts xs) :
    Calls Try.prog 23 #[u, v] w fun e w' => e = .returned (.bool true) ∧ Below w.heap.size w w' := by
  obtain ⟨sv, uv, rfl, h1, ⟨a', cap', rfl, h1', h2', h3'⟩⟩ := hu
  obtain ⟨sv2, uv2, rfl, g1, ⟨b', dap', rfl, g1', g2', g3'⟩⟩ := hv
  obtain ⟨W, eW, hB, c0, c1, c2, c3⟩ := Same2.two w 26 26 sv (.slice a' xs.length cap') sv2 (.slice b' xs.length dap')
  have HB := Lib.hid hB
  have H1 := Lib.hid (h1.below hB)
  have G1 := Lib.hid (g1.below hB)
  have H3 := Lib.hid h3'
  have G3 := Lib.hid g3'
  unfold maxLen at h2' g2'
  clear h3' g3' h1 g1 hB
  go_enter Try.func23, Try.ntmps23
  go_wp2_with fail
  clear eW
  refine (sameTexts W sv sv2 ts H1.out G1.out).mono ?_
  rintro e V ⟨rfl, hb⟩
  have e1 := (hb.cell (World.block_lt_of_cell? W _ c1)).trans c1
  have e3 := (hb.cell (World.block_lt_of_cell? W _ c3)).trans c3
  have HBV := Lib.hid (HB.out.trans (hb.mono HB.out.size))
  clear hb c0 c1 c2 c3
  generalize xs.length = m at *
  go_wp2
  go_loopw [5] (fun i wr => ∃ k f : Nat, k ≤ m ∧ i = .int .i64 k ∧ wr = V.drewN f) (fun i _ => m - (intOf i).toNat)
  case atStart => exact ⟨0, 0, by omega, rfl, rfl⟩
  case round =>
    obtain ⟨k2, f, hk2, rfl, rfl⟩ := hrel
    by_cases hlt2 : k2 < m
    · obtain ⟨bb, o, rfl, hc⟩ := H3.out (by omega)
      obtain ⟨bb', o', rfl, hc'⟩ := G3.out (by omega)
      have x0 := hc (k2 * 2) (by omega)
      have x1 := hc (k2 * 2 + 1) (by omega)
      have x2 := hc' (k2 * 2) (by omega)
      have x3 := hc' (k2 * 2 + 1) (by omega)
      rw [← HBV.out.cell (World.block_lt_of_cell? w _ x0), pc_even] at x0
      rw [← HBV.out.cell (World.block_lt_of_cell? w _ x2), pc_even] at x2
      rw [← HBV.out.cell (World.block_lt_of_cell? w _ x1), pc_odd, ← Nat.add_assoc] at x1
      rw [← HBV.out.cell (World.block_lt_of_cell? w _ x3), pc_odd, ← Nat.add_assoc] at x3
      clear hc hc'
      generalize xs.getD k2 (0, ByteArray.empty) = s at *
      obtain ⟨z, s⟩ := s
      simp only at x0 x1 x2 x3
      have hne := ioNe z z s s
      rw [decide_eq_true (show z = z ∧ s = s from ⟨rfl, rfl⟩)] at hne
      have i1 : (k2 : Int) < (m : Int) := by omega
      have i3 : (0 : Int) ≤ (k2 : Int) := by omega
      go_wp2
      go_quiet (fail)
      go_wp2
      go_roundw
      case rel => exact ⟨k2 + 1, _, by omega, by go_num, rfl⟩
      case measure => simp [intOf]; omega
    · go_wp2
      go_ret
      exact ⟨rfl, below_drewN HBV.out f⟩
end Go.Proofs.Ytmgokpkogjdfhaa.SameL
