/-
  What is proved: the model's MapOK answers the plain test of a map; the model's search of a key (contracts for the walks).
-/
import Derived.Test.YtealdpkgfmokpaaRows
import Derived.Test.YtealdpkgfmokpaaMapOk
import Derived.BigQuiet
namespace Go.Proofs.Ytealdpkgfmokpaa.MapOkS
open Go.ChangeShapes Go.WideShapes Go.ChangeAt Go.RowKit
open Sl (Sl Own Off)
open Dev Orm LawE MapP MapOk
open OpB (isCell l01In)
set_option linter.unusedVariables false

set_option maxRecDepth 100000 in
set_option maxHeartbeats 1600000 in
theorem specOk (w : World) (v : Value) (xs : List En) (h : Sl w 2 v xs.length (ec xs)) (q : Bool) (hq : decide (MOk xs) = q) :
    Calls Try.prog 79 #[v] w fun e w' => e = .returned (.bool q) ∧ Below w.heap.size w w' := by
  obtain ⟨a, cap, rfl, h1, h2, h3⟩ := h
  have H3 := Lib.hid h3
  unfold maxLen at h2
  clear h3
  have HNO := Lib.hid (show ∀ k, k < xs.length → ¬ Gd xs k → q = false from fun k hk hn => by rw [← hq]; exact decide_eq_false (fun h => hn (h.2 k hk)))
  have HLN := Lib.hid (show 11 < xs.length → q = false from fun hl => by rw [← hq]; exact decide_eq_false (fun h => by have := h.1; omega))
  have HYES := Lib.hid (show xs.length ≤ 11 → (∀ k, k < xs.length → Gd xs k) → q = true from fun hl hg => by rw [← hq]; exact decide_eq_true ⟨hl, hg⟩)
  clear hq
  generalize xs.length = n at *
  by_cases hl : 4096 < n
  · obtain rfl := HLN.out (by omega)
    go_enter Try.func79, Try.ntmps79
    go_wp2_with fail
    go_ret
    exact ⟨rfl, Below.refl _ _⟩
  go_enter Try.func79, Try.ntmps79
  go_wp2
  go_loopw [3] (fun i wz => ∃ (k : Nat) (wr : World), wr = wz ∧ k ≤ n ∧ i = .int .i64 k ∧ Hid (Below w.heap.size w wr ∧ ∀ j, j < k → Gd xs j)) (fun i _ => n - (Go.RowKit.intOf i).toNat)
  case atStart => exact ⟨0, _, rfl, by omega, rfl, Lib.hid ⟨Below.refl _ _, fun j hj => by omega⟩⟩
  case round =>
    obtain ⟨k, wr, rfl, hk, rfl, HJ⟩ := hrel
    by_cases hlt : k < n
    · obtain ⟨b, o, rfl, hc⟩ := H3.out (by omega)
      have c0 := hc (k * 2) (by omega)
      have c1 := hc (k * 2 + 1) (by omega)
      rw [← HJ.out.1.cell (World.block_lt_of_cell? _ _ c0), ec0] at c0
      rw [← HJ.out.1.cell (World.block_lt_of_cell? _ _ c1), ec1, ← Nat.add_assoc] at c1
      have HP : Hid (0 < k → wr.cell? ⟨b, o + (k - 1) * 2, none⟩ = some (.int .i64 (xs.getD (k - 1) (0, 0)).1)) := Lib.hid (fun h0 => by
        have c2 := hc ((k - 1) * 2) (by omega)
        rwa [← HJ.out.1.cell (World.block_lt_of_cell? _ _ c2), ec0] at c2)
      have HG := Lib.hid (show Gd xs k ↔ ((1 ≤ (xs.getD k (0, 0)).1 ∧ (xs.getD k (0, 0)).1 ≤ 9999) ∧ 0 ≤ (xs.getD k (0, 0)).2 ∧ (xs.getD k (0, 0)).2 ≤ 999999) ∧ (0 < k → (xs.getD (k - 1) (0, 0)).1 < (xs.getD k (0, 0)).1) by unfold Gd Kv; exact ⟨fun h => ⟨⟨⟨h.1.1, h.1.2.1⟩, h.1.2.2⟩, h.2⟩, fun h => ⟨⟨h.1.1.1, h.1.1.2, h.1.2⟩, h.2⟩⟩)
      have HN := Lib.hid (HNO.out k hlt)
      have HX := Lib.hid (fun hg => gd_next HJ.out.2 (k := k) hg)
      clear hc
      generalize (xs.getD (k - 1) (0, 0)).1 = y at *
      generalize xs.getD k (0, 0) = z at *
      obtain ⟨z0, z1⟩ := z
      simp only at c0 c1 HG
      have HLA := Lib.hid (fun u => l01In z0 1 9999 u)
      have HLB := Lib.hid (fun u => l01In z1 0 999999 u)
      have i1 : (k : Int) < (n : Int) := by omega
      have i3 : (0 : Int) ≤ (k : Int) := by omega
      by_cases g1 : 1 ≤ z0 ∧ z0 ≤ 9999
      case neg =>
        obtain rfl := HN.out (fun h => g1 (HG.out.1 h).1.1)
        rw [decide_eq_false g1] at HLA
        clear g1
        go_wp2
        go_quiet ((go_at_call 60; with_reducible exact Calls.quiet_of_same (HLA.out _)))
        go_wp2
        go_ret
        exact ⟨rfl, below_drewN HJ.out.1 _⟩
      rw [decide_eq_true g1] at HLA
      by_cases g2 : 0 ≤ z1 ∧ z1 ≤ 999999
      case neg =>
        obtain rfl := HN.out (fun h => g2 (HG.out.1 h).1.2)
        rw [decide_eq_false g2] at HLB
        clear g1 g2
        go_wp2
        go_quiet (first | (go_at_call 60; with_reducible exact Calls.quiet_of_same (HLA.out _)) | (go_at_call 60; with_reducible exact Calls.quiet_of_same (HLB.out _)))
        go_wp2
        go_ret
        exact ⟨rfl, below_drewN HJ.out.1 _⟩
      rw [decide_eq_true g2] at HLB
      by_cases hk0 : k = 0
      · have HN2 := Lib.hid (HX.out (HG.out.2 ⟨⟨g1, g2⟩, fun h => by omega⟩))
        have d0 : decide ((k : Int) > 0) = false := decide_eq_false (by omega)
        have d1 : decide (0 < (k : Int)) = false := decide_eq_false (by omega)
        have d2 : decide (0 < k) = false := decide_eq_false (by omega)
        clear g1 g2 HP hk0
        go_wp2
        go_quiet (first | (go_at_call 60; with_reducible exact Calls.quiet_of_same (HLA.out _)) | (go_at_call 60; with_reducible exact Calls.quiet_of_same (HLB.out _)))
        go_wp2
        go_roundw
        case rel => exact ⟨k + 1, _, rfl, by omega, by go_num, Lib.hid ⟨below_drewN HJ.out.1 _, HN2.out⟩⟩
        case measure => simp [Go.RowKit.intOf]; omega
      obtain ⟨l, rfl⟩ : ∃ l, k = l + 1 := ⟨k - 1, by omega⟩
      have c2 := HP.out (by omega)
      rw [Nat.add_sub_cancel] at c2
      have d0 : decide (((l + 1 : Nat) : Int) > 0) = true := decide_eq_true (by omega)
      have d1 : decide (0 < ((l + 1 : Nat) : Int)) = true := decide_eq_true (by omega)
      by_cases g3 : y ≥ z0
      · obtain rfl := HN.out (fun h => by have := (HG.out.1 h).2 (by omega); omega)
        have q3 : decide (y ≥ z0) = true := decide_eq_true g3
        clear g1 g2 g3 HP
        go_wp2
        go_quiet (first | (go_at_call 60; with_reducible exact Calls.quiet_of_same (HLA.out _)) | (go_at_call 60; with_reducible exact Calls.quiet_of_same (HLB.out _)))
        go_wp2
        go_ret
        exact ⟨rfl, below_drewN HJ.out.1 _⟩
      have q3 : decide (y ≥ z0) = false := decide_eq_false g3
      have HN2 := Lib.hid (HX.out (HG.out.2 ⟨⟨g1, g2⟩, fun h => by omega⟩))
      clear g1 g2 g3 HP
      go_wp2
      go_quiet (first | (go_at_call 60; with_reducible exact Calls.quiet_of_same (HLA.out _)) | (go_at_call 60; with_reducible exact Calls.quiet_of_same (HLB.out _)))
      go_wp2
      go_roundw
      case rel => exact ⟨l + 1 + 1, _, rfl, by omega, by go_num, Lib.hid ⟨below_drewN HJ.out.1 _, HN2.out⟩⟩
      case measure => simp [Go.RowKit.intOf]; omega
    · have hk2 := Lib.hid (show k = n by omega)
      by_cases h11 : n ≤ 11
      · obtain rfl := HYES.out h11 (fun j hj => HJ.out.2 j (by have := hk2.out; omega))
        have d11 : decide ((n : Int) ≤ 11) = true := decide_eq_true (by omega)
        go_wp2
        go_ret
        exact ⟨rfl, HJ.out.1⟩
      · obtain rfl := HLN.out (by omega)
        have d11 : decide ((n : Int) ≤ 11) = false := decide_eq_false (by omega)
        go_wp2
        go_ret
        exact ⟨rfl, HJ.out.1⟩
end Go.Proofs.Ytealdpkgfmokpaa.MapOkS
