/-
  What is proved: both MapGet answer the plain value and code (contracts for the walks); the model's search of a key.
-/
import Derived.Test.YtealdpkgfmokpaaRows
import Derived.Test.YtealdpkgfmokpaaMapW
import Derived.Test.YtealdpkgfmokpaaMapOkS
namespace Go.Proofs.Ytealdpkgfmokpaa.MapGet
open Go.ChangeShapes Go.WideShapes Go.ChangeAt Go.RowKit Go.Maps
open Sl (Sl Own Off)
open Dev Orm LawE MapP MapOk MapOkS MapW
set_option linter.unusedVariables false

/-- The code of a map, and of what is to be done with it. -/
def mf (xs : List En) (r q : Bool) : Int := if 4096 < xs.length then 2 else if r = true ∧ q = true then 0 else 1
set_option maxRecDepth 100000 in
theorem mapFault (w : World) (v : Value) (xs : List En) (h : Sl w 2 v xs.length (ec xs)) (r q : Bool) (hq : decide (MOk xs) = q) :
    Calls Try.prog 84 #[v, .bool r] w fun e w' => e = .returned (.int .i64 (mf xs r q)) ∧ Below w.heap.size w w' := by
  have HI := Lib.hid (implOk w v xs h q hq)
  have HM := Lib.hid (show mf xs r q = if 4096 < xs.length then 2 else if r = true ∧ q = true then 0 else 1 from rfl)
  obtain ⟨a, cap, rfl, _, _⟩ := h.form
  clear h hq
  generalize mf xs r q = m at *
  generalize xs.length = n at *
  by_cases hl : 4096 < n
  · obtain rfl : m = 2 := by rw [HM.out, if_pos hl]
    go_enter Try.func84, Try.ntmps84
    go_wp2_with fail
    go_ret
    exact ⟨rfl, Below.refl _ _⟩
  cases r with
  | false =>
    obtain rfl : m = 1 := by rw [HM.out, if_neg hl]; simp
    go_enter Try.func84, Try.ntmps84
    go_wp2_with fail
    go_ret
    exact ⟨rfl, Below.refl _ _⟩
  | true =>
    cases q with
    | false =>
      obtain rfl : m = 1 := by rw [HM.out, if_neg hl]; simp
      go_enter Try.func84, Try.ntmps84
      go_wp2_with fail
      refine HI.out.mono ?_
      rintro e w1 ⟨rfl, hb⟩
      have HB := Lib.hid hb
      clear hb
      go_wp2_with fail
      go_ret
      exact ⟨rfl, HB.out⟩
    | true =>
      obtain rfl : m = 0 := by rw [HM.out, if_neg hl]; simp
      go_enter Try.func84, Try.ntmps84
      go_wp2_with fail
      refine HI.out.mono ?_
      rintro e w1 ⟨rfl, hb⟩
      have HB := Lib.hid hb
      clear hb
      go_wp2_with fail
      go_ret
      exact ⟨rfl, HB.out⟩

/-- What MapGet answers. -/
def gv (xs : List En) (q : Bool) (z : Int) : Int := if q = true then vl xs z else 0
def gc (xs : List En) (q : Bool) (z : Int) : Int := if 4096 < xs.length then 2 else if q = true then (if z ∈ ks xs then 0 else 5) else 1

/-- The place of the first entry that has the key. -/
def FPost (xs : List En) (z : Int) (e : Ending) : Prop := ∃ r : Int, e = .returned (.int .i64 r) ∧ Hid (r = -1 ∧ ¬ z ∈ ks xs ∨ ∃ j : Nat, r = j ∧ j < xs.length ∧ (xs.getD j (0, 0)).1 = z ∧ ∀ i, i < j → (xs.getD i (0, 0)).1 ≠ z)
set_option maxRecDepth 100000 in
set_option maxHeartbeats 1600000 in
theorem l10Find (w : World) (v : Value) (xs : List En) (h : Sl w 2 v xs.length (ec xs)) (z : Int) :
    Calls Try.prog 143 #[v, .int .i64 z] w fun e w' => FPost xs z e ∧ w' = w := by
  have HNK := Lib.hid (show (∀ i, i < xs.length → (xs.getD i (0, 0)).1 ≠ z) → FPost xs z (.returned (.int .i64 (-1))) from fun hh => ⟨_, rfl, Lib.hid (.inl ⟨rfl, no_key hh⟩)⟩)
  have HYK := Lib.hid (show ∀ j : Nat, j < xs.length → (xs.getD j (0, 0)).1 = z → (∀ i, i < j → (xs.getD i (0, 0)).1 ≠ z) → FPost xs z (.returned (.int .i64 (j : Int))) from fun j h1 h2 h3 => ⟨_, rfl, Lib.hid (.inr ⟨j, rfl, h1, h2, h3⟩)⟩)
  obtain ⟨a, cap, rfl, h1, h2, h3⟩ := h
  have H3 := Lib.hid h3
  unfold maxLen at h2
  clear h3
  generalize FPost xs z = FP at *
  generalize xs.length = n at *
  go_enter Try.func143, Try.ntmps143
  go_wp2
  go_loopw [5] (fun i wz => ∃ (k : Nat), w = wz ∧ k ≤ n ∧ i = .int .i64 k ∧ Hid (∀ i, i < k → (xs.getD i (0, 0)).1 ≠ z)) (fun i _ => n - (Go.RowKit.intOf i).toNat)
  case atStart => exact ⟨0, rfl, by omega, rfl, Lib.hid (fun i hi => by omega)⟩
  case round =>
    obtain ⟨k, rfl, hk, rfl, HJ⟩ := hrel
    by_cases hlt : k < n
    · obtain ⟨b, o, rfl, hc⟩ := H3.out (by omega)
      have c0 := hc (k * 2) (by omega)
      rw [ec0] at c0
      have HY := Lib.hid (HYK.out k hlt)
      have HN := Lib.hid (show (xs.getD k (0, 0)).1 ≠ z → ∀ i, i < k + 1 → (xs.getD i (0, 0)).1 ≠ z from fun hne i hi => by
        by_cases e : i = k
        · rw [e]; exact hne
        · exact HJ.out i (by omega))
      clear hc
      generalize (xs.getD k (0, 0)).1 = y at *
      by_cases hy : y = z
      · have HE := Lib.hid (HY.out hy HJ.out)
        have b1 : (y == z) = true := by simp [hy]
        have b2 : decide (y = z) = true := decide_eq_true hy
        clear hy
        go_wp2
        go_ret
        exact ⟨HE.out, rfl⟩
      · have HE := Lib.hid (HN.out hy)
        have b1 : (y == z) = false := beq_eq_false_iff_ne.2 hy
        have b2 : decide (y = z) = false := decide_eq_false hy
        clear hy
        go_wp2
        go_roundw
        case rel => exact ⟨k + 1, by first | rfl | trivial, by omega, by go_num, HE⟩
        case measure => simp [Go.RowKit.intOf]; omega
    · have hk2 := Lib.hid (show k = n by omega)
      have HE := Lib.hid (HNK.out (fun i hi => HJ.out i (by have := hk2.out; omega)))
      go_wp2
      go_ret
      exact ⟨HE.out, rfl⟩

end Go.Proofs.Ytealdpkgfmokpaa.MapGet
