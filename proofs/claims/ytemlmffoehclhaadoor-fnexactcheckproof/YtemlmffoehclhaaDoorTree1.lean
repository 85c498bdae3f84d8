/-
  What is proved: digests of leaves, of pairs and of chains: both sides answer one plain function (contracts for the walks); the exact laws on them return true (the walks), where the package's table holds its words.
-/
import Derived.Test.YtemlmffoehclhaaDoorRows
import Derived.Test.YtemlmffoehclhaaDoorHashOf
import Derived.Test.YtemlmffoehclhaaDoorJoin
import Derived.Test.YtemlmffoehclhaaDoorMarks
namespace Go.Proofs.YtemlmffoehclhaaDoor.Tree1
open Go.ChangeShapes Go.WideShapes Go.ChangeAt Go.RowKit
open MixBlock (Tab)
open HashOf (txt digestOf of0)
set_option linter.unusedVariables false

theorem txt_size (t : ByteArray) : (txt t).size = 32 := Join.sum_size _ _ _
def leafX (i : Nat) (t : ByteArray) : ByteArray := (⟨#[0, UInt8.ofNat i]⟩ : ByteArray) ++ t
def joinX (a b : ByteArray) : ByteArray := (⟨#[1]⟩ : ByteArray) ++ a ++ b
def chainX (a b : ByteArray) : ByteArray := (⟨#[2]⟩ : ByteArray) ++ a ++ b
/-- The digest of a text in its place; of two digests; of a chain's tip and a text. -/
def leafT (i : Nat) (t : ByteArray) : ByteArray := txt (leafX i t)
def joinT (a b : ByteArray) : ByteArray := txt (joinX a b)
def chainT (a b : ByteArray) : ByteArray := txt (chainX a b)
theorem leafT_size (i : Nat) (t : ByteArray) : (leafT i t).size = 32 := txt_size _
theorem joinT_size (a b : ByteArray) : (joinT a b).size = 32 := txt_size _
theorem chainT_size (a b : ByteArray) : (chainT a b).size = 32 := txt_size _
theorem two_app (x : UInt8) : (⟨#[0]⟩ : ByteArray) ++ ⟨#[x]⟩ = ⟨#[0, x]⟩ := rfl
theorem leafX_size (i : Nat) (t : ByteArray) : (leafX i t).size = t.size + 2 := by
  unfold leafX; rw [ByteArray.size_append]; show 2 + _ = _; omega
theorem joinX_size (a b : ByteArray) : (joinX a b).size = a.size + b.size + 1 := by
  unfold joinX; rw [ByteArray.size_append, ByteArray.size_append]; show 1 + _ + _ = _; omega
theorem chainX_size (a b : ByteArray) : (chainX a b).size = a.size + b.size + 1 := by
  unfold chainX; rw [ByteArray.size_append, ByteArray.size_append]; show 1 + _ + _ = _; omega

theorem isLeaf (z : Int) (w : World) : Calls Tryd.prog 54 #[.int .i64 z] w fun e w' => e = .returned (.bool (decide (0 ≤ z ∧ z < 16))) ∧ w' = w := by
  by_cases h0 : 0 ≤ z
  · by_cases h1 : z < 16
    · rw [decide_eq_true (show 0 ≤ z ∧ z < 16 from ⟨h0, h1⟩)]
      go_enter Tryd.func54, Tryd.ntmps54
      go_wp2
      go_ret
      exact ⟨rfl, rfl⟩
    · rw [decide_eq_false (show ¬ (0 ≤ z ∧ z < 16) from fun h => h1 h.2)]
      have d : decide (z < 16) = false := decide_eq_false h1
      go_enter Tryd.func54, Tryd.ntmps54
      go_wp2
      go_ret
      exact ⟨rfl, rfl⟩
  · rw [decide_eq_false (show ¬ (0 ≤ z ∧ z < 16) from fun h => h0 h.1)]
    have d1 : decide (z < 0) = true := decide_eq_true (by omega)
    have d2 : decide (0 ≤ z) = false := decide_eq_false h0
    go_enter Tryd.func54, Tryd.ntmps54
    go_wp2
    go_ret
    exact ⟨rfl, rfl⟩
theorem l01In (z a b : Int) (w : World) : Calls Tryd.prog 64 #[.int .i64 z, .int .i64 a, .int .i64 b] w fun e w' => e = .returned (.bool (decide (a ≤ z ∧ z ≤ b))) ∧ w' = w := by
  by_cases h0 : a ≤ z
  · by_cases h1 : z ≤ b
    · rw [decide_eq_true (show a ≤ z ∧ z ≤ b from ⟨h0, h1⟩)]
      go_enter Tryd.func64, Tryd.ntmps64
      go_wp2
      go_ret
      exact ⟨rfl, rfl⟩
    · rw [decide_eq_false (show ¬ (a ≤ z ∧ z ≤ b) from fun h => h1 h.2)]
      go_enter Tryd.func64, Tryd.ntmps64
      go_wp2
      go_ret
      exact ⟨rfl, rfl⟩
  · rw [decide_eq_false (show ¬ (a ≤ z ∧ z ≤ b) from fun h => h0 h.1)]
    have d : decide (a ≤ z) = false := decide_eq_false h0
    go_enter Tryd.func64, Tryd.ntmps64
    go_wp2
    go_ret
    exact ⟨rfl, rfl⟩
theorem l01In16 (z : Int) (w : World) : Calls Tryd.prog 64 #[.int .i64 z, .int .i64 0, .int .i64 15] w fun e w' => e = .returned (.bool (decide (0 ≤ z ∧ z < 16))) ∧ w' = w := by
  have h := l01In z 0 15 w
  rwa [show decide (0 ≤ z ∧ z ≤ 15) = decide (0 ≤ z ∧ z < 16) from decide_eq_decide.2 (by omega)] at h
theorem isLeft (p : Nat) (hp : p ≤ 1000) (w : World) : Calls Tryd.prog 57 #[.int .i64 p] w fun e w' => e = .returned (.bool (decide (p % 2 = 0))) ∧ w' = w := by
  obtain ⟨r, er⟩ : ∃ r, p % 2 = r := ⟨_, rfl⟩
  have c1 : (p : Int) % 2 = (r : Int) := by omega
  have c2 : IntKind.i64.wrap (r : Int) = r := by rw [IntKind.wrap_i64]; omega
  obtain ⟨B, hB⟩ : ∃ B, decide (r = 0) = B := ⟨_, rfl⟩
  have b0 : ((r : Int) == 0) = B := by
    rw [← hB]
    by_cases h : r = 0
    · subst h; rfl
    · rw [decide_eq_false h]; simp; omega
  rw [er, hB]
  clear er hB
  go_enter Tryd.func57, Tryd.ntmps57
  go_wp2
  go_ret
  exact ⟨rfl, rfl⟩

set_option maxRecDepth 100000 in
set_option maxHeartbeats 800000 in
theorem leafDigest (i : Nat) (hi : i < 16) (t : ByteArray) (ht : t.size ≤ 65536) (w : World) (T : Tab w) :
    Calls Tryd.prog 56 #[.int .i64 i, .string t] w fun e w' => e = .returned (.string (leafT i t)) ∧ Below w.heap.size w w' := by
  have TT := Lib.hid T
  have HTL := Lib.hid T.lt
  clear T
  have HD := Lib.hid (digestOf (leafX i t) (by rw [leafX_size]; omega))
  unfold leafT
  have e2 : IntKind.u8.wrap (i : Int) = i := by rw [IntKind.wrap_u8']; omega
  have e3 : (i : Int) % 256 = i := by omega
  have hcv := Marks.back1 i (by omega) (w.alloc (.cells #[.int .u8 (i : Int)] 5)) w.heap.size (by rw [cell_of_row _ w.heap.size 0 #[.int .u8 (i : Int)] 5 (0, 0) (heap_alloc_new w _)]; rfl)
  have ha : (⟨#[0]⟩ : ByteArray) ++ ⟨#[UInt8.ofNat i]⟩ = ⟨#[0, UInt8.ofNat i]⟩ := two_app _
  have hb : (⟨#[0, UInt8.ofNat i]⟩ : ByteArray) ++ t = leafX i t := rfl
  have hs : (⟨#[0, UInt8.ofNat i]⟩ : ByteArray).size = 2 := rfl
  have hs1 : (⟨#[UInt8.ofNat i]⟩ : ByteArray).size = 1 := rfl
  generalize leafX i t = X at *
  generalize txt X = Y at *
  generalize (⟨#[UInt8.ofNat i]⟩ : ByteArray) = one at *
  generalize (⟨#[0, UInt8.ofNat i]⟩ : ByteArray) = two at *
  go_enter Tryd.func56, Tryd.ntmps56
  go_wp2_with fail
  refine (HD.out _ (TT.out.below ((Below.refl _ _).alloc (Nat.le_refl _) _) HTL.out)).mono ?_
  rintro e w1 ⟨rfl, hb1⟩
  have HB1 := Lib.hid (show Below w.heap.size w w1 from ((Below.refl _ _).alloc (Nat.le_refl _) _).trans (hb1.mono (by simp)))
  clear hb1
  go_wp2
  go_ret
  exact ⟨rfl, HB1.out⟩

set_option maxRecDepth 100000 in
set_option maxHeartbeats 800000 in
theorem l07Leaf (i : Nat) (hi : i < 16) (t : ByteArray) (ht : t.size ≤ 65536) (w : World) :
    Calls Tryd.prog 65 #[.int .i64 i, .string t] w fun e w' => e = .returned (.string (leafT i t)) ∧ Below w.heap.size w w' := by
  have HD := Lib.hid (of0 (leafX i t) (by rw [leafX_size]; omega))
  unfold leafT
  have e2 : IntKind.u8.wrap (i : Int) = i := by rw [IntKind.wrap_u8']; omega
  have e3 : (i : Int) % 256 = i := by omega
  have hcv := Flat.back (w.alloc (.cells #[.int .u8 0, .int .u8 (i : Int)] 5)) w.heap.size 2 2 [0, UInt8.ofNat i] rfl (fun j hj => by
    rw [cell_of_row _ w.heap.size j #[.int .u8 0, .int .u8 (i : Int)] 5 (0, 0) (heap_alloc_new w _)]
    obtain rfl | rfl : j = 0 ∨ j = 1 := by simp at hj; omega
    · rfl
    · show some (Value.int .u8 (i : Int)) = some (Value.int .u8 ((UInt8.ofNat i).toNat : Int))
      rw [UInt8.toNat_ofNat', Nat.mod_eq_of_lt (by omega)])
  have hb : (⟨#[0, UInt8.ofNat i]⟩ : ByteArray) ++ t = leafX i t := rfl
  have hs : (⟨#[0, UInt8.ofNat i]⟩ : ByteArray).size = 2 := rfl
  have hl : (⟨[0, UInt8.ofNat i].toArray⟩ : ByteArray) = ⟨#[0, UInt8.ofNat i]⟩ := rfl
  rw [hl] at hcv
  generalize leafX i t = X at *
  generalize txt X = Y at *
  generalize (⟨#[0, UInt8.ofNat i]⟩ : ByteArray) = two at *
  clear hl
  go_enter Tryd.func65, Tryd.ntmps65
  go_wp2_with fail
  refine (HD.out _).mono ?_
  rintro e w1 ⟨rfl, hb1⟩
  have HB1 := Lib.hid (show Below w.heap.size w w1 from ((Below.refl _ _).alloc (Nat.le_refl _) _).trans (hb1.mono (by simp)))
  clear hb1
  go_wp2
  go_ret
  exact ⟨rfl, HB1.out⟩

set_option maxRecDepth 100000 in
set_option maxHeartbeats 800000 in
theorem joined (a b : ByteArray) (ha : a.size = 32) (hb : b.size = 32) (w : World) (T : Tab w) :
    Calls Tryd.prog 58 #[.string a, .string b] w fun e w' => e = .returned (.string (joinT a b)) ∧ Below w.heap.size w w' := by
  have HD := Lib.hid (digestOf (joinX a b) (by rw [joinX_size]; omega) w T)
  clear T
  unfold joinT
  generalize txt (joinX a b) = Y at *
  unfold joinX at HD
  have ha2 : a.size ≤ 32 := by omega
  have hb2 : b.size ≤ 32 := by omega
  clear ha hb
  go_enter Tryd.func58, Tryd.ntmps58
  go_wp2_with fail
  refine HD.out.mono ?_
  rintro e w1 ⟨rfl, hb1⟩
  have HB1 := Lib.hid hb1
  clear hb1
  go_wp2
  go_ret
  exact ⟨rfl, HB1.out⟩
set_option maxRecDepth 100000 in
set_option maxHeartbeats 800000 in
theorem l07Join (a b : ByteArray) (ha : a.size = 32) (hb : b.size = 32) (w : World) :
    Calls Tryd.prog 59 #[.string a, .string b] w fun e w' => e = .returned (.string (joinT a b)) ∧ Below w.heap.size w w' := by
  have HD := Lib.hid (of0 (joinX a b) (by rw [joinX_size]; omega) w)
  unfold joinT
  generalize txt (joinX a b) = Y at *
  unfold joinX at HD
  have ha2 : a.size ≤ 32 := by omega
  have hb2 : b.size ≤ 32 := by omega
  clear ha hb
  go_enter Tryd.func59, Tryd.ntmps59
  go_wp2_with fail
  refine HD.out.mono ?_
  rintro e w1 ⟨rfl, hb1⟩
  have HB1 := Lib.hid hb1
  clear hb1
  go_wp2
  go_ret
  exact ⟨rfl, HB1.out⟩
set_option maxRecDepth 100000 in
set_option maxHeartbeats 800000 in
theorem l07Chain (a b : ByteArray) (ha : a.size = 32) (hb : b.size ≤ 65536) (w : World) :
    Calls Tryd.prog 60 #[.string a, .string b] w fun e w' => e = .returned (.string (chainT a b)) ∧ Below w.heap.size w w' := by
  have HD := Lib.hid (of0 (chainX a b) (by rw [chainX_size]; omega) w)
  unfold chainT
  generalize txt (chainX a b) = Y at *
  unfold chainX at HD
  have ha2 : a.size ≤ 32 := by omega
  clear ha
  go_enter Tryd.func60, Tryd.ntmps60
  go_wp2_with fail
  refine HD.out.mono ?_
  rintro e w1 ⟨rfl, hb1⟩
  have HB1 := Lib.hid hb1
  clear hb1
  go_wp2
  go_ret
  exact ⟨rfl, HB1.out⟩
end Go.Proofs.YtemlmffoehclhaaDoor.Tree1
