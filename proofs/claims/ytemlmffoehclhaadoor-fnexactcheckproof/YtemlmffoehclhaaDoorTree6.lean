/-
  What is proved: the program's root of a list of leaves, and its proof of a leaf, with their codes, the proof in new memory (contracts for the walks), where the package's table holds its words.
-/
import Derived.Test.YtemlmffoehclhaaDoorRows
import Derived.Test.YtemlmffoehclhaaDoorTree5
namespace Go.Proofs.YtemlmffoehclhaaDoor.Tree6
open Go.ChangeShapes Go.WideShapes Go.ChangeAt Go.RowKit
open Sl (Sl Own Off)
open OpenSl (tc nc pc)
open Dev
open Arr (Row)
open MixBlock (Tab)
open Tree2 (lv lv_size tx sc tc_sc ask_zero)
open Tree4
set_option linter.unusedVariables false

/-- What both sides answer. -/
def rootR (ts : List ByteArray) : ByteArray × Int := if Tree2.ask ts = 0 then (lv (tx ts) 4 0, 0) else (⟨#[]⟩, Tree2.ask ts)
/-- The digests beside the way of leaf a. -/
def bes (f : Nat → ByteArray) (a j : Nat) : ByteArray := lv f j ((a / 2 ^ j) ^^^ 1)
def prfL (f : Nat → ByteArray) (a : Nat) : List ByteArray := [bes f a 0, bes f a 1, bes f a 2, bes f a 3]
theorem prfL_tc (f : Nat → ByteArray) (a j : Nat) (hj : j < 4) : tc (prfL f a) j = .string (bes f a j) := by
  obtain rfl | rfl | rfl | rfl : j = 0 ∨ j = 1 ∨ j = 2 ∨ j = 3 := by omega
  all_goals rfl
def proofC (ts : List ByteArray) (z : Int) : Int := if Tree2.ask ts = 0 then (if 0 ≤ z ∧ z < 16 then 0 else 4) else Tree2.ask ts
def proofT (ts : List ByteArray) (z : Int) : List ByteArray := if proofC ts z = 0 then prfL (tx ts) z.toNat else []

theorem own_nil (w : World) (base : Nat) (a : Option Addr) : Own w base 1 (.slice a 0 0) 0 (tc []) := ⟨a, 0, rfl, Nat.le_refl _, by unfold maxLen; omega, fun h => absurd h (by omega)⟩

set_option maxRecDepth 100000 in
set_option maxHeartbeats 1600000 in
theorem rootImpl (w : World) (v : Value) (ts : List ByteArray) (h : Sl w 1 v ts.length (tc ts)) (hs : ∀ s ∈ ts, s.size ≤ maxLen) (T : Tab w) :
    Calls Tryd.prog 22 #[v] w fun e w' => e = .returned (.tuple #[.string (rootR ts).1, .int .i64 (rootR ts).2]) ∧ Below w.heap.size w w' := by
  have HA := Lib.hid (Tree2.leavesFault w v ts h hs)
  unfold rootR
  by_cases h0 : Tree2.ask ts = 0
  · rw [if_pos h0]
    rw [h0] at HA
    obtain ⟨hn, hf⟩ := ask_zero ts h0
    rw [hn, tc_sc] at h
    have HG := Lib.hid (Tree5.grown w v (tx ts) hf h 0 (by omega) T)
    generalize lv (tx ts) = L at *
    generalize L 4 0 = X at *
    clear h hs T h0 hn hf
    go_enter Tryd.func22, Tryd.ntmps22
    go_wp2_with fail
    refine HA.out.mono ?_
    rintro e w1 ⟨rfl, rfl⟩
    go_wp2_with fail
    refine HG.out.mono ?_
    rintro e w2 ⟨B, rfl, _, hb⟩
    have HB := Lib.hid hb
    clear hb
    unfold sc4
    go_wp2
    go_ret2
    refine ⟨rfl, ?_⟩
    repeat (with_reducible (first | exact HB.out | refine Below.setCell ?_ (by first | exact HB.out.size) _ | refine Below.alloc ?_ (by first | exact HB.out.size) _))
  · rw [if_neg h0]
    generalize Tree2.ask ts = c at *
    have b0 : (c != 0) = true := by simp; exact h0
    clear h hs T h0
    go_enter Tryd.func22, Tryd.ntmps22
    go_wp2_with fail
    refine HA.out.mono ?_
    rintro e w1 ⟨rfl, rfl⟩
    go_wp2
    go_ret2
    exact ⟨rfl, Below.refl _ _⟩

set_option maxRecDepth 100000 in
set_option maxHeartbeats 1600000 in
theorem proofImpl (w : World) (v : Value) (ts : List ByteArray) (z : Int) (h : Sl w 1 v ts.length (tc ts)) (hs : ∀ s ∈ ts, s.size ≤ maxLen) (T : Tab w) :
    Calls Tryd.prog 24 #[v, .int .i64 z] w fun e w' => ∃ r, e = .returned (.tuple #[r, .int .i64 (proofC ts z)]) ∧ Own w' w.heap.size 1 r (proofT ts z).length (tc (proofT ts z)) ∧ Below w.heap.size w w' := by
  have HA := Lib.hid (Tree2.leavesFault w v ts h hs)
  unfold proofT
  by_cases h0 : Tree2.ask ts = 0
  · have HI := Lib.hid (Tree1.isLeaf z)
    by_cases h1 : 0 ≤ z ∧ z < 16
    · have hc : proofC ts z = 0 := by unfold proofC; rw [if_pos h0, if_pos h1]
      rw [if_pos hc, hc]
      rw [h0] at HA
      rw [decide_eq_true h1] at HI
      obtain ⟨hn, hf⟩ := ask_zero ts h0
      rw [hn, tc_sc] at h
      obtain ⟨a, rfl⟩ : ∃ a : Nat, z = a := ⟨z.toNat, by omega⟩
      rw [Int.toNat_natCast]
      have HG := Lib.hid (Tree5.grown w v (tx ts) hf h a (by omega) T)
      have HP := Lib.hid (prfL_tc (tx ts) a)
      have HPB := Lib.hid (show ∀ j, bes (tx ts) a j = lv (tx ts) j ((a / 2 ^ j) ^^^ 1) from fun _ => rfl)
      rw [show (prfL (tx ts) a).length = 4 from rfl]
      generalize tc (prfL (tx ts) a) = P at *
      generalize bes (tx ts) a = Q at *
      generalize lv (tx ts) = L at *
      clear h hs T h0 hn hf hc
      go_enter Tryd.func24, Tryd.ntmps24
      go_wp2_with fail
      refine HA.out.mono ?_
      rintro e w1 ⟨rfl, rfl⟩
      go_wp2_with fail
      refine (HI.out _).mono ?_
      rintro e w1 ⟨rfl, rfl⟩
      go_wp2_with fail
      refine HG.out.mono ?_
      rintro e w2 ⟨B, rfl, hB, hb⟩
      have HBB := Lib.hid hB
      have HB := Lib.hid hb
      clear hb hB
      unfold sc4
      go_wp2
      go_ret2
      refine ⟨_, rfl, ⟨_, 4, rfl, Nat.le_refl _, by unfold maxLen; omega, fun _ => ⟨_, 0, rfl, HB.out.size, fun j hj => ?_⟩⟩, HB.out.alloc HB.out.size _⟩
      have hr : Row (w2.alloc (.cells #[.string (B 0), .string (B 1), .string (B 2), .string (B 3)] 66)) w2.heap.size 66 (sc4 B) := Arr.row_new w2 _ _
      have hj4 : j < 4 := by omega
      refine ⟨?_, by rw [Nat.zero_add]; exact hr.frozen j⟩
      rw [Nat.zero_add, HP.out j hj4, HPB.out j, ← HBB.out j hj4]
      exact (hr.cell j).trans (sc4_get B j hj4)
    · have hc : proofC ts z = 4 := by unfold proofC; rw [if_pos h0, if_neg h1]
      rw [if_neg (by rw [hc]; decide), hc]
      rw [h0] at HA
      rw [decide_eq_false h1] at HI
      clear h hs T h0 h1 hc
      go_enter Tryd.func24, Tryd.ntmps24
      go_wp2_with fail
      refine HA.out.mono ?_
      rintro e w1 ⟨rfl, rfl⟩
      go_wp2_with fail
      refine (HI.out _).mono ?_
      rintro e w1 ⟨rfl, rfl⟩
      go_wp2
      go_ret2
      exact ⟨_, rfl, own_nil _ _ _, Below.refl _ _⟩
  · have hc : proofC ts z = Tree2.ask ts := by unfold proofC; rw [if_neg h0]
    rw [if_neg (by rw [hc]; exact h0), hc]
    clear hc
    generalize Tree2.ask ts = c at *
    have b0 : (c != 0) = true := by simp; exact h0
    clear h hs T h0
    go_enter Tryd.func24, Tryd.ntmps24
    go_wp2_with fail
    refine HA.out.mono ?_
    rintro e w1 ⟨rfl, rfl⟩
    go_wp2
    go_ret2
    exact ⟨_, rfl, own_nil _ _ _, Below.refl _ _⟩
end Go.Proofs.YtemlmffoehclhaaDoor.Tree6
