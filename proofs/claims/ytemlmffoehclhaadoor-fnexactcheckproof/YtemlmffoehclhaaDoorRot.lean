/-
  What is proved: both ways to turn a word right answer the same word (contracts for the walks).
-/
import Derived.Test.YtemlmffoehclhaaDoorRows
import Derived.Test.YtemlmffoehclhaaDoorWord
import Derived.WalkKit
import Derived.WalkLawsBesides
import Derived.ProofKit
import Derived.Outline
import Derived.Lib.Hide
import Derived.Below
import Derived.Deep.QuietTactic
import Derived.BigQuiet
namespace Go.Proofs.YtemlmffoehclhaaDoor.Rot
open Go.ChangeShapes Go.WideShapes Go.ChangeAt Go.RowKit
open Word (rot)
set_option linter.unusedVariables false

theorem ret_int {k : IntKind} {a b : Int} (h : a = b) : Ending.returned (.int k a) = .returned (.int k b) := by rw [h]


set_option maxHeartbeats 400000 in
theorem spec2 (x : Nat) (hx : x < 4294967296) (w : World) :
    Calls Tryd.prog 83 #[.int .i64 (x : Int), .int .i64 2] w fun e w' => e = .returned (.int .i64 ((rot 4 1073741824 x : Nat) : Int)) ∧ ∃ n, w' = w.drewN n := by
  have HR := Lib.hid (Word.rot_spec 4 1073741824 x hx (by omega))
  have hx2 : (x : Int) < 4294967296 := by omega
  go_enter Tryd.func83, Tryd.ntmps83
  go_wp2
  go_quiet (fail)
  go_wp2
  go_ret
  exact ⟨ret_int HR.out, _, rfl⟩
theorem amount2 : bits BinOp.and IntKind.u64 (IntKind.u64.wrap (-2)) 31 = 30 := by decide +kernel
set_option maxHeartbeats 400000 in
theorem left2 (x : Nat) (hx : x < 4294967296) (w : World) :
    Calls Tryd.prog 86 #[.int .u32 (x : Int), .int .i64 (-2)] w fun e w' => e = .returned (.int .u32 ((rot 4 1073741824 x : Nat) : Int)) ∧ w = w' := by
  have HR := Lib.hid (Word.rot_impl 4 1073741824 x hx)
  have hx2 : (x : Int) < 4294967296 := by omega
  have hs := amount2
  go_enter Tryd.func86, Tryd.ntmps86
  go_wp2
  go_ret
  exact ⟨ret_int HR.out, rfl⟩
theorem impl2 (x : Nat) (hx : x < 4294967296) (w : World) :
    Calls Tryd.prog 85 #[.int .u32 (x : Int), .int .i64 2] w fun e w' => e = .returned (.int .u32 ((rot 4 1073741824 x : Nat) : Int)) ∧ w = w' := by
  go_enter Tryd.func85, Tryd.ntmps85
  go_wp2_with fail
  refine (left2 x hx _).mono ?_
  rintro e w' ⟨rfl, rfl⟩
  go_wp2
  go_ret
  exact ⟨rfl, rfl⟩

set_option maxHeartbeats 400000 in
theorem spec6 (x : Nat) (hx : x < 4294967296) (w : World) :
    Calls Tryd.prog 83 #[.int .i64 (x : Int), .int .i64 6] w fun e w' => e = .returned (.int .i64 ((rot 64 67108864 x : Nat) : Int)) ∧ ∃ n, w' = w.drewN n := by
  have HR := Lib.hid (Word.rot_spec 64 67108864 x hx (by omega))
  have hx2 : (x : Int) < 4294967296 := by omega
  go_enter Tryd.func83, Tryd.ntmps83
  go_wp2
  go_quiet (fail)
  go_wp2
  go_ret
  exact ⟨ret_int HR.out, _, rfl⟩
theorem amount6 : bits BinOp.and IntKind.u64 (IntKind.u64.wrap (-6)) 31 = 26 := by decide +kernel
set_option maxHeartbeats 400000 in
theorem left6 (x : Nat) (hx : x < 4294967296) (w : World) :
    Calls Tryd.prog 86 #[.int .u32 (x : Int), .int .i64 (-6)] w fun e w' => e = .returned (.int .u32 ((rot 64 67108864 x : Nat) : Int)) ∧ w = w' := by
  have HR := Lib.hid (Word.rot_impl 64 67108864 x hx)
  have hx2 : (x : Int) < 4294967296 := by omega
  have hs := amount6
  go_enter Tryd.func86, Tryd.ntmps86
  go_wp2
  go_ret
  exact ⟨ret_int HR.out, rfl⟩
theorem impl6 (x : Nat) (hx : x < 4294967296) (w : World) :
    Calls Tryd.prog 85 #[.int .u32 (x : Int), .int .i64 6] w fun e w' => e = .returned (.int .u32 ((rot 64 67108864 x : Nat) : Int)) ∧ w = w' := by
  go_enter Tryd.func85, Tryd.ntmps85
  go_wp2_with fail
  refine (left6 x hx _).mono ?_
  rintro e w' ⟨rfl, rfl⟩
  go_wp2
  go_ret
  exact ⟨rfl, rfl⟩

set_option maxHeartbeats 400000 in
theorem spec7 (x : Nat) (hx : x < 4294967296) (w : World) :
    Calls Tryd.prog 83 #[.int .i64 (x : Int), .int .i64 7] w fun e w' => e = .returned (.int .i64 ((rot 128 33554432 x : Nat) : Int)) ∧ ∃ n, w' = w.drewN n := by
  have HR := Lib.hid (Word.rot_spec 128 33554432 x hx (by omega))
  have hx2 : (x : Int) < 4294967296 := by omega
  go_enter Tryd.func83, Tryd.ntmps83
  go_wp2
  go_quiet (fail)
  go_wp2
  go_ret
  exact ⟨ret_int HR.out, _, rfl⟩
theorem amount7 : bits BinOp.and IntKind.u64 (IntKind.u64.wrap (-7)) 31 = 25 := by decide +kernel
set_option maxHeartbeats 400000 in
theorem left7 (x : Nat) (hx : x < 4294967296) (w : World) :
    Calls Tryd.prog 86 #[.int .u32 (x : Int), .int .i64 (-7)] w fun e w' => e = .returned (.int .u32 ((rot 128 33554432 x : Nat) : Int)) ∧ w = w' := by
  have HR := Lib.hid (Word.rot_impl 128 33554432 x hx)
  have hx2 : (x : Int) < 4294967296 := by omega
  have hs := amount7
  go_enter Tryd.func86, Tryd.ntmps86
  go_wp2
  go_ret
  exact ⟨ret_int HR.out, rfl⟩
theorem impl7 (x : Nat) (hx : x < 4294967296) (w : World) :
    Calls Tryd.prog 85 #[.int .u32 (x : Int), .int .i64 7] w fun e w' => e = .returned (.int .u32 ((rot 128 33554432 x : Nat) : Int)) ∧ w = w' := by
  go_enter Tryd.func85, Tryd.ntmps85
  go_wp2_with fail
  refine (left7 x hx _).mono ?_
  rintro e w' ⟨rfl, rfl⟩
  go_wp2
  go_ret
  exact ⟨rfl, rfl⟩

set_option maxHeartbeats 400000 in
theorem spec11 (x : Nat) (hx : x < 4294967296) (w : World) :
    Calls Tryd.prog 83 #[.int .i64 (x : Int), .int .i64 11] w fun e w' => e = .returned (.int .i64 ((rot 2048 2097152 x : Nat) : Int)) ∧ ∃ n, w' = w.drewN n := by
  have HR := Lib.hid (Word.rot_spec 2048 2097152 x hx (by omega))
  have hx2 : (x : Int) < 4294967296 := by omega
  go_enter Tryd.func83, Tryd.ntmps83
  go_wp2
  go_quiet (fail)
  go_wp2
  go_ret
  exact ⟨ret_int HR.out, _, rfl⟩
theorem amount11 : bits BinOp.and IntKind.u64 (IntKind.u64.wrap (-11)) 31 = 21 := by decide +kernel
set_option maxHeartbeats 400000 in
theorem left11 (x : Nat) (hx : x < 4294967296) (w : World) :
    Calls Tryd.prog 86 #[.int .u32 (x : Int), .int .i64 (-11)] w fun e w' => e = .returned (.int .u32 ((rot 2048 2097152 x : Nat) : Int)) ∧ w = w' := by
  have HR := Lib.hid (Word.rot_impl 2048 2097152 x hx)
  have hx2 : (x : Int) < 4294967296 := by omega
  have hs := amount11
  go_enter Tryd.func86, Tryd.ntmps86
  go_wp2
  go_ret
  exact ⟨ret_int HR.out, rfl⟩
theorem impl11 (x : Nat) (hx : x < 4294967296) (w : World) :
    Calls Tryd.prog 85 #[.int .u32 (x : Int), .int .i64 11] w fun e w' => e = .returned (.int .u32 ((rot 2048 2097152 x : Nat) : Int)) ∧ w = w' := by
  go_enter Tryd.func85, Tryd.ntmps85
  go_wp2_with fail
  refine (left11 x hx _).mono ?_
  rintro e w' ⟨rfl, rfl⟩
  go_wp2
  go_ret
  exact ⟨rfl, rfl⟩

set_option maxHeartbeats 400000 in
theorem spec13 (x : Nat) (hx : x < 4294967296) (w : World) :
    Calls Tryd.prog 83 #[.int .i64 (x : Int), .int .i64 13] w fun e w' => e = .returned (.int .i64 ((rot 8192 524288 x : Nat) : Int)) ∧ ∃ n, w' = w.drewN n := by
  have HR := Lib.hid (Word.rot_spec 8192 524288 x hx (by omega))
  have hx2 : (x : Int) < 4294967296 := by omega
  go_enter Tryd.func83, Tryd.ntmps83
  go_wp2
  go_quiet (fail)
  go_wp2
  go_ret
  exact ⟨ret_int HR.out, _, rfl⟩
theorem amount13 : bits BinOp.and IntKind.u64 (IntKind.u64.wrap (-13)) 31 = 19 := by decide +kernel
set_option maxHeartbeats 400000 in
theorem left13 (x : Nat) (hx : x < 4294967296) (w : World) :
    Calls Tryd.prog 86 #[.int .u32 (x : Int), .int .i64 (-13)] w fun e w' => e = .returned (.int .u32 ((rot 8192 524288 x : Nat) : Int)) ∧ w = w' := by
  have HR := Lib.hid (Word.rot_impl 8192 524288 x hx)
  have hx2 : (x : Int) < 4294967296 := by omega
  have hs := amount13
  go_enter Tryd.func86, Tryd.ntmps86
  go_wp2
  go_ret
  exact ⟨ret_int HR.out, rfl⟩
theorem impl13 (x : Nat) (hx : x < 4294967296) (w : World) :
    Calls Tryd.prog 85 #[.int .u32 (x : Int), .int .i64 13] w fun e w' => e = .returned (.int .u32 ((rot 8192 524288 x : Nat) : Int)) ∧ w = w' := by
  go_enter Tryd.func85, Tryd.ntmps85
  go_wp2_with fail
  refine (left13 x hx _).mono ?_
  rintro e w' ⟨rfl, rfl⟩
  go_wp2
  go_ret
  exact ⟨rfl, rfl⟩

set_option maxHeartbeats 400000 in
theorem spec17 (x : Nat) (hx : x < 4294967296) (w : World) :
    Calls Tryd.prog 83 #[.int .i64 (x : Int), .int .i64 17] w fun e w' => e = .returned (.int .i64 ((rot 131072 32768 x : Nat) : Int)) ∧ ∃ n, w' = w.drewN n := by
  have HR := Lib.hid (Word.rot_spec 131072 32768 x hx (by omega))
  have hx2 : (x : Int) < 4294967296 := by omega
  go_enter Tryd.func83, Tryd.ntmps83
  go_wp2
  go_quiet (fail)
  go_wp2
  go_ret
  exact ⟨ret_int HR.out, _, rfl⟩
theorem amount17 : bits BinOp.and IntKind.u64 (IntKind.u64.wrap (-17)) 31 = 15 := by decide +kernel
set_option maxHeartbeats 400000 in
theorem left17 (x : Nat) (hx : x < 4294967296) (w : World) :
    Calls Tryd.prog 86 #[.int .u32 (x : Int), .int .i64 (-17)] w fun e w' => e = .returned (.int .u32 ((rot 131072 32768 x : Nat) : Int)) ∧ w = w' := by
  have HR := Lib.hid (Word.rot_impl 131072 32768 x hx)
  have hx2 : (x : Int) < 4294967296 := by omega
  have hs := amount17
  go_enter Tryd.func86, Tryd.ntmps86
  go_wp2
  go_ret
  exact ⟨ret_int HR.out, rfl⟩
theorem impl17 (x : Nat) (hx : x < 4294967296) (w : World) :
    Calls Tryd.prog 85 #[.int .u32 (x : Int), .int .i64 17] w fun e w' => e = .returned (.int .u32 ((rot 131072 32768 x : Nat) : Int)) ∧ w = w' := by
  go_enter Tryd.func85, Tryd.ntmps85
  go_wp2_with fail
  refine (left17 x hx _).mono ?_
  rintro e w' ⟨rfl, rfl⟩
  go_wp2
  go_ret
  exact ⟨rfl, rfl⟩

set_option maxHeartbeats 400000 in
theorem spec18 (x : Nat) (hx : x < 4294967296) (w : World) :
    Calls Tryd.prog 83 #[.int .i64 (x : Int), .int .i64 18] w fun e w' => e = .returned (.int .i64 ((rot 262144 16384 x : Nat) : Int)) ∧ ∃ n, w' = w.drewN n := by
  have HR := Lib.hid (Word.rot_spec 262144 16384 x hx (by omega))
  have hx2 : (x : Int) < 4294967296 := by omega
  go_enter Tryd.func83, Tryd.ntmps83
  go_wp2
  go_quiet (fail)
  go_wp2
  go_ret
  exact ⟨ret_int HR.out, _, rfl⟩
theorem amount18 : bits BinOp.and IntKind.u64 (IntKind.u64.wrap (-18)) 31 = 14 := by decide +kernel
set_option maxHeartbeats 400000 in
theorem left18 (x : Nat) (hx : x < 4294967296) (w : World) :
    Calls Tryd.prog 86 #[.int .u32 (x : Int), .int .i64 (-18)] w fun e w' => e = .returned (.int .u32 ((rot 262144 16384 x : Nat) : Int)) ∧ w = w' := by
  have HR := Lib.hid (Word.rot_impl 262144 16384 x hx)
  have hx2 : (x : Int) < 4294967296 := by omega
  have hs := amount18
  go_enter Tryd.func86, Tryd.ntmps86
  go_wp2
  go_ret
  exact ⟨ret_int HR.out, rfl⟩
theorem impl18 (x : Nat) (hx : x < 4294967296) (w : World) :
    Calls Tryd.prog 85 #[.int .u32 (x : Int), .int .i64 18] w fun e w' => e = .returned (.int .u32 ((rot 262144 16384 x : Nat) : Int)) ∧ w = w' := by
  go_enter Tryd.func85, Tryd.ntmps85
  go_wp2_with fail
  refine (left18 x hx _).mono ?_
  rintro e w' ⟨rfl, rfl⟩
  go_wp2
  go_ret
  exact ⟨rfl, rfl⟩

set_option maxHeartbeats 400000 in
theorem spec19 (x : Nat) (hx : x < 4294967296) (w : World) :
    Calls Tryd.prog 83 #[.int .i64 (x : Int), .int .i64 19] w fun e w' => e = .returned (.int .i64 ((rot 524288 8192 x : Nat) : Int)) ∧ ∃ n, w' = w.drewN n := by
  have HR := Lib.hid (Word.rot_spec 524288 8192 x hx (by omega))
  have hx2 : (x : Int) < 4294967296 := by omega
  go_enter Tryd.func83, Tryd.ntmps83
  go_wp2
  go_quiet (fail)
  go_wp2
  go_ret
  exact ⟨ret_int HR.out, _, rfl⟩
theorem amount19 : bits BinOp.and IntKind.u64 (IntKind.u64.wrap (-19)) 31 = 13 := by decide +kernel
set_option maxHeartbeats 400000 in
theorem left19 (x : Nat) (hx : x < 4294967296) (w : World) :
    Calls Tryd.prog 86 #[.int .u32 (x : Int), .int .i64 (-19)] w fun e w' => e = .returned (.int .u32 ((rot 524288 8192 x : Nat) : Int)) ∧ w = w' := by
  have HR := Lib.hid (Word.rot_impl 524288 8192 x hx)
  have hx2 : (x : Int) < 4294967296 := by omega
  have hs := amount19
  go_enter Tryd.func86, Tryd.ntmps86
  go_wp2
  go_ret
  exact ⟨ret_int HR.out, rfl⟩
theorem impl19 (x : Nat) (hx : x < 4294967296) (w : World) :
    Calls Tryd.prog 85 #[.int .u32 (x : Int), .int .i64 19] w fun e w' => e = .returned (.int .u32 ((rot 524288 8192 x : Nat) : Int)) ∧ w = w' := by
  go_enter Tryd.func85, Tryd.ntmps85
  go_wp2_with fail
  refine (left19 x hx _).mono ?_
  rintro e w' ⟨rfl, rfl⟩
  go_wp2
  go_ret
  exact ⟨rfl, rfl⟩

set_option maxHeartbeats 400000 in
theorem spec22 (x : Nat) (hx : x < 4294967296) (w : World) :
    Calls Tryd.prog 83 #[.int .i64 (x : Int), .int .i64 22] w fun e w' => e = .returned (.int .i64 ((rot 4194304 1024 x : Nat) : Int)) ∧ ∃ n, w' = w.drewN n := by
  have HR := Lib.hid (Word.rot_spec 4194304 1024 x hx (by omega))
  have hx2 : (x : Int) < 4294967296 := by omega
  go_enter Tryd.func83, Tryd.ntmps83
  go_wp2
  go_quiet (fail)
  go_wp2
  go_ret
  exact ⟨ret_int HR.out, _, rfl⟩
theorem amount22 : bits BinOp.and IntKind.u64 (IntKind.u64.wrap (-22)) 31 = 10 := by decide +kernel
set_option maxHeartbeats 400000 in
theorem left22 (x : Nat) (hx : x < 4294967296) (w : World) :
    Calls Tryd.prog 86 #[.int .u32 (x : Int), .int .i64 (-22)] w fun e w' => e = .returned (.int .u32 ((rot 4194304 1024 x : Nat) : Int)) ∧ w = w' := by
  have HR := Lib.hid (Word.rot_impl 4194304 1024 x hx)
  have hx2 : (x : Int) < 4294967296 := by omega
  have hs := amount22
  go_enter Tryd.func86, Tryd.ntmps86
  go_wp2
  go_ret
  exact ⟨ret_int HR.out, rfl⟩
theorem impl22 (x : Nat) (hx : x < 4294967296) (w : World) :
    Calls Tryd.prog 85 #[.int .u32 (x : Int), .int .i64 22] w fun e w' => e = .returned (.int .u32 ((rot 4194304 1024 x : Nat) : Int)) ∧ w = w' := by
  go_enter Tryd.func85, Tryd.ntmps85
  go_wp2_with fail
  refine (left22 x hx _).mono ?_
  rintro e w' ⟨rfl, rfl⟩
  go_wp2
  go_ret
  exact ⟨rfl, rfl⟩

set_option maxHeartbeats 400000 in
theorem spec25 (x : Nat) (hx : x < 4294967296) (w : World) :
    Calls Tryd.prog 83 #[.int .i64 (x : Int), .int .i64 25] w fun e w' => e = .returned (.int .i64 ((rot 33554432 128 x : Nat) : Int)) ∧ ∃ n, w' = w.drewN n := by
  have HR := Lib.hid (Word.rot_spec 33554432 128 x hx (by omega))
  have hx2 : (x : Int) < 4294967296 := by omega
  go_enter Tryd.func83, Tryd.ntmps83
  go_wp2
  go_quiet (fail)
  go_wp2
  go_ret
  exact ⟨ret_int HR.out, _, rfl⟩
theorem amount25 : bits BinOp.and IntKind.u64 (IntKind.u64.wrap (-25)) 31 = 7 := by decide +kernel
set_option maxHeartbeats 400000 in
theorem left25 (x : Nat) (hx : x < 4294967296) (w : World) :
    Calls Tryd.prog 86 #[.int .u32 (x : Int), .int .i64 (-25)] w fun e w' => e = .returned (.int .u32 ((rot 33554432 128 x : Nat) : Int)) ∧ w = w' := by
  have HR := Lib.hid (Word.rot_impl 33554432 128 x hx)
  have hx2 : (x : Int) < 4294967296 := by omega
  have hs := amount25
  go_enter Tryd.func86, Tryd.ntmps86
  go_wp2
  go_ret
  exact ⟨ret_int HR.out, rfl⟩
theorem impl25 (x : Nat) (hx : x < 4294967296) (w : World) :
    Calls Tryd.prog 85 #[.int .u32 (x : Int), .int .i64 25] w fun e w' => e = .returned (.int .u32 ((rot 33554432 128 x : Nat) : Int)) ∧ w = w' := by
  go_enter Tryd.func85, Tryd.ntmps85
  go_wp2_with fail
  refine (left25 x hx _).mono ?_
  rintro e w' ⟨rfl, rfl⟩
  go_wp2
  go_ret
  exact ⟨rfl, rfl⟩

/-- A call that only draws, in a region behind another that drew. -/
theorem on {P : Program} {f : FuncId} {args : Array Value} {w : World} {k n : Nat} {v : Value} (h : ∀ W : World, Calls P f args W fun e w' => e = .returned v ∧ ∃ m, w' = W.drewN m) :
    Calls P f args (w.drewN (k + n)) fun e w' => e = .returned v ∧ ∃ m, w' = w.drewN (k + m) := by
  refine (h _).mono ?_
  rintro e w' ⟨he, m, hm⟩
  refine ⟨he, n + m, ?_⟩
  rw [hm, World.drewN_drewN, Nat.add_assoc]
/-- The same, in the first such region. -/
theorem first {P : Program} {f : FuncId} {args : Array Value} {w : World} {n : Nat} {v : Value} (h : ∀ W : World, Calls P f args W fun e w' => e = .returned v ∧ ∃ m, w' = W.drewN m) :
    Calls P f args (w.drewN n) fun e w' => e = .returned v ∧ ∃ m, w' = w.drewN m := by
  refine (h _).mono ?_
  rintro e w' ⟨he, m, hm⟩
  exact ⟨he, n + m, by rw [hm, World.drewN_drewN]⟩
open Word (rotI)
def Turns (n : Int) : Prop := n = 2 ∨ n = 6 ∨ n = 7 ∨ n = 11 ∨ n = 13 ∨ n = 17 ∨ n = 18 ∨ n = 19 ∨ n = 22 ∨ n = 25
theorem spec (x : Nat) (n : Int) (hx : x < 4294967296) (hn : Turns n) (w : World) :
    Calls Tryd.prog 83 #[.int .i64 (x : Int), .int .i64 n] w fun e w' => e = .returned (.int .i64 ((rotI x n : Nat) : Int)) ∧ ∃ n, w' = w.drewN n := by
  rcases hn with rfl | rfl | rfl | rfl | rfl | rfl | rfl | rfl | rfl | rfl
  · exact spec2 x hx w
  · exact spec6 x hx w
  · exact spec7 x hx w
  · exact spec11 x hx w
  · exact spec13 x hx w
  · exact spec17 x hx w
  · exact spec18 x hx w
  · exact spec19 x hx w
  · exact spec22 x hx w
  · exact spec25 x hx w
theorem impl (x : Nat) (n : Int) (hx : x < 4294967296) (hn : Turns n) (w : World) :
    Calls Tryd.prog 85 #[.int .u32 (x : Int), .int .i64 n] w fun e w' => e = .returned (.int .u32 ((rotI x n : Nat) : Int)) ∧ ∃ m, w' = w.drewN m := by
  rcases hn with rfl | rfl | rfl | rfl | rfl | rfl | rfl | rfl | rfl | rfl
  · exact (impl2 x hx w).mono fun _ _ ⟨a, b⟩ => ⟨a, 0, b.symm⟩
  · exact (impl6 x hx w).mono fun _ _ ⟨a, b⟩ => ⟨a, 0, b.symm⟩
  · exact (impl7 x hx w).mono fun _ _ ⟨a, b⟩ => ⟨a, 0, b.symm⟩
  · exact (impl11 x hx w).mono fun _ _ ⟨a, b⟩ => ⟨a, 0, b.symm⟩
  · exact (impl13 x hx w).mono fun _ _ ⟨a, b⟩ => ⟨a, 0, b.symm⟩
  · exact (impl17 x hx w).mono fun _ _ ⟨a, b⟩ => ⟨a, 0, b.symm⟩
  · exact (impl18 x hx w).mono fun _ _ ⟨a, b⟩ => ⟨a, 0, b.symm⟩
  · exact (impl19 x hx w).mono fun _ _ ⟨a, b⟩ => ⟨a, 0, b.symm⟩
  · exact (impl22 x hx w).mono fun _ _ ⟨a, b⟩ => ⟨a, 0, b.symm⟩
  · exact (impl25 x hx w).mono fun _ _ ⟨a, b⟩ => ⟨a, 0, b.symm⟩
theorem impl_same (x : Nat) (n : Int) (hx : x < 4294967296) (hn : Turns n) (w : World) :
    Calls Tryd.prog 85 #[.int .u32 (x : Int), .int .i64 n] w fun e w' => e = .returned (.int .u32 ((rotI x n : Nat) : Int)) ∧ w' = w := by
  rcases hn with rfl | rfl | rfl | rfl | rfl | rfl | rfl | rfl | rfl | rfl
  · exact (impl2 x hx w).mono fun _ _ ⟨a, b⟩ => ⟨a, b.symm⟩
  · exact (impl6 x hx w).mono fun _ _ ⟨a, b⟩ => ⟨a, b.symm⟩
  · exact (impl7 x hx w).mono fun _ _ ⟨a, b⟩ => ⟨a, b.symm⟩
  · exact (impl11 x hx w).mono fun _ _ ⟨a, b⟩ => ⟨a, b.symm⟩
  · exact (impl13 x hx w).mono fun _ _ ⟨a, b⟩ => ⟨a, b.symm⟩
  · exact (impl17 x hx w).mono fun _ _ ⟨a, b⟩ => ⟨a, b.symm⟩
  · exact (impl18 x hx w).mono fun _ _ ⟨a, b⟩ => ⟨a, b.symm⟩
  · exact (impl19 x hx w).mono fun _ _ ⟨a, b⟩ => ⟨a, b.symm⟩
  · exact (impl22 x hx w).mono fun _ _ ⟨a, b⟩ => ⟨a, b.symm⟩
  · exact (impl25 x hx w).mono fun _ _ ⟨a, b⟩ => ⟨a, b.symm⟩
end Go.Proofs.YtemlmffoehclhaaDoor.Rot
