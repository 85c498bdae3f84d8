/-
  What is proved: the program's calls on the hash of a text that has come: one more piece, the sum, the test (contracts for the walks).
-/
import Derived.Test.YtemlmffoehclhaaDoorRows
import Derived.Test.YtemlmffoehclhaaDoorHashMore
import Derived.Test.YtemlmffoehclhaaDoorHashSum
import Derived.Test.YtemlmffoehclhaaDoorHashOf
import Derived.Test.YtemlmffoehclhaaDoorNewHashC
import Derived.Test.YtemlmffoehclhaaDoorJoin
namespace Go.Proofs.YtemlmffoehclhaaDoor.HashT
open Go.ChangeShapes Go.WideShapes Go.ChangeAt Go.RowKit
open Word
open MixBlock (Tab)
open Absorb (all)
open HashOf (S0 txt)
open HashOKc (hashB)
set_option linter.unusedVariables false

/-- The hash that a text has come to. -/
def hv (s : St) (b : ByteArray) (n : Nat) : Value := .agg #[.int .i64 (s.a : Int), .int .i64 (s.b : Int), .int .i64 (s.c : Int), .int .i64 (s.d : Int), .int .i64 (s.e : Int), .int .i64 (s.f : Int), .int .i64 (s.g : Int), .int .i64 (s.h : Int), .string b, .int .i64 (n : Int)]
def hvT (t : ByteArray) : Value := hv (all S0 t).1 (all S0 t).2 t.size
theorem hvT_nil : hvT ⟨#[]⟩ = NewHashC.h0 := by
  unfold hvT
  rw [Absorb.all_end S0 ⟨#[]⟩ (by decide)]
  rfl
theorem ok_of (s : St) (h : s.ok) (b : ByteArray) (n : Nat) (hn : n ≤ 1000000000) (hb : b.size = n % 64) : hashB [(s.a : Int), (s.b : Int), (s.c : Int), (s.d : Int), (s.e : Int), (s.f : Int), (s.g : Int), (s.h : Int)] b (n : Int) = true := by
  obtain ⟨h0, h1, h2, h3, h4, h5, h6, h7⟩ := h
  simp [hashB, HashOKc.inB]
  omega
theorem okT (t : ByteArray) (ht : t.size ≤ 1000000000) : hashB [((all S0 t).1.a : Int), ((all S0 t).1.b : Int), ((all S0 t).1.c : Int), ((all S0 t).1.d : Int), ((all S0 t).1.e : Int), ((all S0 t).1.f : Int), ((all S0 t).1.g : Int), ((all S0 t).1.h : Int)] (all S0 t).2 (t.size : Int) = true :=
  ok_of _ (Absorb.all_ok _ _ HashOf.S0_ok) _ _ ht (Absorb.all_size _ _)
theorem small (t : ByteArray) : (all S0 t).2.size ≤ 1048576 := by rw [Absorb.all_size]; omega
theorem st_of (s : St) : HashMore.st (s.a : Int) (s.b : Int) (s.c : Int) (s.d : Int) (s.e : Int) (s.f : Int) (s.g : Int) (s.h : Int) = s := rfl

theorem moreT (q t : ByteArray) (hq : q.size ≤ 900000000) (ht : t.size ≤ 65536) (w : World) (T : Tab w) :
    Calls Tryd.prog 17 #[hvT q, .string t] w fun e w' => e = .returned (.tuple #[hvT (q ++ t), .int .i64 0]) ∧ Below w.heap.size w w' := by
  refine (HashMore.more_impl ((all S0 q).1.a : Int) ((all S0 q).1.b : Int) ((all S0 q).1.c : Int) ((all S0 q).1.d : Int) ((all S0 q).1.e : Int) ((all S0 q).1.f : Int) ((all S0 q).1.g : Int) ((all S0 q).1.h : Int) (all S0 q).2 t (q.size : Int) (small q) (by omega) w T).mono ?_
  rw [HashMore.res_fine _ _ _ _ _ _ _ _ _ _ _ (by omega) (okT q (by omega)) (by omega), st_of, Join.all_join]
  rintro e w' ⟨rfl, hb⟩
  refine ⟨?_, hb⟩
  unfold hvT hv HashMore.ofAll HashMore.HO.tup
  rw [ByteArray.size_append, Int.natCast_add]
theorem sumT (t : ByteArray) (ht : t.size ≤ 1000000000) (w : World) (T : Tab w) :
    Calls Tryd.prog 19 #[hvT t] w fun e w' => e = .returned (.tuple #[.string (txt t), .int .i64 0]) ∧ Below w.heap.size w w' := by
  refine (HashSum.sum_impl ((all S0 t).1.a : Int) ((all S0 t).1.b : Int) ((all S0 t).1.c : Int) ((all S0 t).1.d : Int) ((all S0 t).1.e : Int) ((all S0 t).1.f : Int) ((all S0 t).1.g : Int) ((all S0 t).1.h : Int) (all S0 t).2 (t.size : Int) (small t) w T).mono ?_
  rw [HashSum.resS_fine _ _ _ _ _ _ _ _ _ _ (okT t ht), st_of]
  rintro e w' ⟨rfl, hb⟩
  exact ⟨rfl, hb⟩
theorem rightT (t : ByteArray) (ht : t.size ≤ 1000000000) (w : World) :
    Calls Tryd.prog 20 #[hvT t] w fun e w' => e = .returned (.bool true) ∧ Below w.heap.size w w' := by
  refine (HashOKc.ok_impl ((all S0 t).1.a : Int) ((all S0 t).1.b : Int) ((all S0 t).1.c : Int) ((all S0 t).1.d : Int) ((all S0 t).1.e : Int) ((all S0 t).1.f : Int) ((all S0 t).1.g : Int) ((all S0 t).1.h : Int) (all S0 t).2 (t.size : Int) w (by have := small t; unfold maxLen; omega)).mono ?_
  rw [okT t ht]
  exact fun _ _ h => h
theorem newT (w : World) : Calls Tryd.prog 18 #[] w fun e w' => e = .returned (hvT ⟨#[]⟩) ∧ Below w.heap.size w w' := by
  rw [hvT_nil]
  exact NewHashC.new_impl w
/-- Ten cells, whatever they hold. -/
theorem form (t : ByteArray) : ∃ (x0 x1 x2 x3 x4 x5 x6 x7 : Int) (b : ByteArray), hvT t = .agg #[.int .i64 x0, .int .i64 x1, .int .i64 x2, .int .i64 x3, .int .i64 x4, .int .i64 x5, .int .i64 x6, .int .i64 x7, .string b, .int .i64 (t.size : Int)] :=
  ⟨_, _, _, _, _, _, _, _, _, rfl⟩
end Go.Proofs.YtemlmffoehclhaaDoor.HashT