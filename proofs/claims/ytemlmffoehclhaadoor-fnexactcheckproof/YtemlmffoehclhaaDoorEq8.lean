/-
  What is proved: the comparison of two equal arrays of eight numbers, and of two equal hashes, says true (contracts for the walks).
-/
import Derived.Test.YtemlmffoehclhaaDoorRows
import Derived.WalkKit
import Derived.WalkLawsBesides
import Derived.ProofKit
import Derived.Deep.QuietTactic
import Derived.BigQuiet
import Derived.Outline
import Derived.Lib.Hide
import Derived.Below
namespace Go.Proofs.YtemlmffoehclhaaDoor.Eq8
open Go.ChangeShapes Go.WideShapes Go.ChangeAt Go.RowKit

theorem cells8 (x0 x1 x2 x3 x4 x5 x6 x7 : Int) (w : World) (k : Nat) (h : k < 8) : ∃ X : Int,
    ((w.alloc (Obj.cells #[.int .i64 x0, .int .i64 x1, .int .i64 x2, .int .i64 x3, .int .i64 x4, .int .i64 x5, .int .i64 x6, .int .i64 x7] 27)).alloc (Obj.cells #[.int .i64 x0, .int .i64 x1, .int .i64 x2, .int .i64 x3, .int .i64 x4, .int .i64 x5, .int .i64 x6, .int .i64 x7] 27)).cell? ⟨w.heap.size, k, none⟩ = some (.int .i64 X) ∧
    ((w.alloc (Obj.cells #[.int .i64 x0, .int .i64 x1, .int .i64 x2, .int .i64 x3, .int .i64 x4, .int .i64 x5, .int .i64 x6, .int .i64 x7] 27)).alloc (Obj.cells #[.int .i64 x0, .int .i64 x1, .int .i64 x2, .int .i64 x3, .int .i64 x4, .int .i64 x5, .int .i64 x6, .int .i64 x7] 27)).cell? ⟨w.heap.size + 1, k, none⟩ = some (.int .i64 X) := by
  match k, h with
  | 0, _ => exact ⟨x0, by go_simp, by go_simp⟩
  | 1, _ => exact ⟨x1, by go_simp, by go_simp⟩
  | 2, _ => exact ⟨x2, by go_simp, by go_simp⟩
  | 3, _ => exact ⟨x3, by go_simp, by go_simp⟩
  | 4, _ => exact ⟨x4, by go_simp, by go_simp⟩
  | 5, _ => exact ⟨x5, by go_simp, by go_simp⟩
  | 6, _ => exact ⟨x6, by go_simp, by go_simp⟩
  | 7, _ => exact ⟨x7, by go_simp, by go_simp⟩

theorem bcell {W w1 : World} (hb : Below W.heap.size W w1) : (∀ b o, b < W.heap.size → w1.cell? ⟨b, o, none⟩ = W.cell? ⟨b, o, none⟩) ∧ (∀ b o, b < W.heap.size → w1.frozen? ⟨b, o, none⟩ = W.frozen? ⟨b, o, none⟩) :=
  ⟨fun b o h => hb.cell (p := ⟨b, o, none⟩) h, fun b o h => hb.frozen (p := ⟨b, o, none⟩) h⟩

end Go.Proofs.YtemlmffoehclhaaDoor.Eq8
