/-
  What is proved: both functions that say whether two trees are alike answer the same plain yes or no (contracts for the walks).
-/
import Derived.Test.YtealdpkgfmokpaaRows
import Derived.Test.YtealdpkgfmokpaaLawO3
import Derived.BigQuiet
namespace Go.Proofs.Ytealdpkgfmokpaa.SameO
open Go.ChangeShapes Go.WideShapes Go.ChangeAt Go.RowKit
open Sl (Sl Own Off)
open OpenSl (tc nc pc)
open Dev Orm Box3
set_option linter.unusedVariables false

theorem ext_iff {α : Type} (d : α) (a b : List α) : a = b ↔ a.length = b.length ∧ ∀ j, j < a.length → a.getD j d = b.getD j d := by
  constructor
  · rintro rfl; exact ⟨rfl, fun _ _ => rfl⟩
  · rintro ⟨hl, h⟩
    apply List.ext_getElem hl
    intro j h1 h2
    have := h j h1
    rwa [List.getD_eq_getElem?_getD, List.getD_eq_getElem?_getD, List.getElem?_eq_getElem h1, List.getElem?_eq_getElem h2] at this
theorem below_drawn (w : World) (m : Nat) : Below w.heap.size w (w.drewN m) := below_drewN (Below.refl _ _) m
theorem drewN_drewN (w : World) (a b : Nat) : (w.drewN a).drewN b = w.drewN (a + b) := by
  unfold World.drewN; simp [Nat.add_assoc]
theorem bkEq (x y z x' y' z' : Int) (u : World) : (Op.equalIn Op.maxDepth 110 (.agg #[.int .i64 x, .int .i64 y, .int .i64 z]) (.agg #[.int .i64 x', .int .i64 y', .int .i64 z'])).run Try.prog u = .ok (decide (x = x' ∧ y = y' ∧ z = z')) u := by
  have u3 := Try.underlying3
  have a3 := Try.isAgg3
  have z3 := Try.sizeOf3
  rw [show Op.maxDepth = 9999 + 1 from rfl, Op.equalIn]
  simp only [Sem.run_bind, run_underlying Try.underlying110, Result.andThen_ok]
  go_simp
  by_cases h1 : x = x'
  · rw [if_pos h1]
    by_cases h2 : y = y'
    · rw [if_pos h2]
      by_cases h3 : z = z' <;> simp [h1, h2, h3]
    · rw [if_neg h2]; simp [h2]
  · rw [if_neg h1]; simp [h1]
theorem bkNe (x y z x' y' z' : Int) (u : World) : (binOp .neq 110 (.agg #[.int .i64 x, .int .i64 y, .int .i64 z]) (.agg #[.int .i64 x', .int .i64 y', .int .i64 z'])).run Try.prog u = .ok (.bool (!decide (x = x' ∧ y = y' ∧ z = z'))) u := by
  simp [binOp, Op.equal, bkEq]

instance : DecidableEq Om := fun a b =>
  decidable_of_iff (a.pos = b.pos ∧ a.st = b.st ∧ a.bk = b.bk) ⟨fun ⟨h1, h2, h3⟩ => by cases a; cases b; simp_all, fun h => by subst h; exact ⟨rfl, rfl, rfl⟩⟩
theorem om_eq (a b : Om) : a = b ↔ a.pos = b.pos ∧ a.st = b.st ∧ a.bk = b.bk := ⟨fun h => by subst h; exact ⟨rfl, rfl, rfl⟩, fun ⟨h1, h2, h3⟩ => by cases a; cases b; simp_all⟩

end Go.Proofs.Ytealdpkgfmokpaa.SameO
