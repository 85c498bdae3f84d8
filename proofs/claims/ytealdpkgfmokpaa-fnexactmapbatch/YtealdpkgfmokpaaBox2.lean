/-
  What is proved: plain facts on a block of two cells (a boxed result, say): what of it stays behind stores and calls (laws for the walks). Nothing of the program.
-/
import Derived.Test.YtealdpkgfmokpaaRows
import Derived.Test.YtealdpkgfmokpaaOrm
namespace Go.Proofs.Ytealdpkgfmokpaa.Box2
open Go.ChangeShapes Go.WideShapes Go.ChangeAt Go.RowKit
open Sl (Sl Own Off)
open Dev Orm
set_option linter.unusedVariables false

/-- Block g holds the two values, none frozen. -/
structure Bx (w : World) (g : Nat) (x y : Value) : Prop where
  c0 : w.cell? ⟨g, 0, none⟩ = some x
  c1 : w.cell? ⟨g, 1, none⟩ = some y
  f0 : w.frozen? ⟨g, 0, none⟩ = false
  f1 : w.frozen? ⟨g, 1, none⟩ = false
theorem Bx.lt {w : World} {g : Nat} {x y : Value} (h : Bx w g x y) : g < w.heap.size := World.block_lt_of_cell? w _ h.c0
theorem Bx.block {w w' : World} {g : Nat} {x y : Value} (h : Bx w g x y) (e : w'.heap[g]? = w.heap[g]?) : Bx w' g x y :=
  ⟨(World.cell?_of_block (w := w) e).trans h.c0, (World.cell?_of_block (w := w) e).trans h.c1, (World.frozen?_of_block (w := w) e).trans h.f0, (World.frozen?_of_block (w := w) e).trans h.f1⟩
theorem Bx.below {w w' : World} {g : Nat} {x y : Value} (h : Bx w g x y) (hb : Below w.heap.size w w') : Bx w' g x y := h.block (hb.block g h.lt)
theorem Bx.turns {w w' : World} {g : Nat} {x y : Value} {vs : List Value} (h : Bx w g x y) (ht : Turns vs w w') (hg : ∀ v ∈ vs, Off v g) : Bx w' g x y := h.block (ht.block g h.lt hg)
theorem Bx.other {w : World} {g : Nat} {x y : Value} (h : Bx w g x y) {g' : Nat} (hne : g ≠ g') (j : Nat) (v : Value) : Bx (w.setCell ⟨g', j, none⟩ v) g x y := h.block (Below.heap_setCell w _ v g hne)
theorem Bx.set0 {w : World} {g : Nat} {x y : Value} (h : Bx w g x y) (v : Value) : Bx (w.setCell ⟨g, 0, none⟩ v) g v y :=
  ⟨World.cell?_setCell_same _ _ _ h.c0, by rw [World.cell?_setCell_other _ _ _ _ (by simp)]; exact h.c1, by rw [Sl.frozen_set]; exact h.f0, by rw [Sl.frozen_set]; exact h.f1⟩
theorem Bx.set1 {w : World} {g : Nat} {x y : Value} (h : Bx w g x y) (v : Value) : Bx (w.setCell ⟨g, 1, none⟩ v) g x v :=
  ⟨by rw [World.cell?_setCell_other _ _ _ _ (by simp)]; exact h.c0, World.cell?_setCell_same _ _ _ h.c1, by rw [Sl.frozen_set]; exact h.f0, by rw [Sl.frozen_set]; exact h.f1⟩
/-- Two values are boxed. -/
theorem box2 (u : World) (t : TypeId) (a b : Value) : ∃ U, u.alloc (.cells #[a, b] t) = U ∧ Below u.heap.size u U ∧ U.heap.size = u.heap.size + 1 ∧ Bx U u.heap.size a b :=
  ⟨_, rfl, (Below.refl _ u).alloc (Nat.le_refl _) _, by simp, ⟨by go_simp, by go_simp, by go_simp, by go_simp⟩⟩
end Go.Proofs.Ytealdpkgfmokpaa.Box2
