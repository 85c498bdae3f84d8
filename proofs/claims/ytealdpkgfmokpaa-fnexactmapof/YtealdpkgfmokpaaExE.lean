/-
  What is proved: plain facts for the walks of the exact laws on hidden maps: what of boxes stays behind a call or a marking (laws for the walks).
-/
import Derived.Test.YtealdpkgfmokpaaRows
import Derived.Test.YtealdpkgfmokpaaEncL
namespace Go.Proofs.Ytealdpkgfmokpaa.ExE
open Go.ChangeShapes Go.WideShapes Go.ChangeAt Go.RowKit
open Sl (Sl Own Off)
open OpenSl (tc nc pc)
open Dev Orm
set_option linter.unusedVariables false

theorem box_below4 {u u' : World} (hb : Below u.heap.size u u') {g : Nat} {a b c d : Value} (c0 : u.cell? ⟨g, 0, none⟩ = some a) (c1 : u.cell? ⟨g, 1, none⟩ = some b) (c2 : u.cell? ⟨g, 2, none⟩ = some c) (c3 : u.cell? ⟨g, 3, none⟩ = some d) : u'.cell? ⟨g, 0, none⟩ = some a ∧ u'.cell? ⟨g, 1, none⟩ = some b ∧ u'.cell? ⟨g, 2, none⟩ = some c ∧ u'.cell? ⟨g, 3, none⟩ = some d :=
  ⟨(hb.cell (World.block_lt_of_cell? u _ c0)).trans c0, (hb.cell (World.block_lt_of_cell? u _ c1)).trans c1, (hb.cell (World.block_lt_of_cell? u _ c2)).trans c2, (hb.cell (World.block_lt_of_cell? u _ c3)).trans c3⟩
theorem box_turns4 {u u' : World} {lo hi : Nat} (ht : TurnsR lo hi u u') {g : Nat} (hg : g < lo ∨ hi ≤ g) {a b c d : Value} (c0 : u.cell? ⟨g, 0, none⟩ = some a) (c1 : u.cell? ⟨g, 1, none⟩ = some b) (c2 : u.cell? ⟨g, 2, none⟩ = some c) (c3 : u.cell? ⟨g, 3, none⟩ = some d) : u'.cell? ⟨g, 0, none⟩ = some a ∧ u'.cell? ⟨g, 1, none⟩ = some b ∧ u'.cell? ⟨g, 2, none⟩ = some c ∧ u'.cell? ⟨g, 3, none⟩ = some d := by
  have hbk := ht.block g (World.block_lt_of_cell? u _ c0) hg
  exact ⟨(World.cell?_of_block (w := u) hbk).trans c0, (World.cell?_of_block (w := u) hbk).trans c1, (World.cell?_of_block (w := u) hbk).trans c2, (World.cell?_of_block (w := u) hbk).trans c3⟩
/-- A hidden map is boxed. -/
theorem boxU4 (u : World) (t : TypeId) (a b c d : Value) : ∃ U, u.alloc (.cells #[a, b, c, d] t) = U ∧ Below u.heap.size u U ∧ U.heap.size = u.heap.size + 1 ∧ U.cell? ⟨u.heap.size, 0, none⟩ = some a ∧ U.cell? ⟨u.heap.size, 1, none⟩ = some b ∧ U.cell? ⟨u.heap.size, 2, none⟩ = some c ∧ U.cell? ⟨u.heap.size, 3, none⟩ = some d :=
  ⟨_, rfl, (Below.refl _ u).alloc (Nat.le_refl _) _, by simp, by go_simp, by go_simp, by go_simp, by go_simp⟩
end Go.Proofs.Ytealdpkgfmokpaa.ExE
