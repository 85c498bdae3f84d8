/-
  What is proved: plain facts on a block of three cells (a boxed tree): what of it stays behind stores, calls and markings (laws for the walks). Nothing of the program.
-/
import Derived.Test.YtealdpkgfmokpaaRows
import Derived.Test.YtealdpkgfmokpaaOrm
namespace Go.Proofs.Ytealdpkgfmokpaa.Box3
open Go.ChangeShapes Go.WideShapes Go.ChangeAt Go.RowKit
open Sl (Sl Own Off)
open Dev Orm
set_option linter.unusedVariables false

/-- Block g holds the three values, none frozen. -/
structure Bx (w : World) (g : Nat) (x y z : Value) : Prop where
  c0 : w.cell? ⟨g, 0, none⟩ = some x
  c1 : w.cell? ⟨g, 1, none⟩ = some y
  c2 : w.cell? ⟨g, 2, none⟩ = some z
  f0 : w.frozen? ⟨g, 0, none⟩ = false
  f1 : w.frozen? ⟨g, 1, none⟩ = false
  f2 : w.frozen? ⟨g, 2, none⟩ = false
theorem Bx.lt {w : World} {g : Nat} {x y z : Value} (h : Bx w g x y z) : g < w.heap.size := World.block_lt_of_cell? w _ h.c0
theorem Bx.block {w w' : World} {g : Nat} {x y z : Value} (h : Bx w g x y z) (e : w'.heap[g]? = w.heap[g]?) : Bx w' g x y z :=
  ⟨(World.cell?_of_block (w := w) e).trans h.c0, (World.cell?_of_block (w := w) e).trans h.c1, (World.cell?_of_block (w := w) e).trans h.c2, (World.frozen?_of_block (w := w) e).trans h.f0, (World.frozen?_of_block (w := w) e).trans h.f1, (World.frozen?_of_block (w := w) e).trans h.f2⟩
theorem Bx.below {w w' : World} {g : Nat} {x y z : Value} (h : Bx w g x y z) (hb : Below w.heap.size w w') : Bx w' g x y z := h.block (hb.block g h.lt)
theorem Bx.turnsR {w w' : World} {g lo hi : Nat} {x y z : Value} (h : Bx w g x y z) (ht : TurnsR lo hi w w') (hg : g < lo ∨ hi ≤ g) : Bx w' g x y z := h.block (ht.block g h.lt hg)
theorem Bx.turns {w w' : World} {g : Nat} {x y z : Value} {vs : List Value} (h : Bx w g x y z) (ht : Turns vs w w') (hg : ∀ v ∈ vs, Off v g) : Bx w' g x y z := h.block (ht.block g h.lt hg)
theorem Bx.other {w : World} {g : Nat} {x y z : Value} (h : Bx w g x y z) {g' : Nat} (hne : g ≠ g') (j : Nat) (v : Value) : Bx (w.setCell ⟨g', j, none⟩ v) g x y z := h.block (Below.heap_setCell w _ v g hne)
theorem Bx.set0 {w : World} {g : Nat} {x y z : Value} (h : Bx w g x y z) (v : Value) : Bx (w.setCell ⟨g, 0, none⟩ v) g v y z :=
  ⟨World.cell?_setCell_same _ _ _ h.c0, by rw [World.cell?_setCell_other _ _ _ _ (by simp)]; exact h.c1, by rw [World.cell?_setCell_other _ _ _ _ (by simp)]; exact h.c2, by rw [Sl.frozen_set]; exact h.f0, by rw [Sl.frozen_set]; exact h.f1, by rw [Sl.frozen_set]; exact h.f2⟩
theorem Bx.set1 {w : World} {g : Nat} {x y z : Value} (h : Bx w g x y z) (v : Value) : Bx (w.setCell ⟨g, 1, none⟩ v) g x v z :=
  ⟨by rw [World.cell?_setCell_other _ _ _ _ (by simp)]; exact h.c0, World.cell?_setCell_same _ _ _ h.c1, by rw [World.cell?_setCell_other _ _ _ _ (by simp)]; exact h.c2, by rw [Sl.frozen_set]; exact h.f0, by rw [Sl.frozen_set]; exact h.f1, by rw [Sl.frozen_set]; exact h.f2⟩
theorem Bx.set2 {w : World} {g : Nat} {x y z : Value} (h : Bx w g x y z) (v : Value) : Bx (w.setCell ⟨g, 2, none⟩ v) g x y v :=
  ⟨by rw [World.cell?_setCell_other _ _ _ _ (by simp)]; exact h.c0, by rw [World.cell?_setCell_other _ _ _ _ (by simp)]; exact h.c1, World.cell?_setCell_same _ _ _ h.c2, by rw [Sl.frozen_set]; exact h.f0, by rw [Sl.frozen_set]; exact h.f1, by rw [Sl.frozen_set]; exact h.f2⟩
/-- Three values are boxed. -/
theorem box3 (u : World) (t : TypeId) (a b c : Value) : ∃ U, u.alloc (.cells #[a, b, c] t) = U ∧ Below u.heap.size u U ∧ U.heap.size = u.heap.size + 1 ∧ Bx U u.heap.size a b c :=
  ⟨_, rfl, (Below.refl _ u).alloc (Nat.le_refl _) _, by simp, ⟨by go_simp, by go_simp, by go_simp, by go_simp, by go_simp, by go_simp⟩⟩
theorem rdO_set_off {w : World} {lo hi : Nat} {v : Value} {o : Om} (h : RdO w lo hi v o) {g : Nat} (hg : g < lo ∨ hi ≤ g) (j : Nat) (x : Value) : RdO (w.setCell ⟨g, j, none⟩ x) lo hi v o :=
  h.turns (lo' := g) (hi' := g + 1) ⟨rfl, rfl, rfl, by simp [World.setCell], fun k hk hh => Below.heap_setCell _ _ _ _ (fun e => by simp only at e; omega)⟩ (by omega)
theorem nsO_set_off {w : World} {lo hi : Nat} {v : Value} {bss : List (List Bk)} {vs : Nat → Value} (h : NsO w lo v bss vs) (h1 : Lies lo hi v) (h2 : ∀ j, j < bss.length → Lies lo hi (vs j)) {g : Nat} (hg : g < lo ∨ hi ≤ g) (j : Nat) (x : Value) : NsO (w.setCell ⟨g, j, none⟩ x) lo v bss vs :=
  ⟨own_set_off h.out (h1.off hg) j x, fun i hi' => own_set_off (h.inn i hi') ((h2 i hi').off hg) j x, h.off, h.each⟩
end Go.Proofs.Ytealdpkgfmokpaa.Box3
