/-
  What is proved: plain facts on a block of memory that is known whole: its cells, a store into it, a store of all of it (laws for the walks).
-/
import Derived.Test.YtealdpkgfmokpaaRows
import Derived.WalkKit
import Derived.WalkLawsBesides
import Derived.ProofKit
import Derived.Outline
import Derived.Lib.Hide
import Derived.Below
import Derived.Laws.Rows
import Derived.Deep.MidRow
import Derived.Deep.QuietTactic
import Derived.BigQuiet
import Derived.StillTailTactics
namespace Go.Proofs.Ytealdpkgfmokpaa.Arr
open Go.ChangeShapes Go.WideShapes Go.ChangeAt Go.RowKit

/-- Block g is known whole. -/
def Row (w : World) (g : Nat) (t : TypeId) (xs : List Value) : Prop := w.heap[g]? = some (.cells xs.toArray t (0, 0))
theorem Row.cell {w : World} {g : Nat} {t : TypeId} {xs : List Value} (h : Row w g t xs) (j : Nat) : w.cell? ⟨g, j, none⟩ = xs[j]? := by
  rw [cell_of_row w g j _ t _ h]; simp
theorem Row.frozen {w : World} {g : Nat} {t : TypeId} {xs : List Value} (h : Row w g t xs) (j : Nat) : w.frozen? ⟨g, j, none⟩ = false := frozen_of_row w g j _ t h
theorem Row.lt {w : World} {g : Nat} {t : TypeId} {xs : List Value} (h : Row w g t xs) : g < w.heap.size := (Array.getElem?_eq_some_iff.1 h).1
theorem Row.set {w : World} {g : Nat} {t : TypeId} {xs : List Value} (h : Row w g t xs) (i : Nat) (v : Value) : Row (w.setCell ⟨g, i, none⟩ v) g t (xs.set i v) := by
  have := heap_setCell_same w g i _ t v h
  unfold Row
  rw [this]
  simp
theorem Row.set_far {w : World} {g : Nat} {t : TypeId} {xs : List Value} (h : Row w g t xs) (b i : Nat) (v : Value) (hb : g ≠ b) : Row (w.setCell ⟨b, i, none⟩ v) g t xs :=
  (heap_setCell_other w ⟨b, i, none⟩ g v hb).trans h
theorem Row.drew {w : World} {g : Nat} {t : TypeId} {xs : List Value} (h : Row w g t xs) : Row w.drew g t xs := h
theorem Row.drewN {w : World} {g : Nat} {t : TypeId} {xs : List Value} (h : Row w g t xs) (n : Nat) : Row (w.drewN n) g t xs := h
theorem Row.alloc {w : World} {g : Nat} {t : TypeId} {xs : List Value} (h : Row w g t xs) (o : Obj) : Row (w.alloc o) g t xs := by
  have : (w.alloc o).heap[g]? = w.heap[g]? := Below.heap_alloc w o g h.lt
  exact this.trans h
theorem Row.below {w w' : World} {g : Nat} {t : TypeId} {xs : List Value} (h : Row w g t xs) {B : Nat} (hb : Below B w w') (hg : g < B) : Row w' g t xs := (hb.block g hg).trans h
theorem row_new (w : World) (cs : Array Value) (t : TypeId) : Row (w.alloc (.cells cs t)) w.heap.size t cs.toList := by
  unfold Row
  have : (w.alloc (.cells cs t)).heap[w.heap.size]? = some (.cells cs t) := by show (w.heap.push _)[w.heap.size]? = _; simp
  rw [this]

/-- A store of many cells. -/
theorem Row.sets {g : Nat} {t : TypeId} : ∀ (vs : List Value) (o : Nat) (w : World) (xs : List Value), Row w g t xs → o + vs.length ≤ xs.length →
    Row (w.setCells g o vs) g t (xs.take o ++ vs ++ xs.drop (o + vs.length))
  | [], o, _, xs, h, _ => by simpa [World.setCells] using h
  | v :: vs, o, w, xs, h, hl => by
    have hl2 : o + (vs.length + 1) ≤ xs.length := by simpa using hl
    have := Row.sets vs (o + 1) (w.setCell ⟨g, o, none⟩ v) (xs.set o v) (h.set o v) (by simp; omega)
    have e : (xs.set o v).take (o + 1) ++ vs ++ (xs.set o v).drop (o + 1 + vs.length) = xs.take o ++ v :: vs ++ xs.drop (o + (v :: vs).length) := by
      rw [List.take_succ_eq_append_getElem (by simp; omega), List.take_set_of_le (Nat.le_refl _), List.drop_set_of_lt (by omega)]
      simp
      congr 1
      omega
    rw [← e]
    exact this
theorem Row.sets_far {g b : Nat} {t : TypeId} {xs : List Value} (hb : g ≠ b) : ∀ (vs : List Value) (o : Nat) (w : World), Row w g t xs → Row (w.setCells b o vs) g t xs
  | [], _, _, h => h
  | v :: vs, o, _, h => Row.sets_far hb vs (o + 1) _ (h.set_far b o v hb)
theorem size_sets (b : Nat) : ∀ (vs : List Value) (o : Nat) (w : World), (w.setCells b o vs).heap.size = w.heap.size
  | [], _, _ => rfl
  | v :: vs, o, w => (size_sets b vs (o + 1) _).trans (by simp [World.setCell])
theorem Row.sets_all {w : World} {g : Nat} {t : TypeId} {xs vs : List Value} (h : Row w g t xs) (hl : vs.length = xs.length) : Row (w.setCells g 0 vs) g t vs := by
  have := Row.sets vs 0 w xs h (by omega)
  rw [List.drop_of_length_le (by omega)] at this
  simpa using this
theorem below_sets {B : Nat} {a : World} (g : Nat) (hg : B ≤ g) : ∀ (vs : List Value) (o : Nat) (w : World), Below B a w → Below B a (w.setCells g o vs)
  | [], _, _, h => h
  | v :: vs, o, _, h => below_sets g hg vs (o + 1) _ (h.setCell hg v)
theorem Row.there {w : World} {g : Nat} {t : TypeId} {xs : List Value} (h : Row w g t xs) : w.there g 0 xs.length := fun j hj => by
  rw [Nat.zero_add]
  exact ⟨by rw [h.cell]; simp [List.getElem?_eq_getElem hj], h.frozen j⟩
theorem Row.range {w : World} {g : Nat} {t : TypeId} {xs : List Value} (h : Row w g t xs) : w.rangeAt g 0 xs := fun j v hv => by
  rw [Nat.zero_add, h.cell]; exact hv

/-- Two blocks that were laid one behind the other. -/
theorem two_new (w : World) (a b : Array Value) (t u : TypeId) : Row ((w.alloc (.cells a t)).alloc (.cells b u)) w.heap.size t a.toList ∧ Row ((w.alloc (.cells a t)).alloc (.cells b u)) (w.heap.size + 1) u b.toList ∧
    Below w.heap.size w ((w.alloc (.cells a t)).alloc (.cells b u)) ∧ w.heap.size + 2 ≤ ((w.alloc (.cells a t)).alloc (.cells b u)).heap.size := by
  refine ⟨(row_new w a t).alloc _, ?_, ((Below.refl _ _).alloc (Nat.le_refl _) _).alloc (by simp) _, by simp⟩
  have := row_new (w.alloc (.cells a t)) b u
  rw [show (w.alloc (.cells a t)).heap.size = w.heap.size + 1 by simp] at this
  exact this
end Go.Proofs.Ytealdpkgfmokpaa.Arr
