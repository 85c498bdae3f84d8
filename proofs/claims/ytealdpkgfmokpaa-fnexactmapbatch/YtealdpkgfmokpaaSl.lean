/-
  What is proved: plain facts on slices whose elements have one number of cells each: what they hold, that it stays where nothing of theirs is turned, and what a store into one cell leaves (laws for the walks). Nothing of the program.
-/
import Derived.Test.YtealdpkgfmokpaaRows
import Derived.WalkKit
import Derived.WalkLawsBesides
import Derived.ProofKit
import Derived.Lib.Hide
import Derived.Below
import Derived.Laws.AppendOwn
namespace Go.Proofs.Ytealdpkgfmokpaa.Sl
open Go.ChangeShapes Go.WideShapes Go.ChangeAt Go.RowKit
set_option linter.unusedVariables false

/-- The slice v has n elements of sz cells each; cell j of them holds c j. -/
def Sl (w : World) (sz : Nat) (v : Value) (n : Nat) (c : Nat → Value) : Prop :=
  ∃ (a : Option Addr) (cap : Nat), v = .slice a n cap ∧ n ≤ cap ∧ cap ≤ maxLen ∧ (0 < n → ∃ b o, a = some ⟨b, o, none⟩ ∧ ∀ j, j < n * sz → w.cell? ⟨b, o + j, none⟩ = some (c j))
/-- The same, of the call's own: in a block from base on, nothing of it frozen. -/
def Own (w : World) (base sz : Nat) (v : Value) (n : Nat) (c : Nat → Value) : Prop :=
  ∃ (a : Option Addr) (cap : Nat), v = .slice a n cap ∧ n ≤ cap ∧ cap ≤ maxLen ∧ (0 < n → ∃ b o, a = some ⟨b, o, none⟩ ∧ base ≤ b ∧ ∀ j, j < n * sz → w.cell? ⟨b, o + j, none⟩ = some (c j) ∧ w.frozen? ⟨b, o + j, none⟩ = false)
theorem Own.sl {w : World} {base sz : Nat} {v : Value} {n : Nat} {c : Nat → Value} (h : Own w base sz v n c) : Sl w sz v n c := by
  obtain ⟨a, cap, rfl, h1, h2, h3⟩ := h
  refine ⟨a, cap, rfl, h1, h2, fun hn => ?_⟩
  obtain ⟨b, o, ha, _, hc⟩ := h3 hn
  exact ⟨b, o, ha, fun j hj => (hc j hj).1⟩
theorem Own.base {w : World} {base base' sz : Nat} {v : Value} {n : Nat} {c : Nat → Value} (h : Own w base sz v n c) (hb : base' ≤ base) : Own w base' sz v n c := by
  obtain ⟨a, cap, rfl, h1, h2, h3⟩ := h
  refine ⟨a, cap, rfl, h1, h2, fun hn => ?_⟩
  obtain ⟨b, o, ha, hbb, hc⟩ := h3 hn
  exact ⟨b, o, ha, by omega, hc⟩
theorem Sl.congr {w : World} {sz : Nat} {v : Value} {n : Nat} {c c' : Nat → Value} (h : Sl w sz v n c) (hc : ∀ j, j < n * sz → c j = c' j) : Sl w sz v n c' := by
  obtain ⟨a, cap, rfl, h1, h2, h3⟩ := h
  refine ⟨a, cap, rfl, h1, h2, fun hn => ?_⟩
  obtain ⟨b, o, ha, hh⟩ := h3 hn
  exact ⟨b, o, ha, fun j hj => by rw [← hc j hj]; exact hh j hj⟩
theorem Own.congr {w : World} {base sz : Nat} {v : Value} {n : Nat} {c c' : Nat → Value} (h : Own w base sz v n c) (hc : ∀ j, j < n * sz → c j = c' j) : Own w base sz v n c' := by
  obtain ⟨a, cap, rfl, h1, h2, h3⟩ := h
  refine ⟨a, cap, rfl, h1, h2, fun hn => ?_⟩
  obtain ⟨b, o, ha, hb, hh⟩ := h3 hn
  exact ⟨b, o, ha, hb, fun j hj => by rw [← hc j hj]; exact hh j hj⟩
/-- What was there is there still behind a call that only makes new memory. -/
theorem Sl.below {w w' : World} {sz : Nat} {v : Value} {n : Nat} {c : Nat → Value} (h : Sl w sz v n c) (hb : Below w.heap.size w w') : Sl w' sz v n c := by
  obtain ⟨a, cap, rfl, h1, h2, h3⟩ := h
  refine ⟨a, cap, rfl, h1, h2, fun hn => ?_⟩
  obtain ⟨b, o, ha, hc⟩ := h3 hn
  exact ⟨b, o, ha, fun j hj => (hb.cell (World.block_lt_of_cell? w _ (hc j hj))).trans (hc j hj)⟩
theorem Own.below {w w' : World} {base sz : Nat} {v : Value} {n : Nat} {c : Nat → Value} (h : Own w base sz v n c) (hb : Below w.heap.size w w') : Own w' base sz v n c := by
  obtain ⟨a, cap, rfl, h1, h2, h3⟩ := h
  refine ⟨a, cap, rfl, h1, h2, fun hn => ?_⟩
  obtain ⟨b, o, ha, hbb, hc⟩ := h3 hn
  refine ⟨b, o, ha, hbb, fun j hj => ?_⟩
  have hlt := World.block_lt_of_cell? w _ (hc j hj).1
  exact ⟨(hb.cell hlt).trans (hc j hj).1, (World.frozen?_of_block (w := w) (hb.block b hlt)).trans (hc j hj).2⟩
/-- No cell of v's stands in block g. -/
def Off (v : Value) (g : Nat) : Prop := ∀ a n cap, v = .slice (some a) n cap → 0 < n → a.block ≠ g
/-- .. and behind one that turns one block alone, which is not its own. -/
theorem Sl.grown {w w' : World} {sz : Nat} {v : Value} {n : Nat} {c : Nat → Value} {g : Nat} (h : Sl w sz v n c) (hg : w.grownBy w' (some g)) (hoff : Off v g) : Sl w' sz v n c := by
  obtain ⟨a, cap, rfl, h1, h2, h3⟩ := h
  refine ⟨a, cap, rfl, h1, h2, fun hn => ?_⟩
  obtain ⟨b, o, rfl, hc⟩ := h3 hn
  have hne : b ≠ g := hoff _ _ _ rfl hn
  refine ⟨b, o, rfl, fun j hj => ?_⟩
  have hlt := World.block_lt_of_cell? w _ (hc j hj)
  exact (World.cell?_of_block (w := w) (hg.block b hlt (by simpa using hne))).trans (hc j hj)
theorem Own.grown {w w' : World} {base sz : Nat} {v : Value} {n : Nat} {c : Nat → Value} {g : Nat} (h : Own w base sz v n c) (hg : w.grownBy w' (some g)) (hoff : Off v g) : Own w' base sz v n c := by
  obtain ⟨a, cap, rfl, h1, h2, h3⟩ := h
  refine ⟨a, cap, rfl, h1, h2, fun hn => ?_⟩
  obtain ⟨b, o, rfl, hbb, hc⟩ := h3 hn
  have hne : b ≠ g := hoff _ _ _ rfl hn
  refine ⟨b, o, rfl, hbb, fun j hj => ?_⟩
  have hlt := World.block_lt_of_cell? w _ (hc j hj).1
  have hbk := hg.block b hlt (by simpa using hne)
  exact ⟨(World.cell?_of_block (w := w) hbk).trans (hc j hj).1, (World.frozen?_of_block (w := w) hbk).trans (hc j hj).2⟩
/-- A slice of one time is off a block of a later one. -/
theorem Sl.off {w : World} {sz : Nat} {v : Value} {n : Nat} {c : Nat → Value} (h : Sl w sz v n c) (hsz : 0 < sz) (g : Nat) (hg : w.heap.size ≤ g) : Off v g := by
  obtain ⟨a, cap, rfl, h1, h2, h3⟩ := h
  intro a' n' cap' e hn
  obtain ⟨rfl, rfl, rfl⟩ : a = some a' ∧ n = n' ∧ cap = cap' := by simpa using e
  obtain ⟨b, o, ha, hc⟩ := h3 hn
  obtain rfl := Option.some.inj ha
  have hlt := World.block_lt_of_cell? w _ (hc 0 (Nat.mul_pos hn hsz))
  show b ≠ g
  have : b < w.heap.size := hlt
  omega
/-- Where the cells stand. -/
theorem Sl.at {w : World} {sz : Nat} {a : Option Addr} {n cap : Nat} {c : Nat → Value} (h : Sl w sz (.slice a n cap) n c) (hn : 0 < n) : ∃ b o, a = some ⟨b, o, none⟩ ∧ ∀ j, j < n * sz → w.cell? ⟨b, o + j, none⟩ = some (c j) := by
  obtain ⟨a', cap', e, h1, h2, h3⟩ := h
  obtain ⟨rfl, rfl⟩ : a = a' ∧ cap = cap' := by simpa using e
  exact h3 hn
theorem Own.at {w : World} {base sz : Nat} {a : Option Addr} {n cap : Nat} {c : Nat → Value} (h : Own w base sz (.slice a n cap) n c) (hn : 0 < n) : ∃ b o, a = some ⟨b, o, none⟩ ∧ base ≤ b ∧ ∀ j, j < n * sz → w.cell? ⟨b, o + j, none⟩ = some (c j) ∧ w.frozen? ⟨b, o + j, none⟩ = false := by
  obtain ⟨a', cap', e, h1, h2, h3⟩ := h
  obtain ⟨rfl, rfl⟩ : a = a' ∧ cap = cap' := by simpa using e
  exact h3 hn
theorem Sl.form {w : World} {sz : Nat} {v : Value} {n : Nat} {c : Nat → Value} (h : Sl w sz v n c) : ∃ a cap, v = .slice a n cap ∧ n ≤ cap ∧ cap ≤ maxLen := by
  obtain ⟨a, cap, rfl, h1, h2, _⟩ := h
  exact ⟨a, cap, rfl, h1, h2⟩

theorem frozen_set (w : World) (p q : Addr) (v : Value) : (w.setCell p v).frozen? q = w.frozen? q := by
  by_cases h : q.block = p.block
  · simp only [World.frozen?, World.setCell]
    rw [h, Array.getElem?_modify]
    simp only [if_true]
    cases hh : w.heap[p.block]? with
    | none => rfl
    | some o => cases o <;> rfl
  · exact World.frozen?_of_block (w := w) (Below.heap_setCell w p v q.block h)
/-- What a store into cell k leaves. -/
theorem Own.set {w : World} {base sz : Nat} {n cap b o : Nat} {c : Nat → Value} (h : Own w base sz (.slice (some ⟨b, o, none⟩) n cap) n c) (k : Nat) (hk : k < n * sz) (v : Value) :
    Own (w.setCell ⟨b, o + k, none⟩ v) base sz (.slice (some ⟨b, o, none⟩) n cap) n (fun j => if j = k then v else c j) := by
  obtain ⟨a', cap', e, h1, h2, h3⟩ := h
  obtain ⟨rfl, rfl⟩ : a' = some ⟨b, o, none⟩ ∧ cap' = cap := by simp at e; exact ⟨e.1.symm, e.2.symm⟩
  refine ⟨_, _, rfl, h1, h2, fun hn => ?_⟩
  obtain ⟨b', o', hb', hbb, hc⟩ := h3 hn
  obtain ⟨rfl, rfl⟩ : b = b' ∧ o = o' := by simpa using hb'
  refine ⟨b, o, rfl, hbb, fun j hj => ⟨?_, by rw [frozen_set]; exact (hc j hj).2⟩⟩
  show _ = some (if j = k then v else c j)
  by_cases ej : j = k
  · subst ej
    rw [if_pos rfl]
    exact World.cell?_setCell_same _ _ _ (hc j hj).1
  · rw [if_neg ej, World.cell?_setCell_other _ _ _ _ (fun e2 => ej (by have h9 : o + k = o + j := congrArg Addr.off e2; omega))]
    exact (hc j hj).1
end Go.Proofs.Ytealdpkgfmokpaa.Sl
