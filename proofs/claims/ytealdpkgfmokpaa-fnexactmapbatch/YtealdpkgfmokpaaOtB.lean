/-
  What is proved: slices of the call's own whose block's element type is known; two of unlike types lie apart (laws for the walks). Nothing of the program.
-/
import Derived.Test.YtealdpkgfmokpaaRows
import Derived.Test.YtealdpkgfmokpaaCop
import Derived.Test.YtealdpkgfmokpaaBox3
namespace Go.Proofs.Ytealdpkgfmokpaa.OtB
open Go.ChangeShapes Go.WideShapes Go.ChangeAt Go.RowKit
open Sl (Sl Own Off)
open Dev Orm Box3 Cop
set_option linter.unusedVariables false

/-- A slice of the call's own whose cells stand in a block of elements T. -/
def OT (w : World) (base : Nat) (T : TypeId) (sz : Nat) (v : Value) (n : Nat) (c : Nat → Value) : Prop := Own w base sz v n c ∧ ∀ a cap, v = .slice (some a) n cap → 0 < n → ∃ cs fr, w.heap[a.block]? = some (.cells cs T fr)
theorem OT.apart {w : World} {base base' sz sz' n n' : Nat} {T T' : TypeId} {u v : Value} {c c' : Nat → Value} (h : OT w base T sz u n c) (h' : OT w base' T' sz' v n' c') (hT : T ≠ T') : Apart u v := by
  intro a m cap e hm a' m' cap' e' hm' heq
  obtain ⟨_, _, e1, _⟩ := h.1
  obtain ⟨_, _, e2, _⟩ := h'.1
  have h1 : m = n := by rw [e1] at e; injection e with _ h2 _; exact h2.symm
  have h2 : m' = n' := by rw [e2] at e'; injection e' with _ h2 _; exact h2.symm
  subst h1 h2
  obtain ⟨cs, fr, q⟩ := h.2 a cap e hm
  obtain ⟨cs', fr', q'⟩ := h'.2 a' cap' e' hm'
  rw [heq, q] at q'
  injection q' with q'
  injection q' with _ q'' _
  exact hT q''
theorem OT.grown {w w' : World} {base sz n : Nat} {T : TypeId} {v : Value} {c : Nat → Value} {g : Nat} (h : OT w base T sz v n c) (hsz : 0 < sz) (hg : w.grownBy w' (some g)) (hoff : Off v g) : OT w' base T sz v n c := by
  refine ⟨h.1.grown hg hoff, fun a cap e hn => ?_⟩
  obtain ⟨cs, fr, q⟩ := h.2 a cap e hn
  exact ⟨cs, fr, (hg.block a.block (Array.getElem?_eq_some_iff.1 q).1 (by simpa using hoff a n cap e hn)).trans q⟩
/-- A block of elements T. -/
def Ty (w : World) (g : Nat) (T : TypeId) : Prop := ∃ cs fr, w.heap[g]? = some (.cells cs T fr)
theorem Ty.below {w w' : World} {g : Nat} {T : TypeId} (h : Ty w g T) (hb : Below w.heap.size w w') : Ty w' g T := by
  obtain ⟨cs, fr, q⟩ := h
  exact ⟨cs, fr, (hb.block g (Array.getElem?_eq_some_iff.1 q).1).trans q⟩
theorem ot_off {w : World} {base sz n : Nat} {T T' : TypeId} {v : Value} {c : Nat → Value} {g : Nat} (h : OT w base T sz v n c) (hg : Ty w g T') (hT : T ≠ T') : Off v g := by
  intro a m cap e hm heq
  obtain ⟨_, _, e1, _⟩ := h.1
  have h1 : m = n := by rw [e1] at e; injection e with _ h2 _; exact h2.symm
  subst h1
  obtain ⟨cs, fr, q⟩ := h.2 a cap e hm
  obtain ⟨cs', fr', q'⟩ := hg
  rw [heq, q'] at q
  injection q with q
  injection q with _ q2 _
  exact hT q2.symm
theorem row_grown {w w' : World} {base sz n g : Nat} {T T' : TypeId} {v : Value} {xs : List Value} (h : w.ownsRow base T sz v n xs) (hg : Ty w g T') (hT : T ≠ T') (hw : w.grownBy w' (some g)) : w'.ownsRow base T sz v n xs := by
  obtain ⟨cs', fr', q'⟩ := hg
  have hoff := row_off h q' hT
  refine ⟨h.1, ?_⟩
  rcases h.2 with h2 | ⟨k, cap, cur, hv, hk, hh, r⟩
  · exact Or.inl h2
  · refine Or.inr ⟨k, cap, cur, hv, hk, (hw.block k (Array.getElem?_eq_some_iff.1 hh).1 (fun e => hoff k (by rw [hv]; rfl) (Option.some.inj e))).trans hh, r⟩
theorem boxed_ty (x : World) (T : TypeId) (cs : Array Value) : Ty (x.alloc (.cells cs T)) x.heap.size T := ⟨_, _, heap_alloc_new x _⟩
theorem ty_set {w : World} {g : Nat} {T : TypeId} (h : Ty w g T) (j : Nat) (v : Value) : Ty (w.setCell ⟨g, j, none⟩ v) g T := by
  obtain ⟨cs, fr, q⟩ := h
  refine ⟨cs.setIfInBounds j v, fr, ?_⟩
  unfold World.setCell
  simp [Array.getElem?_modify, q]
theorem ot_below {w w' : World} {base sz n : Nat} {T : TypeId} {v : Value} {c : Nat → Value} (h : OT w base T sz v n c) (hb : Below w.heap.size w w') : OT w' base T sz v n c :=
  ⟨h.1.below hb, fun a cap e hn => by
    obtain ⟨cs, fr, q⟩ := h.2 a cap e hn
    exact ⟨cs, fr, (hb.block _ (Array.getElem?_eq_some_iff.1 q).1).trans q⟩⟩
theorem row_ot {x : World} {base n : Nat} {T : TypeId} {v : Value} {c : Nat → Value} (h : x.ownsRow base T 1 v n (cl c (n * 1))) : OT x base T 1 v n c := by
  refine ⟨row_own h, fun a cap e hn => ?_⟩
  rcases h.2 with ⟨rfl, h0⟩ | ⟨g, cap2, cur, hv, _, hh, _⟩
  · omega
  · rw [hv] at e
    injection e with e5 _ _
    injection e5 with e6
    subst e6
    exact ⟨cur, _, hh⟩
theorem ot_row {w w' : World} {base sz n : Nat} {T T' : TypeId} {v : Value} {c : Nat → Value} {r : Option Nat} (h : OT w base T sz v n c) (hsz : 0 < sz) (hg : w.grownBy w' r) (hr : ∀ q, r = some q → Ty w q T') (hT : T ≠ T') : OT w' base T sz v n c := by
  refine ⟨Cop.own_grown h.1 hg (fun q hq => ot_off h (hr q hq) hT), fun a cap e hn => ?_⟩
  obtain ⟨cs, fr, q⟩ := h.2 a cap e hn
  exact ⟨cs, fr, (hg.block a.block (Array.getElem?_eq_some_iff.1 q).1 (fun e2 => ot_off h (hr _ e2.symm) hT a n cap e hn rfl)).trans q⟩
theorem ty_ne {w : World} {g q : Nat} {T T' : TypeId} (h : Ty w g T) (h' : Ty w q T') (hT : T ≠ T') : g ≠ q := by
  rintro rfl
  obtain ⟨_, _, e⟩ := h
  obtain ⟨_, _, e'⟩ := h'
  rw [e] at e'
  injection e' with e'
  injection e' with _ e2 _
  exact hT e2
theorem row_ty {w : World} {base n : Nat} {T : TypeId} {sz : Nat} {v : Value} {xs : List Value} (h : w.ownsRow base T sz v n xs) : ∀ q, v.ownBlock = some q → Ty w q T := by
  intro q hq
  rcases h.2 with ⟨rfl, _⟩ | ⟨g, cap, cur, rfl, _, hh, _⟩
  · cases hq
  · have : g = q := by simpa [Value.ownBlock] using hq
    subst this
    exact ⟨_, _, hh⟩
theorem cl_snoc (us : Nat → Value) (k : Nat) (z : Value) : cl us (k * 1) ++ [z] = cl (fun j => if j = k then z else us j) ((k + 1) * 1) := by
  apply List.ext_getElem?
  intro j
  rw [Nat.mul_one, Nat.mul_one]
  rcases Nat.lt_trichotomy j k with h | h | h
  · rw [List.getElem?_append_left (by rw [cl_len]; exact h), cl_get us k j h, cl_get _ (k + 1) j (by omega)]
    simp [Nat.ne_of_lt h]
  · subst h
    rw [List.getElem?_append_right (by rw [cl_len]; exact Nat.le_refl _), cl_len, cl_get _ (j + 1) j (by omega)]
    simp
  · rw [List.getElem?_eq_none (by rw [List.length_append, cl_len]; simp; omega), List.getElem?_eq_none (by rw [cl_len]; omega)]
theorem row_ot3 {x : World} {base n sz : Nat} {T : TypeId} {v : Value} {c : Nat → Value} (h : x.ownsRow base T sz v n (cl c (n * sz))) : OT x base T sz v n c := by
  refine ⟨row_own h, fun a cap e hn => ?_⟩
  rcases h.2 with ⟨rfl, h0⟩ | ⟨g, cap2, cur, hv, _, hh, _⟩
  · omega
  · rw [hv] at e
    injection e with e5 _ _
    injection e5 with e6
    subst e6
    exact ⟨cur, _, hh⟩
end Go.Proofs.Ytealdpkgfmokpaa.OtB
