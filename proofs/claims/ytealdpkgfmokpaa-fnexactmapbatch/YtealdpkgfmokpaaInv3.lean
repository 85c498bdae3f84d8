/-
  What is proved: as Inv2, for regions in which operations are guarded by others' results, too (a law for the walks). Nothing of the program.
-/
import Derived.Test.YtealdpkgfmokpaaRows
import Derived.Test.YtealdpkgfmokpaaInv
namespace Go.Proofs.Ytealdpkgfmokpaa.Inv3
open Go Go.Proofs.Ytealdpkgfmokpaa.Inv
set_option linter.unusedVariables false

section
variable {P : Program} {ops : Array Oper} {Q : Exit → Act → World → Prop} {md : Region.Mode}
/-- As Inv.Said, an operation being guarded or not. -/
structure Said (P : Program) (ops : Array Oper) (a0 : Act) (d : List Nat) (Pd : Nat → Value → World → Prop) (R : Nat → World → World → Prop) : Prop where
  len : d.length = ops.size
  plain : ∀ (i : Nat) (o : Oper), ops[i]? = some o → (∀ e ∈ o.after, Region.binds .any e = true → e.on < i) ∧ (match o.dst with | some t => t = d.getD i 0 ∧ t < a0.tmps.size | none => a0.tmps.size ≤ d.getD i 0)
  apart : d.Nodup
  keep : ∀ i j v w w', i ≠ j → Pd i v w → R j w w' → Pd i v w'
/-- The state behind those that have come up. -/
structure St (ops : Array Oper) (a0 : Act) (d : List Nat) (Pd : Nat → Value → World → Prop) (I : Array Bool → Act → World → Prop) (l : Array Bool) (a : Act) (w : World) : Prop where
  lsize : l.size = ops.size
  defers : a.defers = a0.defers
  size : a.tmps.size = a0.tmps.size
  frame : ∀ k, k ∉ d → a.tmps.getD k undef = a0.tmps.getD k undef
  did : ∀ i, i < ops.size → l.getD i false = true → Pd i (a.tmps.getD (d.getD i 0) undef) w
  inv : I l a w
  closed : Closed ops l

/-- One operation has come up. -/
theorem St.next {a0 : Act} {d : List Nat} {Pd : Nat → Value → World → Prop} {I : Array Bool → Act → World → Prop} {R : Nat → World → World → Prop} (H : Said P ops a0 d Pd R) {l : Array Bool} {a : Act} {w w' : World} (h : St ops a0 d Pd I l a w) {i : Nat} {o : Oper} (ho : ops[i]? = some o) {v : Value}
    (ha : ∀ e ∈ o.after, Region.binds .any e = true → l.getD e.on false = true) (hR : R i w w') (hP : Pd i v w') (hI : I (l.setIfInBounds i true) (a.put o.dst v) w') (hv : o.dst = none → ∀ u, Pd i u w') : St ops a0 d Pd I (l.setIfInBounds i true) (a.put o.dst v) w' := by
  have hi : i < ops.size := (Array.getElem?_eq_some_iff.1 ho).1
  have hil : i < l.size := by rw [h.lsize]; exact hi
  obtain ⟨_, hd⟩ := H.plain i o ho
  cases hdst : o.dst with
  | none =>
    rw [hdst] at hI
    have hp : a.put none v = a := rfl
    rw [hp] at hI ⊢
    refine ⟨by simp [h.lsize], h.defers, h.size, h.frame, fun j hj hl => ?_, hI, h.closed.set ho hil ha⟩
    rw [getD_set l i j false hil] at hl
    by_cases e : j = i
    · rw [e]; exact hv hdst _
    · rw [if_neg e] at hl
      exact H.keep _ _ _ _ _ e (h.did j hj hl) hR
  | some t =>
    rw [hdst] at hd
    have hd2 : t = d.getD i 0 ∧ t < a0.tmps.size := hd
    have hts : t < a.tmps.size := by rw [h.size]; exact hd2.2
    rw [hdst] at hI
    have hp : a.put (some t) v = { a with tmps := a.tmps.setIfInBounds t v } := rfl
    rw [hp] at hI ⊢
    refine ⟨by simp [h.lsize], h.defers, by simp [h.size], fun k hk => ?_, fun j hj hl => ?_, hI, h.closed.set ho hil ha⟩
    · show (a.tmps.setIfInBounds t v).getD k undef = _
      rw [put_getD _ _ _ _ hts, if_neg (fun e => hk (by
        rw [e, hd2.1, List.getD_eq_getElem?_getD, List.getElem?_eq_getElem (by rw [H.len]; exact hi)]
        exact List.getElem_mem _))]
      exact h.frame k hk
    · show Pd j ((a.tmps.setIfInBounds t v).getD (d.getD j 0) undef) w'
      rw [put_getD _ _ _ _ hts]
      rw [getD_set l i j false hil] at hl
      by_cases e : j = i
      · rw [e, if_pos hd2.1.symm]; exact hP
      · rw [if_neg e] at hl
        rw [if_neg (fun e2 => e (nodup_get H.apart (by rw [H.len]; exact hj) (by rw [H.len]; exact hi) (e2.trans hd2.1)))]
        exact H.keep _ _ _ _ _ e (h.did j hj hl) hR
/-- A region by what is said of it: each operation alone, and the end. -/
theorem region {id : Nat} {a0 : Act} {w0 : World} (d : List Nat) (Pd : Nat → Value → World → Prop) (I : Array Bool → Act → World → Prop) (R : Nat → World → World → Prop) (hm : P.follows .mixedOrders = true) (H : Said P ops a0 d Pd R) (h0 : I (Array.replicate ops.size false) a0 w0.drew)
    (hop : ∀ (i : Nat) (o : Oper), ops[i]? = some o → ∀ l a w, I l a w → a.tmps.size = a0.tmps.size → Closed ops l → l.size = ops.size → l.getD i false = false → (∀ k, k ∉ d → a.tmps.getD k undef = a0.tmps.getD k undef) → (∀ e ∈ o.after, Region.binds .any e = true → l.getD e.on false = true ∧ Pd e.on (a.tmps.getD (d.getD e.on 0) undef) w) →
      ∀ K : Act → World → Prop, (∀ v w', R i w w' → Pd i v w' → I (l.setIfInBounds i true) (a.put o.dst v) w' → (o.dst = none → ∀ u, Pd i u w') → K (a.put o.dst v) w') → if Region.wanted o (yielded ops a.tmps) = true then o.wp P a w K Q else K (a.put o.dst undef) w)
    (hend : ∀ a w, a.tmps.size = a0.tmps.size → a.defers = a0.defers → (∀ k, k ∉ d → a.tmps.getD k undef = a0.tmps.getD k undef) → (∀ i, i < ops.size → Pd i (a.tmps.getD (d.getD i 0) undef) w) → (∃ l, I l a w ∧ ∀ i, i < ops.size → l.getD i false = true) → Q .normal a w) : (Code.region id ops true).wp P Q a0 w0 := by
  refine wp_region_any hm (any_inv (St ops a0 d Pd I) (fun l a w h hr => ?_) (fun i l a w h hi => ?_) _ _ _ _ ⟨by simp, rfl, rfl, fun _ _ => rfl, fun i hi hl => ?_, h0, fun j o hj hl => ?_⟩ ?_)
  · have hall : ∀ n i, i < n → i < ops.size → l.getD i false = true := by
      intro n
      induction n with
      | zero => intro i hi; omega
      | succ n ih =>
        intro i hin hi
        by_cases hlt : i < n
        · exact ih i hlt hi
        · obtain rfl : i = n := by omega
          have hil : i < l.size := by rw [h.lsize]; exact hi
          cases hl : l.getD i true with
          | true =>
            rw [Array.getD_eq_getD_getElem?, Array.getElem?_eq_getElem hil] at hl ⊢
            exact hl
          | false =>
            have ho : ops[i]? = some ops[i] := Array.getElem?_eq_getElem hi
            have : i ∈ Region.ready .any ops l := mem_ready.2 ⟨hl, ops[i], ho, fun e he hb => by
              have := (H.plain i _ ho).1 e he hb
              exact ih e.on this (by omega)⟩
            rw [hr] at this
            cases this
    exact hend a w h.size h.defers h.frame (fun i hi => h.did i hi (hall (i + 1) i (by omega) hi)) ⟨l, h.inv, fun i hi => hall (i + 1) i (by omega) hi⟩
  · obtain ⟨h1, o, ho, hall⟩ := mem_ready.1 hi
    unfold wpOp
    rw [ho]
    simp only
    have hl0 : l.getD i false = false := by
      have hil : i < l.size := by
        rcases Nat.lt_or_ge i l.size with h2 | h2
        · exact h2
        · rw [Array.getD_eq_getD_getElem?, Array.getElem?_eq_none h2] at h1; cases h1
      rw [Array.getD_eq_getD_getElem?, Array.getElem?_eq_getElem hil] at h1 ⊢
      exact h1
    have hdid : ∀ e ∈ o.after, Region.binds .any e = true → e.on < ops.size := fun e he hb => by
      have := hall e he hb
      rcases Nat.lt_or_ge e.on l.size with h2 | h2
      · rw [← h.lsize]; exact h2
      · rw [Array.getD_eq_getD_getElem?, Array.getElem?_eq_none h2] at this; cases this
    have hstep := hop i o ho l a w h.inv h.size h.closed h.lsize hl0 h.frame (fun e he hb => ⟨hall e he hb, h.did e.on (hdid e he hb) (hall e he hb)⟩) _ (fun v w' hR hP hI hv => h.next H ho hall hR hP hI hv)
    split
    · rename_i hw
      left
      rwa [if_pos hw] at hstep
    · rename_i hw
      rwa [if_neg hw] at hstep
  · rw [Array.getD_eq_getD_getElem?, Array.getElem?_replicate] at hl
    split at hl <;> cases hl
  · rw [Array.getD_eq_getD_getElem?, Array.getElem?_replicate] at hl
    split at hl <;> cases hl
  · have : (List.range ops.size).countP (fun i => !(Array.replicate ops.size false).getD i true) ≤ (List.range ops.size).length := List.countP_le_length
    simpa using this
end
/-- A slot that is not the one that is put stays. -/
theorem put_other (a : Act) (d : Option Nat) (v : Value) (k : Nat) (h : d ≠ some k) : (a.put d v).tmps.getD k undef = a.tmps.getD k undef := by
  cases d with
  | none => rfl
  | some t =>
    show (a.tmps.setIfInBounds t v).getD k undef = _
    rw [Array.getD_eq_getD_getElem?, Array.getD_eq_getD_getElem?, Array.getElem?_setIfInBounds_ne (fun e => h (by rw [e]))]
theorem put_same (a : Act) (v : Value) (k : Nat) (h : k < a.tmps.size) : (a.put (some k) v).tmps.getD k undef = v := by
  show (a.tmps.setIfInBounds k v).getD k undef = _
  rw [put_getD _ _ _ _ h, if_pos rfl]
end Go.Proofs.Ytealdpkgfmokpaa.Inv3
