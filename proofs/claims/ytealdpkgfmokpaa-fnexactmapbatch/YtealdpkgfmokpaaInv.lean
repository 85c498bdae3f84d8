/-
  What is proved: a rule for a region that draws its order: if each operation, in whatever state in which what it waits for has come up, yields a value that is as said and leaves the world so that what was said stays, then behind the region all is as said, whatever the order (a law for the walks). Nothing of the program.
-/
import Derived.Test.YtealdpkgfmokpaaRows
import Derived.WalkKit
import Derived.Deep.RegionHeld3
namespace Go.Proofs.Ytealdpkgfmokpaa.Inv
open Go
set_option linter.unusedVariables false

theorem countP_le {p q : Nat → Bool} (h : ∀ x, q x = true → p x = true) : ∀ l : List Nat, l.countP q ≤ l.countP p
  | [] => Nat.le_refl _
  | x :: r => by
    have ih := countP_le h r
    by_cases hq : q x = true
    · rw [List.countP_cons_of_pos hq, List.countP_cons_of_pos (h x hq)]; omega
    · rw [List.countP_cons_of_neg hq]
      by_cases hp : p x = true
      · rw [List.countP_cons_of_pos hp]; omega
      · rw [List.countP_cons_of_neg hp]; exact ih
theorem countP_lt {p q : Nat → Bool} (h : ∀ x, q x = true → p x = true) {i : Nat} (hp : p i = true) (hq : q i = false) : ∀ l : List Nat, i ∈ l → l.countP q < l.countP p
  | x :: r, hi => by
    rcases List.mem_cons.1 hi with rfl | hr
    · rw [List.countP_cons_of_pos hp, List.countP_cons_of_neg (by rw [hq]; decide)]
      have := countP_le h r
      omega
    · have ih := countP_lt h hp hq r hr
      by_cases hqx : q x = true
      · rw [List.countP_cons_of_pos hqx, List.countP_cons_of_pos (h x hqx)]; omega
      · rw [List.countP_cons_of_neg hqx]
        by_cases hpx : p x = true
        · rw [List.countP_cons_of_pos hpx]; omega
        · rw [List.countP_cons_of_neg hpx]; exact ih
theorem getD_set (l : Array Bool) (i k : Nat) (d : Bool) (hi : i < l.size) : (l.setIfInBounds i true).getD k d = if k = i then true else l.getD k d := by
  simp only [Array.getD_eq_getD_getElem?, Array.getElem?_setIfInBounds]
  by_cases h : i = k
  · subst h; simp [hi]
  · rw [if_neg h, if_neg (fun e => h e.symm)]

section
variable {P : Program} {ops : Array Oper} {Q : Exit → Act → World → Prop} {md : Region.Mode}
theorem ready_lt {l : Array Bool} {i : Nat} (h : i ∈ Region.ready md ops l) : i < ops.size ∧ i < l.size ∧ l.getD i true = false := by
  obtain ⟨h1, o, ho, _⟩ := mem_ready.1 h
  refine ⟨(Array.getElem?_eq_some_iff.1 ho).1, ?_, h1⟩
  rcases Nat.lt_or_ge i l.size with h2 | h2
  · exact h2
  · rw [Array.getD_eq_getD_getElem?, Array.getElem?_eq_none h2] at h1; cases h1
/-- Whatever the order, an invariant that each operation keeps holds in the end. -/
theorem any_inv (J : Array Bool → Act → World → Prop) (hend : ∀ l a w, J l a w → Region.ready md ops l = [] → Q .normal a w)
    (hstep : ∀ i l a w, J l a w → i ∈ Region.ready md ops l → wpOp P ops Q i (fun a' w' => J (l.setIfInBounds i true) a' w') a w) :
    ∀ fuel l a w, J l a w → (List.range ops.size).countP (fun i => !l.getD i true) ≤ fuel → wpAny P md ops Q fuel l a w
  | 0, l, a, w, h, hc => by
    have hr : Region.ready md ops l = [] := by
      rcases hh : Region.ready md ops l with _ | ⟨i, r⟩
      · rfl
      · have hi : i ∈ Region.ready md ops l := by rw [hh]; exact List.mem_cons_self ..
        obtain ⟨h1, _, h3⟩ := ready_lt hi
        have : (List.range ops.size).countP (fun i => !l.getD i true) = 0 := by omega
        rw [List.countP_eq_zero] at this
        have := this i (List.mem_range.2 h1)
        rw [h3] at this
        exact absurd rfl this
    exact ⟨hr, hend l a w h hr⟩
  | fuel + 1, l, a, w, h, hc => by
    refine ⟨fun hr => hend l a w h hr, fun i hi => ?_⟩
    refine wpOp_mono (fun a' w' hJ => any_inv J hend hstep fuel _ a' w' hJ ?_) (hstep i l a w h hi)
    obtain ⟨h1, h2, h3⟩ := ready_lt hi
    have := countP_lt (p := fun k => !l.getD k true) (q := fun k => !(l.setIfInBounds i true).getD k true) (i := i) (fun x hx => by
      rw [getD_set l i x true h2] at hx
      by_cases e : x = i
      · rw [if_pos e] at hx; cases hx
      · rw [if_neg e] at hx; exact hx) (by rw [h3]; rfl) (by rw [getD_set l i i true h2, if_pos rfl]; rfl) (List.range ops.size) (List.mem_range.2 h1)
    omega

/-- What is said of a region: d: where each operation's value goes (a number beyond the slots where it has none); Pd: what is said of its value and the world; I: what is said of the world, by what has come up; R: how the world may turn at each. -/
structure Said (P : Program) (ops : Array Oper) (a0 : Act) (d : List Nat) (Pd : Nat → Value → World → Prop) (R : Nat → World → World → Prop) : Prop where
  len : d.length = ops.size
  plain : ∀ (i : Nat) (o : Oper), ops[i]? = some o → o.guard = none ∧ (∀ e ∈ o.after, e.on < i) ∧ (match o.dst with | some t => t = d.getD i 0 ∧ t < a0.tmps.size | none => a0.tmps.size ≤ d.getD i 0)
  apart : d.Nodup
  keep : ∀ i j v w w', i ≠ j → Pd i v w → R j w w' → Pd i v w'
/-- What has come up waits for nothing that has not. -/
def Closed (ops : Array Oper) (l : Array Bool) : Prop := ∀ (j : Nat) (o : Oper), ops[j]? = some o → l.getD j false = true → ∀ e ∈ o.after, Region.binds .any e = true → l.getD e.on false = true

/-- The state behind those that have come up. -/
structure St (ops : Array Oper) (a0 : Act) (d : List Nat) (Pd : Nat → Value → World → Prop) (I : Array Bool → World → Prop) (l : Array Bool) (a : Act) (w : World) : Prop where
  lsize : l.size = ops.size
  defers : a.defers = a0.defers
  size : a.tmps.size = a0.tmps.size
  frame : ∀ k, k ∉ d → a.tmps.getD k undef = a0.tmps.getD k undef
  did : ∀ i, i < ops.size → l.getD i false = true → Pd i (a.tmps.getD (d.getD i 0) undef) w
  inv : I l w
  closed : Closed ops l

theorem nodup_get {d : List Nat} (h : d.Nodup) {i j : Nat} (hi : i < d.length) (hj : j < d.length) (e : d.getD i 0 = d.getD j 0) : i = j := by
  rw [List.getD_eq_getElem?_getD, List.getD_eq_getElem?_getD, List.getElem?_eq_getElem hi, List.getElem?_eq_getElem hj] at e
  have e2 : d[i] = d[j] := e
  rcases Nat.lt_trichotomy i j with h1 | h1 | h1
  · exact absurd e2 (List.pairwise_iff_getElem.1 h i j hi hj h1)
  · exact h1
  · exact absurd e2.symm (List.pairwise_iff_getElem.1 h j i hj hi h1)
theorem put_getD (t : Array Value) (k j : Nat) (v : Value) (hk : k < t.size) : (t.setIfInBounds k v).getD j undef = if j = k then v else t.getD j undef := by
  simp only [Array.getD_eq_getD_getElem?, Array.getElem?_setIfInBounds]
  by_cases h : k = j
  · subst h; simp [hk]
  · rw [if_neg h, if_neg (fun e => h e.symm)]
theorem Closed.set {l : Array Bool} (h : Closed ops l) {i : Nat} {o : Oper} (ho : ops[i]? = some o) (hi : i < l.size) (ha : ∀ e ∈ o.after, Region.binds .any e = true → l.getD e.on false = true) : Closed ops (l.setIfInBounds i true) := by
  intro j oj hj hl e he hb
  rw [getD_set l i e.on false hi]
  by_cases h1 : e.on = i
  · rw [if_pos h1]
  · rw [if_neg h1]
    rw [getD_set l i j false hi] at hl
    by_cases h2 : j = i
    · subst h2
      rw [ho] at hj
      cases hj
      exact ha e he hb
    · rw [if_neg h2] at hl
      exact h j oj hj hl e he hb
/-- One operation has come up. -/
theorem St.next {a0 : Act} {d : List Nat} {Pd : Nat → Value → World → Prop} {I : Array Bool → World → Prop} {R : Nat → World → World → Prop} (H : Said P ops a0 d Pd R) {l : Array Bool} {a : Act} {w w' : World} (h : St ops a0 d Pd I l a w) {i : Nat} {o : Oper} (ho : ops[i]? = some o) {v : Value}
    (ha : ∀ e ∈ o.after, Region.binds .any e = true → l.getD e.on false = true) (hR : R i w w') (hP : Pd i v w') (hI : I (l.setIfInBounds i true) w') (hv : o.dst = none → ∀ u, Pd i u w') : St ops a0 d Pd I (l.setIfInBounds i true) (a.put o.dst v) w' := by
  have hi : i < ops.size := (Array.getElem?_eq_some_iff.1 ho).1
  have hil : i < l.size := by rw [h.lsize]; exact hi
  obtain ⟨_, _, hd⟩ := H.plain i o ho
  cases hdst : o.dst with
  | none =>
    have hp : a.put none v = a := rfl
    rw [hp]
    refine ⟨by simp [h.lsize], h.defers, h.size, h.frame, fun j hj hl => ?_, hI, h.closed.set ho hil ha⟩
    rw [getD_set l i j false hil] at hl
    by_cases e : j = i
    · rw [e]; exact hv hdst _
    · rw [if_neg e] at hl
      exact H.keep _ _ _ _ _ e (h.did j hj hl) hR
  | some t =>
    rw [hdst] at hd
    have hd2 : t = d.getD i 0 ∧ t < a0.tmps.size := hd
    have hts : t < a.tmps.size := by rw [h.size]; exact hd2.2
    have hp : a.put (some t) v = { a with tmps := a.tmps.setIfInBounds t v } := rfl
    rw [hp]
    refine ⟨by simp [h.lsize], h.defers, by simp [h.size], fun k hk => ?_, fun j hj hl => ?_, hI, h.closed.set ho hil ha⟩
    · show (a.tmps.setIfInBounds t v).getD k undef = _
      rw [put_getD _ _ _ _ hts, if_neg (fun e => hk (by
        rw [e, hd2.1, List.getD_eq_getElem?_getD, List.getElem?_eq_getElem (by rw [H.len]; exact hi)]
        exact List.getElem_mem _))]
      exact h.frame k hk
    · show Pd j ((a.tmps.setIfInBounds t v).getD (d.getD j 0) undef) w'
      rw [put_getD _ _ _ _ hts]
      rw [getD_set l i j false hil] at hl
      by_cases e : j = i
      · rw [e, if_pos hd2.1.symm]; exact hP
      · rw [if_neg e] at hl
        rw [if_neg (fun e2 => e (nodup_get H.apart (by rw [H.len]; exact hj) (by rw [H.len]; exact hi) (e2.trans hd2.1)))]
        exact H.keep _ _ _ _ _ e (h.did j hj hl) hR
/-- A region by what is said of it: each operation alone, and the end. -/
theorem region {id : Nat} {a0 : Act} {w0 : World} (d : List Nat) (Pd : Nat → Value → World → Prop) (I : Array Bool → World → Prop) (R : Nat → World → World → Prop) (hm : P.follows .mixedOrders = true) (H : Said P ops a0 d Pd R) (h0 : I (Array.replicate ops.size false) w0.drew)
    (hop : ∀ (i : Nat) (o : Oper), ops[i]? = some o → ∀ l a w, I l w → Closed ops l → l.size = ops.size → l.getD i false = false → (∀ k, k ∉ d → a.tmps.getD k undef = a0.tmps.getD k undef) → (∀ e ∈ o.after, Region.binds .any e = true → l.getD e.on false = true ∧ Pd e.on (a.tmps.getD (d.getD e.on 0) undef) w) →
      ∀ K : Act → World → Prop, (∀ v w', R i w w' → Pd i v w' → I (l.setIfInBounds i true) w' → (o.dst = none → ∀ u, Pd i u w') → K (a.put o.dst v) w') → o.wp P a w K Q)
    (hend : ∀ a w, a.tmps.size = a0.tmps.size → a.defers = a0.defers → (∀ k, k ∉ d → a.tmps.getD k undef = a0.tmps.getD k undef) → (∀ i, i < ops.size → Pd i (a.tmps.getD (d.getD i 0) undef) w) → (∃ l, I l w ∧ ∀ i, i < ops.size → l.getD i false = true) → Q .normal a w) : (Code.region id ops true).wp P Q a0 w0 := by
  refine wp_region_any hm (any_inv (St ops a0 d Pd I) (fun l a w h hr => ?_) (fun i l a w h hi => ?_) _ _ _ _ ⟨by simp, rfl, rfl, fun _ _ => rfl, fun i hi hl => ?_, h0, fun j o hj hl => ?_⟩ ?_)
  · have hall : ∀ n i, i < n → i < ops.size → l.getD i false = true := by
      intro n
      induction n with
      | zero => intro i hi; omega
      | succ n ih =>
        intro i hin hi
        by_cases hlt : i < n
        · exact ih i hlt hi
        · obtain rfl : i = n := by omega
          have hil : i < l.size := by rw [h.lsize]; exact hi
          cases hl : l.getD i true with
          | true =>
            rw [Array.getD_eq_getD_getElem?, Array.getElem?_eq_getElem hil] at hl ⊢
            exact hl
          | false =>
            have ho : ops[i]? = some ops[i] := Array.getElem?_eq_getElem hi
            have : i ∈ Region.ready .any ops l := mem_ready.2 ⟨hl, ops[i], ho, fun e he hb => by
              have := (H.plain i _ ho).2.1 e he
              exact ih e.on this (by omega)⟩
            rw [hr] at this
            cases this
    exact hend a w h.size h.defers h.frame (fun i hi => h.did i hi (hall (i + 1) i (by omega) hi)) ⟨l, h.inv, fun i hi => hall (i + 1) i (by omega) hi⟩
  · obtain ⟨h1, o, ho, hall⟩ := mem_ready.1 hi
    unfold wpOp
    rw [ho]
    simp only
    have hg := (H.plain i o ho).1
    rw [if_pos (by simp [Region.wanted, hg])]
    left
    have hl0 : l.getD i false = false := by
      have hil : i < l.size := by
        rcases Nat.lt_or_ge i l.size with h2 | h2
        · exact h2
        · rw [Array.getD_eq_getD_getElem?, Array.getElem?_eq_none h2] at h1; cases h1
      rw [Array.getD_eq_getD_getElem?, Array.getElem?_eq_getElem hil] at h1 ⊢
      exact h1
    refine hop i o ho l a w h.inv h.closed h.lsize hl0 h.frame (fun e he hb => ⟨hall e he hb, h.did e.on ?_ (hall e he hb)⟩) _ (fun v w' hR hP hI hv => h.next H ho hall hR hP hI hv)
    have := hall e he hb
    rcases Nat.lt_or_ge e.on l.size with h2 | h2
    · rw [← h.lsize]; exact h2
    · rw [Array.getD_eq_getD_getElem?, Array.getElem?_eq_none h2] at this; cases this
  · rw [Array.getD_eq_getD_getElem?, Array.getElem?_replicate] at hl
    split at hl <;> cases hl
  · rw [Array.getD_eq_getD_getElem?, Array.getElem?_replicate] at hl
    split at hl <;> cases hl
  · have : (List.range ops.size).countP (fun i => !(Array.replicate ops.size false).getD i true) ≤ (List.range ops.size).length := List.countP_le_length
    simpa using this
end
end Go.Proofs.Ytealdpkgfmokpaa.Inv
