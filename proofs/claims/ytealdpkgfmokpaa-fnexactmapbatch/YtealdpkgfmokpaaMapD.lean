/-
  What is proved: plain facts on operations on a map: what each tells and leaves, and that a right map stays right. Nothing of the program.
-/
import Derived.Test.YtealdpkgfmokpaaRows
import Derived.Test.YtealdpkgfmokpaaMapP
import Derived.Test.YtealdpkgfmokpaaOpB
namespace Go.Proofs.Ytealdpkgfmokpaa.MapD
open Go.ChangeShapes Go.WideShapes Go.ChangeAt Go.RowKit Go.Maps
open LawE (En) 
open Orm (Bk)
open MapP
open OpB (Ok Bare Cell)
set_option linter.unusedVariables false

def bit (p : Prop) [Decidable p] : Int := if p then 1 else 0
/-- What a scan tells: keys not below z, n of them at most, with noughts for what is missing. -/
def nx (xs : List En) (z : Int) : List En := xs.filter (fun x => decide (z ≤ x.1))
def fl (ys : List En) : List Int := ys.flatMap (fun x => [x.1, x.2])
def sc (xs : List En) (z n : Int) : List Int := fl ((nx xs z).take n.toNat) ++ List.replicate (2 * (n.toNat - ((nx xs z).take n.toNat).length)) 0
/-- What an operation leaves, tells, and its code. -/
def dx (xs : List En) (o : Bk) : List En :=
  if o.1 = 3 then dl xs o.2.1
  else if o.1 = 2 then (if o.2.1 ∈ ks xs ∨ xs.length ≠ 11 then pu xs o.2.1 o.2.2 else xs)
  else if o.1 = 5 then (if (o.2.1 ∈ ks xs ∨ xs.length ≠ 11) ∧ vl xs o.2.1 + o.2.2 ≤ 999999 then pu xs o.2.1 (vl xs o.2.1 + o.2.2) else xs)
  else xs
def dc (xs : List En) (o : Bk) : Int :=
  if o.1 = 4 then (if o.2.1 ∈ ks xs ∧ vl xs o.2.1 = o.2.2 then 0 else 14)
  else if o.1 = 2 then (if o.2.1 ∈ ks xs ∨ xs.length ≠ 11 then 0 else 7)
  else if o.1 = 5 then (if o.2.1 ∈ ks xs ∨ xs.length ≠ 11 then (if vl xs o.2.1 + o.2.2 ≤ 999999 then 0 else 4) else 7)
  else 0
def dv (xs : List En) (o : Bk) : List Int :=
  if o.1 = 1 then [bit (o.2.1 ∈ ks xs), vl xs o.2.1]
  else if o.1 = 3 then [bit (o.2.1 ∈ ks xs)]
  else if o.1 = 6 then sc xs o.2.1 o.2.2
  else if o.1 = 5 then (if (o.2.1 ∈ ks xs ∨ xs.length ≠ 11) ∧ vl xs o.2.1 + o.2.2 ≤ 999999 then [vl xs o.2.1 + o.2.2] else [])
  else []
theorem dx_ok {xs : List En} (h : MOk xs) {o : Bk} (ho : Ok o) : MOk (dx xs o) := by
  obtain ⟨k, z, v⟩ := o
  have h1 := ho.1
  have h2 := ho.2.1
  have h3 := ho.2.2
  unfold dx
  simp only at h1 h2 h3 ⊢
  have hv := vl_kv h.kv z
  by_cases e3 : k = 3
  · rw [if_pos e3]; exact h.dl z
  rw [if_neg e3]
  by_cases e2 : k = 2
  · rw [if_pos e2]
    by_cases e : z ∈ ks xs ∨ xs.length ≠ 11
    · rw [if_pos e]
      refine h.pu ?_ e
      unfold Bare Cell at h3
      exact ⟨h1, h2, by simp only; omega, by simp only; omega⟩
    · rw [if_neg e]; exact h
  rw [if_neg e2]
  by_cases e5 : k = 5
  · rw [if_pos e5]
    by_cases e : (z ∈ ks xs ∨ xs.length ≠ 11) ∧ vl xs z + v ≤ 999999
    · rw [if_pos e]
      refine h.pu ?_ e.1
      unfold Bare Cell at h3
      exact ⟨h1, h2, by simp only; omega, e.2⟩
    · rw [if_neg e]; exact h
  · rw [if_neg e5]; exact h
theorem fl_len (ys : List En) : (fl ys).length = ys.length * 2 := by
  induction ys with
  | nil => rfl
  | cons y r ih => show ([y.1, y.2] ++ fl r).length = _; rw [List.length_append, ih, List.length_cons]; simp; omega
theorem sc_len (xs : List En) (z n : Int) (hn : 0 ≤ n) : (sc xs z n).length = 2 * n.toNat := by
  unfold sc
  rw [List.length_append, fl_len, List.length_replicate, List.length_take]
  omega
/-- With a code nothing is changed, and nothing told. -/
theorem code_same {xs : List En} {o : Bk} (h : dc xs o ≠ 0) : dx xs o = xs ∧ dv xs o = [] := by
  obtain ⟨k, z, v⟩ := o
  unfold dc at h
  unfold dx dv
  simp only at h ⊢
  by_cases e4 : k = 4
  · subst e4; simp
  rw [if_neg e4] at h
  by_cases e2 : k = 2
  · subst e2
    rw [if_pos rfl] at h
    by_cases e : z ∈ ks xs ∨ xs.length ≠ 11
    · rw [if_pos e] at h; exact absurd rfl h
    · simp only [if_neg e]; simp
  rw [if_neg e2] at h
  by_cases e5 : k = 5
  · subst e5
    rw [if_pos rfl] at h
    by_cases e : z ∈ ks xs ∨ xs.length ≠ 11
    · rw [if_pos e] at h
      by_cases e6 : vl xs z + v ≤ 999999
      · rw [if_pos e6] at h; exact absurd rfl h
      · have : ¬ ((z ∈ ks xs ∨ xs.length ≠ 11) ∧ vl xs z + v ≤ 999999) := fun h => e6 h.2
        simp only [if_neg this]; simp
    · have : ¬ ((z ∈ ks xs ∨ xs.length ≠ 11) ∧ vl xs z + v ≤ 999999) := fun h => e h.1
      simp only [if_neg this]; simp
  · rw [if_neg e5] at h; exact absurd rfl h
theorem dv_len (xs : List En) {o : Bk} (ho : Ok o) : (dv xs o).length ≤ 8 := by
  obtain ⟨k, z, v⟩ := o
  have h3 := ho.2.2
  unfold dv
  simp only at h3 ⊢
  split
  · simp
  split
  · simp
  split
  · unfold Bare Cell at h3
    rw [sc_len _ _ _ (by omega)]
    omega
  split
  · split <;> simp
  · simp
end Go.Proofs.Ytealdpkgfmokpaa.MapD
