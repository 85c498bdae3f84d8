/-
  What is proved: plain facts on trees that are right: what makes one, the blocks that were met ahead of each, their numbers and values as a map (for the walks). Nothing of the program.
-/
import Derived.Test.YtealdpkgfmokpaaRows
import Derived.Test.YtealdpkgfmokpaaWy
import Derived.Test.YtealdpkgfmokpaaLawO4
import Derived.Maps.OwnSet
import Derived.Maps.OwnOps
namespace Go.Proofs.Ytealdpkgfmokpaa.OkP
open Go.ChangeShapes Go.WideShapes Go.ChangeAt Go.RowKit Go.Maps
open Sl (Sl Own Off)
open OpenSl (tc nc pc)
open Dev Orm Wy
open LawO (sm)
set_option linter.unusedVariables false

def ids (L : List Bk) : List Int := L.map (·.1)
theorem ids_append (L M : List Bk) : ids (L ++ M) = ids L ++ ids M := List.map_append
/-- A block that is right behind the blocks L. -/
def gd (pos : List Int) (L : List Bk) (x : Bk) : Prop := (I12 x.1 ∧ x.2.1 = pos.getD x.1.toNat 0 ∧ C6 x.2.2) ∧ x.1 ∉ ids L
instance (pos : List Int) (L : List Bk) (x : Bk) : Decidable (gd pos L x) := by unfold gd; infer_instance
/-- The blocks ahead of block k of bucket j. -/
def sb (o : Om) (j k : Nat) : List Bk := o.st ++ (o.bk.take j).flatten ++ (o.bk.getD j []).take k
/-- All blocks. -/
def al (o : Om) : List Bk := o.st ++ o.bk.flatten
structure Ok (o : Om) : Prop where
  len : o.pos.length = 12
  pos : ∀ z ∈ o.pos, P8 z
  bks : o.bk.length = 15
  room : ∀ j, j < 15 → (o.bk.getD j []).length ≤ 2
  stash : ∀ k, k < o.st.length → gd o.pos (o.st.take k) (o.st.getD k (0, 0, 0))
  tree : ∀ j k, j < 15 → k < (o.bk.getD j []).length → gd o.pos (sb o j k) ((o.bk.getD j []).getD k (0, 0, 0)) ∧ On (j : Int) ((o.bk.getD j []).getD k (0, 0, 0)).2.1

theorem take_next {α : Type} (L : List α) (d : α) (k : Nat) (h : k < L.length) : L.take (k + 1) = L.take k ++ [L.getD k d] := by
  rw [List.take_add_one, List.getElem?_eq_getElem h, List.getD_eq_getElem?_getD, List.getElem?_eq_getElem h]; rfl
theorem sb_next (o : Om) (j k : Nat) (h : k < (o.bk.getD j []).length) : sb o j (k + 1) = sb o j k ++ [(o.bk.getD j []).getD k (0, 0, 0)] := by
  unfold sb
  rw [take_next _ (0, 0, 0) k h, ← List.append_assoc]
theorem sb_start (o : Om) : sb o 0 0 = o.st := by simp [sb]
theorem sb_row (o : Om) (j : Nat) (h : j < o.bk.length) : sb o (j + 1) 0 = sb o j (o.bk.getD j []).length := by
  unfold sb
  rw [take_next _ [] j h]
  simp
theorem sb_end (o : Om) : sb o o.bk.length 0 = al o := by simp [sb, al]

/-- Numbers that are unlike, all from 0 on, below m, are m at most. -/
theorem few : ∀ (m : Nat) (L : List Int), L.Nodup → (∀ z ∈ L, 0 ≤ z ∧ z < m) → L.length ≤ m
  | 0, L, _, h => by
    cases L with
    | nil => exact Nat.le_refl _
    | cons z r => have := h z (List.mem_cons_self ..); omega
  | m + 1, L, hn, h => by
    by_cases hm : (m : Int) ∈ L
    · have h1 := few m (L.erase (m : Int)) (hn.erase _) (fun z hz => by
        have hz' := (hn.mem_erase_iff).1 hz
        have := h z hz'.2
        have := hz'.1
        omega)
      have h2 := List.length_erase_of_mem hm
      omega
    · have := few m L hn (fun z hz => by
        have h1 := h z hz
        have : z ≠ m := fun e => hm (e ▸ hz)
        omega)
      omega
theorem nodup_snoc {L : List Int} {z : Int} (h : L.Nodup) (hz : z ∉ L) : (L ++ [z]).Nodup := by
  rw [List.nodup_append]
  exact ⟨h, by simp, fun a ha b hb e => hz (by simp at hb; rw [← hb, ← e]; exact ha)⟩
/-- .. that come one by one. -/
theorem grown {pos : List Int} (L : List Bk) (h : ∀ k, k < L.length → gd pos (L.take k) (L.getD k (0, 0, 0))) : ∀ k, k ≤ L.length → (ids (L.take k)).Nodup ∧ ∀ z ∈ ids (L.take k), 0 ≤ z ∧ z < 12
  | 0, _ => by simp [ids]
  | k + 1, hk => by
    obtain ⟨h1, h2⟩ := grown L h k (by omega)
    have hg := h k (by omega)
    rw [take_next _ (0, 0, 0) k (by omega), ids_append]
    refine ⟨nodup_snoc h1 hg.2, fun z hz => ?_⟩
    rcases List.mem_append.1 hz with h3 | h3
    · exact h2 z h3
    · have e : z = (L.getD k (0, 0, 0)).1 := by simpa [ids] using h3
      rw [e]
      exact hg.1.1
theorem Ok.few {o : Om} (h : Ok o) : o.st.length ≤ 12 := by
  obtain ⟨h1, h2⟩ := grown o.st h.stash o.st.length (Nat.le_refl _)
  rw [List.take_length] at h1 h2
  have := OkP.few 12 (ids o.st) h1 h2
  simpa [ids] using this
theorem Ok.upto {o : Om} (h : Ok o) : ∀ j, j ≤ 15 → ∀ k, k ≤ (o.bk.getD j []).length → (j < 15 ∨ k = 0) → (ids (sb o j k)).Nodup ∧ ∀ z ∈ ids (sb o j k), 0 ≤ z ∧ z < 12 := by
  intro j
  induction j with
  | zero =>
    intro _ k
    induction k with
    | zero =>
      intro _ _
      rw [sb_start]
      have := grown o.st h.stash o.st.length (Nat.le_refl _)
      rwa [List.take_length] at this
    | succ k ih =>
      intro hk hj
      obtain ⟨h1, h2⟩ := ih (by omega) (.inl (by omega))
      have hg := (h.tree 0 k (by omega) (by omega)).1
      rw [sb_next _ _ _ (by omega), ids_append]
      refine ⟨nodup_snoc h1 hg.2, fun z hz => ?_⟩
      rcases List.mem_append.1 hz with h3 | h3
      · exact h2 z h3
      · have e : z = ((o.bk.getD 0 []).getD k (0, 0, 0)).1 := by simpa [ids] using h3
        rw [e]; exact hg.1.1
  | succ j ihj =>
    intro hj15 k
    induction k with
    | zero =>
      intro _ _
      rw [sb_row _ _ (by rw [h.bks]; omega)]
      exact ihj (by omega) _ (Nat.le_refl _) (.inl (by omega))
    | succ k ih =>
      intro hk hj
      obtain ⟨h1, h2⟩ := ih (by omega) (.inl (by omega))
      have hg := (h.tree (j + 1) k (by omega) (by omega)).1
      rw [sb_next _ _ _ (by omega), ids_append]
      refine ⟨nodup_snoc h1 hg.2, fun z hz => ?_⟩
      rcases List.mem_append.1 hz with h3 | h3
      · exact h2 z h3
      · have e : z = ((o.bk.getD (j + 1) []).getD k (0, 0, 0)).1 := by simpa [ids] using h3
        rw [e]; exact hg.1.1
theorem Ok.nodup {o : Om} (h : Ok o) : (ids (al o)).Nodup ∧ ∀ z ∈ ids (al o), 0 ≤ z ∧ z < 12 := by
  have := h.upto 15 (Nat.le_refl _) 0 (by omega) (.inr rfl)
  rw [← h.bks, sb_end] at this
  exact this

/-- The map of the blocks' values. -/
def pt (D : DataW Unit) (x : Bk) : DataW Unit := D.put (.int .i64 x.1) (.lit (.int .i64 x.2.2))
def mp (L : List Bk) : DataW Unit := L.foldl pt (.map [])
theorem mp_snoc (L : List Bk) (x : Bk) : mp (L ++ [x]) = pt (mp L) x := by simp [mp]
theorem key_ne {a b : Int} (h : a ≠ b) : (Lit.int .i64 a) ≠ Lit.int .i64 b := fun e => h (by injection e)
theorem has_fold (z : Int) : ∀ (L : List Bk) (D : DataW Unit), IsMap D → Maps.has (L.foldl pt D) (.int .i64 z) = (Maps.has D (.int .i64 z) || decide (z ∈ ids L))
  | [], D, _ => by simp [ids]
  | x :: r, D, h => by
    show Maps.has (r.foldl pt (pt D x)) _ = _
    rw [has_fold z r (pt D x) (h.put _ _)]
    by_cases e : z = x.1
    · subst e
      have h1 : Maps.has (pt D x) (.int .i64 x.1) = true := has_put_same h (k := .int .i64 x.1) trivial _
      rw [h1]
      simp [ids]
    · have h1 : Maps.has (pt D x) (.int .i64 z) = Maps.has D (.int .i64 z) := has_put_other (key_ne e) _
      rw [h1]
      congr 1
      exact decide_eq_decide.2 ⟨fun hm => List.mem_cons_of_mem _ hm, fun hm => by
        rcases List.mem_cons.1 hm with h2 | h2
        · exact absurd h2 e
        · exact h2⟩
theorem has_mp (L : List Bk) (z : Int) : Maps.has (mp L) (.int .i64 z) = decide (z ∈ ids L) := by
  unfold mp
  rw [has_fold z L _ isMap_empty]
  simp [Maps.has]
theorem at_fold (z : Int) (d : DataW Unit) : ∀ (L : List Bk) (D : DataW Unit), IsMap D → (ids L).Nodup → (L.foldl pt D).atKey (.int .i64 z) d = (match L.find? (fun x => x.1 == z) with | some x => .lit (.int .i64 x.2.2) | none => D.atKey (.int .i64 z) d)
  | [], D, _, _ => rfl
  | x :: r, D, h, hn => by
    have hn2 : x.1 ∉ ids r ∧ (ids r).Nodup := by simpa [ids] using hn
    show (r.foldl pt (pt D x)).atKey _ _ = _
    rw [at_fold z d r (pt D x) (h.put _ _) hn2.2]
    by_cases e : z = x.1
    · subst e
      have h1 : (pt D x).atKey (.int .i64 x.1) d = .lit (.int .i64 x.2.2) := atKey_put_same h (k := .int .i64 x.1) trivial _ _
      have h2 : r.find? (fun y => y.1 == x.1) = none := by
        rw [List.find?_eq_none]
        intro y hy he
        exact hn2.1 (by have : y.1 = x.1 := by simpa using he
                        rw [← this]; exact List.mem_map.2 ⟨y, hy, rfl⟩)
      rw [h2, h1, List.find?_cons_of_pos (by simp)]
    · have h1 : (pt D x).atKey (.int .i64 z) d = D.atKey (.int .i64 z) d := atKey_put_other (key_ne e) _ _
      rw [h1, List.find?_cons_of_neg (by simpa using fun h => e h.symm)]
/-- A block's value, 0 of one that is nowhere. -/
def vl (o : Om) (z : Int) : Int := match (al o).find? (fun x => x.1 == z) with | some x => x.2.2 | none => 0
theorem at_mp {o : Om} (h : Ok o) (z : Int) : (mp (al o)).atKey (.int .i64 z) (.lit (.int .i64 0)) = .lit (.int .i64 (vl o z)) := by
  unfold mp
  rw [at_fold z _ _ _ isMap_empty h.nodup.1]
  unfold vl
  cases (al o).find? (fun x => x.1 == z) with
  | none => rfl
  | some x => rfl
theorem law3 : Keyed Try.prog 3 := int_keyed Try.underlying3
theorem zero3 (w : World) : (zeroValue 3).run Try.prog w = .ok (.int .i64 0) w := by kernel_rfl
end Go.Proofs.Ytealdpkgfmokpaa.OkP
