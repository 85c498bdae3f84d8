/-
  What is proved: plain facts on what is put back: a map whose changes are put back, from the last one on, is what it was. Nothing of the program.
-/
import Derived.Test.YtealdpkgfmokpaaRows
import Derived.Test.YtealdpkgfmokpaaMapD
namespace Go.Proofs.Ytealdpkgfmokpaa.MapU
open LawE (En)
open MapP MapD
set_option linter.unusedVariables false

/-- One change is put back; all are, from the last one on. -/
def undo1 (ys : List En) (p : Int × Int × Bool) : List En := if p.2.2 = true then pu ys p.1 p.2.1 else dl ys p.1
def und (ps : List (Int × Int × Bool)) (ys : List En) : List En := ps.foldr (fun p a => undo1 a p) ys
theorem und_nil (ys : List En) : und [] ys = ys := rfl
theorem und_one (p : Int × Int × Bool) (ys : List En) : und [p] ys = undo1 ys p := rfl
theorem und_app (ps qs : List (Int × Int × Bool)) (ys : List En) : und (ps ++ qs) ys = und ps (und qs ys) := by unfold und; rw [List.foldr_append]
theorem lt_pu (xs : List En) (z v : Int) : (pu xs z v).filter (fun x => decide (x.1 < z)) = xs.filter (fun x => decide (x.1 < z)) := by
  unfold pu
  rw [List.filter_append, List.filter_filter, List.filter_cons_of_neg (by simp), List.filter_filter]
  rw [show (fun a : En => decide (a.1 < z) && decide (a.1 < z)) = fun x => decide (x.1 < z) by funext a; simp, filter_none (p := fun a : En => decide (a.1 < z) && decide (z < a.1)) (fun x hx => by simp; omega), List.append_nil]
theorem gt_pu (xs : List En) (z v : Int) : (pu xs z v).filter (fun x => decide (z < x.1)) = xs.filter (fun x => decide (z < x.1)) := by
  unfold pu
  rw [List.filter_append, List.filter_filter, List.filter_cons_of_neg (by simp), List.filter_filter]
  rw [show (fun a : En => decide (z < a.1) && decide (z < a.1)) = fun x => decide (z < x.1) by funext a; simp, filter_none (p := fun a : En => decide (z < a.1) && decide (a.1 < z)) (fun x hx => by simp; omega), List.nil_append]
/-- A map is what is below a key, the key's own entry, and what is above. -/
theorem split_at : ∀ (xs : List En), Ri xs → ∀ z, (z ∈ ks xs → pu xs z (vl xs z) = xs) ∧ (¬ z ∈ ks xs → xs.filter (fun x => decide (x.1 < z)) ++ xs.filter (fun x => decide (z < x.1)) = xs)
  | [], _, z => ⟨fun h => by simp [ks] at h, fun _ => rfl⟩
  | y :: r, h, z => by
    obtain ⟨h1, h2⟩ := List.pairwise_cons.1 h
    obtain ⟨i1, i2⟩ := split_at r h2 z
    have above : y.1 ≥ z → r.filter (fun x => decide (x.1 < z)) = [] ∧ r.filter (fun x => decide (z < x.1)) = r := fun hy =>
      ⟨filter_none fun x hx => by have := h1 x hx; simp; omega, filter_all fun x hx => by have := h1 x hx; simp; omega⟩
    have hks : z ∈ ks (y :: r) ↔ z = y.1 ∨ z ∈ ks r := by unfold ks; rw [List.map_cons, List.mem_cons]
    by_cases e1 : y.1 < z
    · have hn : z ≠ y.1 := by omega
      constructor
      · intro hm
        have hm2 : z ∈ ks r := by
          rcases hks.1 hm with e | e
          · exact absurd e hn
          · exact e
        have hv : vl (y :: r) z = vl r z := by
          unfold vl fd
          rw [List.find?_cons_of_neg (by simp; omega)]
        rw [hv]
        have := i1 hm2
        unfold pu at this ⊢
        rw [List.filter_cons_of_pos (by simpa using e1), List.filter_cons_of_neg (by simp; omega), List.cons_append, this]
      · intro hm
        have hm2 : ¬ z ∈ ks r := fun e => hm (hks.2 (.inr e))
        rw [List.filter_cons_of_pos (by simpa using e1), List.filter_cons_of_neg (by simp; omega), List.cons_append, i2 hm2]
    · obtain ⟨a1, a2⟩ := above (by omega)
      by_cases e2 : y.1 = z
      · constructor
        · intro _
          have hv : vl (y :: r) z = y.2 := by
            unfold vl fd
            rw [List.find?_cons_of_pos (by simpa using e2)]
          rw [hv]
          unfold pu
          rw [List.filter_cons_of_neg (by simpa using e1), List.filter_cons_of_neg (by simp; omega), a1, a2, ← e2]
          rfl
        · intro hm
          exact absurd (hks.2 (.inl e2.symm)) hm
      · have hn : ¬ z ∈ ks r := by
          intro hm
          obtain ⟨x, hx, e⟩ := List.mem_map.1 hm
          have := h1 x hx
          omega
        constructor
        · intro hm
          rcases hks.1 hm with e | e
          · exact absurd e.symm e2
          · exact absurd e hn
        · intro _
          rw [List.filter_cons_of_neg (by simpa using e1), List.filter_cons_of_pos (by simp; omega), a1, a2]
          rfl
theorem dl_split (xs : List En) (h : Ri xs) (z : Int) : dl xs z = xs.filter (fun x => decide (x.1 < z)) ++ xs.filter (fun x => decide (z < x.1)) := by
  have hd := (split_at (dl xs z) (ri_dl h z) z).2 (by
    intro hm
    obtain ⟨x, hx, e⟩ := List.mem_map.1 hm
    have := (List.mem_filter.1 hx).2
    simp only [decide_eq_true_eq] at this
    exact this e)
  rw [← hd]
  unfold dl
  rw [List.filter_filter, List.filter_filter]
  congr 1
  · congr 1
    funext x
    by_cases e : x.1 < z
    · simp [e]; omega
    · simp [e]
  · congr 1
    funext x
    by_cases e : z < x.1
    · simp [e]; omega
    · simp [e]
theorem pu_pu (xs : List En) (z v v' : Int) : pu (pu xs z v) z v' = pu xs z v' := by
  show (pu xs z v).filter _ ++ (z, v') :: (pu xs z v).filter _ = _
  rw [lt_pu, gt_pu]
  rfl
theorem pu_dl (xs : List En) (h : Ri xs) (z v : Int) : pu (dl xs z) z v = pu xs z v := by
  unfold pu dl
  rw [List.filter_filter, List.filter_filter]
  congr 1
  · congr 1
    funext x
    by_cases e : x.1 < z
    · simp [e]; omega
    · simp [e]
  · congr 2
    funext x
    by_cases e : z < x.1
    · simp [e]; omega
    · simp [e]
/-- A put is put back; a drop is. -/
theorem und_put {xs : List En} (h : Ri xs) (z v : Int) : undo1 (pu xs z v) (z, vl xs z, decide (z ∈ ks xs)) = xs := by
  unfold undo1
  by_cases e : z ∈ ks xs
  · rw [if_pos (by simpa using e), pu_pu]
    exact (split_at xs h z).1 e
  · rw [if_neg (by simpa using e), dl_split _ (ri_pu h z v), lt_pu, gt_pu]
    exact (split_at xs h z).2 e
theorem und_drop {xs : List En} (h : Ri xs) (z : Int) : undo1 (dl xs z) (z, vl xs z, decide (z ∈ ks xs)) = xs := by
  unfold undo1
  by_cases e : z ∈ ks xs
  · rw [if_pos (by simpa using e), pu_dl xs h]
    exact (split_at xs h z).1 e
  · rw [if_neg (by simpa using e), dl_not e, dl_not e]
end Go.Proofs.Ytealdpkgfmokpaa.MapU
