/-
  What is proved: plain facts on what a hidden map hides: its keys that are not nought, rising, with their blocks' values; put one by one they come to the same (laws for the walks). Nothing of the program.
-/
import Derived.Test.YtealdpkgfmokpaaRows
import Derived.Test.YtealdpkgfmokpaaEokE
import Derived.Test.YtealdpkgfmokpaaMapP
namespace Go.Proofs.Ytealdpkgfmokpaa.MofP
open LawE (En)
open MapP EncP EokE
set_option linter.unusedVariables false

/-- Numbers sorted; those of them that are not below one. -/
def so (zs : List Int) : List Int := zs.mergeSort (fun x y => decide (x ≤ y))
def sf (zs : List Int) (x : Int) : List Int := (so zs).drop ((so zs).countP (· < x))
theorem so_sorted (zs : List Int) : (so zs).Pairwise (· ≤ ·) := by
  have := List.pairwise_mergeSort (le := fun x y : Int => decide (x ≤ y)) (fun a b c => by simp; omega) (fun a b => by simp; omega) zs
  exact List.Pairwise.imp (fun h => by simpa using h) this
theorem so_len (zs : List Int) : (so zs).length = zs.length := List.length_mergeSort ..
theorem so_mem (zs : List Int) (z : Int) : z ∈ so zs ↔ z ∈ zs := (List.mergeSort_perm zs _).mem_iff
theorem drop_filter (x : Int) : ∀ S : List Int, S.Pairwise (· ≤ ·) → S.drop (S.countP (· < x)) = S.filter (fun y => decide (x ≤ y))
  | [], _ => rfl
  | a :: r, h => by
    obtain ⟨h1, h2⟩ := List.pairwise_cons.1 h
    by_cases e : a < x
    · rw [List.countP_cons_of_pos (by simpa using e), List.drop_succ_cons, drop_filter x r h2, List.filter_cons_of_neg (by simp; omega)]
    · have hz : (a :: r).countP (· < x) = 0 := List.countP_eq_zero.2 fun y hy => by
        rcases List.mem_cons.1 hy with rfl | hy
        · simpa using e
        · have := h1 y hy; simp; omega
      rw [hz, List.drop_zero]
      exact (List.filter_eq_self.2 fun y hy => by
        rcases List.mem_cons.1 hy with rfl | hy
        · simp; omega
        · have := h1 y hy; simp; omega).symm
theorem sf_eq (zs : List Int) (x : Int) : sf zs x = (so zs).filter (fun y => decide (x ≤ y)) := drop_filter x _ (so_sorted zs)
theorem sf_mem (zs : List Int) (x z : Int) : z ∈ sf zs x ↔ z ∈ zs ∧ x ≤ z := by rw [sf_eq, List.mem_filter, so_mem]; simp
theorem sf_len (zs : List Int) (x : Int) : (sf zs x).length ≤ zs.length := by unfold sf; rw [List.length_drop, so_len]; omega

/-- Keys that are right: those above nought stand once. -/
def Kd (zs : List Int) : Prop := ∀ i, i < zs.length → kg zs i
theorem at_mem {zs : List Int} {i : Nat} (h : i < zs.length) : zs.getD i 0 ∈ zs := by rw [List.getD_eq_getElem?_getD, List.getElem?_eq_getElem h]; exact List.getElem_mem h
theorem mem_take {zs : List Int} {i j : Nat} (hij : i < j) (hj : j ≤ zs.length) : zs.getD i 0 ∈ zs.take j := by
  have : (zs.take j).getD i 0 = zs.getD i 0 := by rw [List.getD_eq_getElem?_getD, List.getD_eq_getElem?_getD, List.getElem?_take_of_lt hij]
  rw [← this]
  exact at_mem (by rw [List.length_take]; omega)
/-- A key that is not nought stands at one place. -/
theorem kd_one {zs : List Int} (h : Kd zs) {i j : Nat} (hi : i < zs.length) (hj : j < zs.length) (e : zs.getD i 0 = zs.getD j 0) (h0 : 0 < zs.getD i 0) : i = j := by
  rcases Nat.lt_trichotomy i j with hl | hl | hl
  · exact absurd (e ▸ mem_take hl (by omega)) ((h j hj).2.2 (by omega))
  · exact hl
  · exact absurd (e ▸ mem_take hl (by omega) : zs.getD i 0 ∈ zs.take i) ((h i hi).2.2 h0)
theorem kd_nodup : ∀ (zs : List Int), Kd zs → (zs.filter (fun y => decide (1 ≤ y))).Nodup := by
  intro zs h
  unfold List.Nodup
  rw [List.pairwise_filter, List.pairwise_iff_getElem]
  intro i j hi hj hij h1 h2 e
  simp only [decide_eq_true_eq] at h1 h2
  have a1 : zs.getD i 0 = zs[i] := by rw [List.getD_eq_getElem?_getD, List.getElem?_eq_getElem hi]; rfl
  have a2 : zs.getD j 0 = zs[j] := by rw [List.getD_eq_getElem?_getD, List.getElem?_eq_getElem hj]; rfl
  have := kd_one h hi hj (by rw [a1, a2]; exact e) (by rw [a1]; omega)
  omega
theorem sf_rise {zs : List Int} (h : Kd zs) : (sf zs 1).Pairwise (· < ·) := by
  have h1 : (sf zs 1).Pairwise (· ≤ ·) := by unfold sf; exact List.Pairwise.sublist (List.drop_sublist _ _) (so_sorted zs)
  have h2 : (sf zs 1).Nodup := by
    rw [sf_eq]
    exact (((List.mergeSort_perm zs _).filter _).nodup_iff).2 (kd_nodup zs h)
  exact (h1.and h2).imp (fun ⟨a, b⟩ => by omega)
/-- Two maps of entries with the same entries are one. -/
theorem ri_ext : ∀ (xs ys : List En), Ri xs → Ri ys → (∀ x, x ∈ xs ↔ x ∈ ys) → xs = ys
  | [], [], _, _, _ => rfl
  | [], y :: s, _, _, h => absurd ((h y).2 (by simp)) (by simp)
  | x :: r, [], _, _, h => absurd ((h x).1 (by simp)) (by simp)
  | x :: r, y :: s, h1, h2, h => by
    obtain ⟨a1, a2⟩ := List.pairwise_cons.1 h1
    obtain ⟨b1, b2⟩ := List.pairwise_cons.1 h2
    have e : x = y := by
      rcases List.mem_cons.1 ((h x).1 (by simp)) with e | hx
      · exact e
      · rcases List.mem_cons.1 ((h y).2 (by simp)) with e | hy
        · exact e.symm
        · have := b1 x hx; have := a1 y hy; omega
    subst e
    have hr : ∀ z, z ∈ r ↔ z ∈ s := fun z => by
      constructor
      · intro hz
        rcases List.mem_cons.1 ((h z).1 (List.mem_cons_of_mem _ hz)) with e | hz2
        · have := a1 z hz; subst e; omega
        · exact hz2
      · intro hz
        rcases List.mem_cons.1 ((h z).2 (List.mem_cons_of_mem _ hz)) with e | hz2
        · have := b1 z hz; subst e; omega
        · exact hz2
    rw [ri_ext r s a2 b2 hr]
/-- What is put key by key. -/
def fo (zs : List Int) (V : Nat → Int) : Nat → List En
  | 0 => []
  | j + 1 => if 0 < zs.getD j 0 then pu (fo zs V j) (zs.getD j 0) (V j) else fo zs V j
theorem mem_pu {xs : List En} {k v : Int} {x : En} (hn : ∀ y ∈ xs, y.1 ≠ k) : x ∈ pu xs k v ↔ x = (k, v) ∨ x ∈ xs := by
  unfold pu
  rw [List.mem_append, List.mem_cons, List.mem_filter, List.mem_filter]
  constructor
  · rintro (⟨h, _⟩ | h | ⟨h, _⟩)
    · exact .inr h
    · exact .inl h
    · exact .inr h
  · rintro (h | h)
    · exact .inr (.inl h)
    · have := hn x h
      by_cases e : x.1 < k
      · exact .inl ⟨h, by simpa using e⟩
      · exact .inr (.inr ⟨h, by simp; omega⟩)
theorem fo_facts {zs : List Int} (h : Kd zs) (V : Nat → Int) : ∀ j, j ≤ zs.length → Ri (fo zs V j) ∧ (∀ x : En, x ∈ fo zs V j ↔ ∃ i, i < j ∧ zs.getD i 0 = x.1 ∧ 0 < x.1 ∧ x.2 = V i) ∧ (fo zs V j).length ≤ j
  | 0, _ => ⟨List.Pairwise.nil, fun x => ⟨fun h => by simp [fo] at h, fun ⟨i, hi, _⟩ => by omega⟩, Nat.le_refl _⟩
  | j + 1, hj => by
    obtain ⟨h1, h2, h3⟩ := fo_facts h V j (by omega)
    unfold fo
    by_cases e : 0 < zs.getD j 0
    · rw [if_pos e]
      have hne : ∀ y ∈ fo zs V j, y.1 ≠ zs.getD j 0 := fun y hy e2 => by
        obtain ⟨i, hi, hz, _⟩ := (h2 y).1 hy
        have := kd_one h (by omega : i < zs.length) (by omega : j < zs.length) (hz.trans e2) (by rw [hz, e2]; exact e)
        omega
      refine ⟨ri_pu h1 _ _, fun x => ?_, ?_⟩
      · rw [mem_pu hne, h2]
        constructor
        · rintro (rfl | ⟨i, hi, r⟩)
          · exact ⟨j, by omega, rfl, e, rfl⟩
          · exact ⟨i, by omega, r⟩
        · rintro ⟨i, hi, a, b, c⟩
          by_cases ej : i = j
          · subst ej
            exact .inl (Prod.ext a.symm c)
          · exact .inr ⟨i, by omega, a, b, c⟩
      · rw [len_pu h1]
        split <;> omega
    · rw [if_neg e]
      refine ⟨h1, fun x => ?_, by omega⟩
      rw [h2]
      constructor
      · rintro ⟨i, hi, r⟩
        exact ⟨i, by omega, r⟩
      · rintro ⟨i, hi, a, b, c⟩
        refine ⟨i, ?_, a, b, c⟩
        by_cases ej : i = j
        · subst ej; omega
        · omega
/-- Entries with the sorted keys and their blocks' values are those that are put one by one. -/
theorem fo_eq {zs : List Int} (h : Kd zs) (V : Nat → Int) (E : List En) (hk : E.map Prod.fst = sf zs 1) (hv : ∀ x ∈ E, ∃ i, i < zs.length ∧ zs.getD i 0 = x.1 ∧ x.2 = V i) : E = fo zs V zs.length := by
  obtain ⟨h1, h2, _⟩ := fo_facts h V zs.length (Nat.le_refl _)
  have hE : Ri E := by
    have := sf_rise h
    rw [← hk, List.pairwise_map] at this
    exact this
  refine ri_ext E _ hE h1 fun x => ?_
  rw [h2]
  constructor
  · intro hx
    obtain ⟨i, hi, a, b⟩ := hv x hx
    have hm : x.1 ∈ sf zs 1 := by rw [← hk]; exact List.mem_map.2 ⟨x, hx, rfl⟩
    have := (sf_mem zs 1 x.1).1 hm
    exact ⟨i, hi, a, by omega, b⟩
  · rintro ⟨i, hi, a, b, c⟩
    have hm : x.1 ∈ sf zs 1 := (sf_mem zs 1 x.1).2 ⟨a ▸ at_mem hi, by omega⟩
    rw [← hk] at hm
    obtain ⟨y, hy, e⟩ := List.mem_map.1 hm
    obtain ⟨j, hj, a2, b2⟩ := hv y hy
    have hij := kd_one h hi hj (by rw [a, a2, e]) (by omega)
    subst hij
    have : y = x := Prod.ext e (by rw [b2, c])
    exact this ▸ hy
theorem kd_of {m : Em} (h : EOk m) : Kd m.ks := fun i hi => h.key i (by rw [← h.len]; exact hi)
/-- What MapOf answers. -/
def mo (m : Em) (q : Bool) : List En := if q = true then fo m.ks (fun i => OkP.vl m.o (i : Int)) 11 else []
def mc (q : Bool) : Int := if q = true then 0 else 1
theorem mo_len (m : Em) (q : Bool) (h : q = true → EOk m) : (mo m q).length ≤ 11 := by
  unfold mo
  split
  · rename_i e
    have hm := h e
    exact (fo_facts (kd_of hm) _ 11 (by rw [hm.len]; exact Nat.le_refl _)).2.2
  · simp
end Go.Proofs.Ytealdpkgfmokpaa.MofP
