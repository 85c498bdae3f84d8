/-
  What is proved: plain facts on maps as lists of entries whose keys rise: what is right, what stands at a key, what is left when a key is put or dropped, and that a map block's reading turns alike. Nothing of the program.
-/
import Derived.Test.YtealdpkgfmokpaaRows
import Derived.Test.YtealdpkgfmokpaaLawE
import Derived.Maps.OwnSet
import Derived.Maps.OwnOps
import Derived.Lib.SlKeysI
namespace Go.Proofs.Ytealdpkgfmokpaa.MapP
open Go.ChangeShapes Go.WideShapes Go.ChangeAt Go.RowKit Go.Maps
open LawE (En)
set_option linter.unusedVariables false

def ks (xs : List En) : List Int := xs.map Prod.fst
def Ri (xs : List En) : Prop := xs.Pairwise (fun x y => x.1 < y.1)
def Kv (x : En) : Prop := 1 ≤ x.1 ∧ x.1 ≤ 9999 ∧ 0 ≤ x.2 ∧ x.2 ≤ 999999
instance (x : En) : Decidable (Kv x) := by unfold Kv; infer_instance
/-- Entry k is right, and its key above that of the one ahead. -/
def Gd (xs : List En) (k : Nat) : Prop := Kv (xs.getD k (0, 0)) ∧ (0 < k → (xs.getD (k - 1) (0, 0)).1 < (xs.getD k (0, 0)).1)
instance (xs : List En) (k : Nat) : Decidable (Gd xs k) := by unfold Gd; infer_instance
/-- A map. -/
def MOk (xs : List En) : Prop := xs.length ≤ 11 ∧ ∀ k, k < xs.length → Gd xs k
instance (xs : List En) : Decidable (MOk xs) := by unfold MOk; infer_instance
theorem getD_in (xs : List En) (k : Nat) (h : k < xs.length) : xs.getD k (0, 0) ∈ xs := by
  rw [List.getD_eq_getElem?_getD, List.getElem?_eq_getElem h]; exact List.getElem_mem h
theorem mem_at {xs : List En} {x : En} (h : x ∈ xs) : ∃ k, k < xs.length ∧ xs.getD k (0, 0) = x := by
  obtain ⟨k, hk, e⟩ := List.getElem_of_mem h
  exact ⟨k, hk, by rw [List.getD_eq_getElem?_getD, List.getElem?_eq_getElem hk]; exact e⟩
theorem rise {xs : List En} (h : ∀ k, k < xs.length → Gd xs k) : ∀ j i, i < j → j < xs.length → (xs.getD i (0, 0)).1 < (xs.getD j (0, 0)).1
  | 0, i, hij, _ => by omega
  | j + 1, i, hij, hj => by
    have h1 := (h (j + 1) hj).2 (by omega)
    simp only [Nat.add_sub_cancel] at h1
    by_cases e : i = j
    · rw [e]; exact h1
    · have := rise h j i (by omega) (by omega)
      omega
theorem MOk.ri {xs : List En} (h : MOk xs) : Ri xs := by
  unfold Ri
  rw [List.pairwise_iff_getElem]
  intro i j hi hj hij
  have := rise h.2 j i hij hj
  rwa [List.getD_eq_getElem?_getD, List.getD_eq_getElem?_getD, List.getElem?_eq_getElem hi, List.getElem?_eq_getElem hj] at this
theorem MOk.kv {xs : List En} (h : MOk xs) : ∀ x ∈ xs, Kv x := by
  intro x hx
  obtain ⟨k, hk, rfl⟩ := mem_at hx
  exact (h.2 k hk).1
theorem mok_of {xs : List En} (hl : xs.length ≤ 11) (hr : Ri xs) (hk : ∀ x ∈ xs, Kv x) : MOk xs := by
  refine ⟨hl, fun k h => ⟨hk _ (getD_in xs k h), fun h0 => ?_⟩⟩
  unfold Ri at hr
  rw [List.pairwise_iff_getElem] at hr
  have := hr (k - 1) k (by omega) h (by omega)
  rwa [List.getD_eq_getElem?_getD, List.getD_eq_getElem?_getD, List.getElem?_eq_getElem h, List.getElem?_eq_getElem (by omega : k - 1 < xs.length)]

/-- What stands at a key. -/
def fd (xs : List En) (k : Int) : Option En := xs.find? (fun x => x.1 == k)
def vl (xs : List En) (k : Int) : Int := match fd xs k with | some x => x.2 | none => 0
theorem fd_some {xs : List En} {k : Int} {x : En} (h : fd xs k = some x) : x ∈ xs ∧ x.1 = k := by
  unfold fd at h
  exact ⟨List.mem_of_find?_eq_some h, by simpa using List.find?_some h⟩
theorem in_iff (xs : List En) (k : Int) : k ∈ ks xs ↔ (fd xs k).isSome = true := by
  unfold ks fd
  rw [List.find?_isSome, List.mem_map]
  constructor
  · rintro ⟨x, hx, rfl⟩; exact ⟨x, hx, by simp⟩
  · rintro ⟨x, hx, e⟩; exact ⟨x, hx, by simpa using e⟩
theorem not_in {xs : List En} {k : Int} (h : ¬ k ∈ ks xs) : fd xs k = none := by
  cases e : fd xs k with
  | none => rfl
  | some x => exact absurd ((in_iff xs k).2 (by rw [e]; rfl)) h
theorem vl_not {xs : List En} {k : Int} (h : ¬ k ∈ ks xs) : vl xs k = 0 := by unfold vl; rw [not_in h]
theorem vl_kv {xs : List En} (h : ∀ x ∈ xs, Kv x) (k : Int) : 0 ≤ vl xs k ∧ vl xs k ≤ 999999 := by
  unfold vl
  cases e : fd xs k with
  | none => simp
  | some x => have := h x (fd_some e).1; unfold Kv at this; simp only; omega
/-- The first that has the key. -/
theorem vl_at {xs : List En} {j : Nat} (hj : j < xs.length) (hb : ∀ i, i < j → (xs.getD i (0, 0)).1 ≠ (xs.getD j (0, 0)).1) : vl xs (xs.getD j (0, 0)).1 = (xs.getD j (0, 0)).2 ∧ (xs.getD j (0, 0)).1 ∈ ks xs := by
  refine ⟨?_, List.mem_map.2 ⟨_, getD_in xs j hj, rfl⟩⟩
  unfold vl
  have : fd xs (xs.getD j (0, 0)).1 = some (xs.getD j (0, 0)) := by
    unfold fd
    rw [List.find?_eq_some_iff_getElem]
    refine ⟨by simp, j, hj, ?_, fun i hi => ?_⟩
    · rw [List.getD_eq_getElem?_getD, List.getElem?_eq_getElem hj]; rfl
    · have := hb i hi
      rw [List.getD_eq_getElem?_getD, List.getElem?_eq_getElem (by omega : i < xs.length)] at this
      simpa using this
  rw [this]
theorem no_key {xs : List En} {k : Int} (h : ∀ i, i < xs.length → (xs.getD i (0, 0)).1 ≠ k) : ¬ k ∈ ks xs := by
  intro hm
  obtain ⟨x, hx, rfl⟩ := List.mem_map.1 hm
  obtain ⟨i, hi, rfl⟩ := mem_at hx
  exact h i hi rfl

/-- A key is given a value; a key is dropped. -/
def pu (xs : List En) (k v : Int) : List En := xs.filter (fun x => decide (x.1 < k)) ++ (k, v) :: xs.filter (fun x => decide (k < x.1))
def dl (xs : List En) (k : Int) : List En := xs.filter (fun x => decide (x.1 ≠ k))
theorem filter_all {α : Type} {p : α → Bool} {l : List α} (h : ∀ x ∈ l, p x = true) : l.filter p = l := List.filter_eq_self.2 h
theorem filter_none {α : Type} {p : α → Bool} {l : List α} (h : ∀ x ∈ l, p x = false) : l.filter p = [] := List.filter_eq_nil_iff.2 fun x hx => by rw [h x hx]; simp
theorem ri_pu {xs : List En} (h : Ri xs) (k v : Int) : Ri (pu xs k v) := by
  unfold Ri pu
  rw [List.pairwise_append]
  refine ⟨List.Pairwise.filter _ h, List.pairwise_cons.2 ⟨fun y hy => by have := (List.mem_filter.1 hy).2; simpa using this, List.Pairwise.filter _ h⟩, fun x hx y hy => ?_⟩
  have hx := (List.mem_filter.1 hx).2
  rcases List.mem_cons.1 hy with rfl | hy
  · simpa using hx
  · have hy := (List.mem_filter.1 hy).2
    simp only [decide_eq_true_eq] at hx hy
    omega
theorem ri_dl {xs : List En} (h : Ri xs) (k : Int) : Ri (dl xs k) := List.Pairwise.filter _ h
theorem kv_pu {xs : List En} (h : ∀ x ∈ xs, Kv x) {k v : Int} (hk : Kv (k, v)) : ∀ x ∈ pu xs k v, Kv x := by
  intro x hx
  unfold pu at hx
  rcases List.mem_append.1 hx with hx | hx
  · exact h x (List.mem_filter.1 hx).1
  · rcases List.mem_cons.1 hx with rfl | hx
    · exact hk
    · exact h x (List.mem_filter.1 hx).1
theorem kv_dl {xs : List En} (h : ∀ x ∈ xs, Kv x) (k : Int) : ∀ x ∈ dl xs k, Kv x := fun x hx => h x (List.mem_filter.1 hx).1
theorem dl_not {xs : List En} {k : Int} (h : ¬ k ∈ ks xs) : dl xs k = xs := filter_all fun x hx => by
  simp only [decide_eq_true_eq]
  exact fun e => h (List.mem_map.2 ⟨x, hx, e⟩)
theorem len_split : ∀ (xs : List En), Ri xs → ∀ k, (xs.filter (fun x => decide (x.1 < k))).length + (xs.filter (fun x => decide (k < x.1))).length + (if k ∈ ks xs then 1 else 0) = xs.length
  | [], _, k => by simp [ks]
  | y :: r, h, k => by
    obtain ⟨h1, h2⟩ := List.pairwise_cons.1 h
    have ih := len_split r h2 k
    by_cases e1 : y.1 < k
    · have e3 : k ∈ ks (y :: r) ↔ k ∈ ks r := by
        simp only [ks, List.map_cons, List.mem_cons]
        constructor
        · rintro (e | e)
          · omega
          · exact e
        · exact .inr
      rw [List.filter_cons_of_pos (by simpa using e1), List.filter_cons_of_neg (by simp; omega), List.length_cons, List.length_cons]
      simp only [e3]
      omega
    · by_cases e2 : y.1 = k
      · have e3 : ¬ k ∈ ks r := by
          intro hm
          obtain ⟨x, hx, e⟩ := List.mem_map.1 hm
          have := h1 x hx
          omega
        have e4 : k ∈ ks (y :: r) := by simp only [ks, List.map_cons, List.mem_cons]; exact .inl e2.symm
        rw [List.filter_cons_of_neg (by simpa using e1), List.filter_cons_of_neg (by simp; omega), List.length_cons, if_pos e4]
        rw [if_neg e3] at ih
        omega
      · have e3 : ¬ k ∈ ks r := by
          intro hm
          obtain ⟨x, hx, e⟩ := List.mem_map.1 hm
          have := h1 x hx
          omega
        have e4 : ¬ k ∈ ks (y :: r) := by
          simp only [ks, List.map_cons, List.mem_cons]
          rintro (e | e)
          · omega
          · exact e3 e
        rw [List.filter_cons_of_neg (by simpa using e1), List.filter_cons_of_pos (by simp; omega), List.length_cons, List.length_cons, if_neg e4]
        rw [if_neg e3] at ih
        omega
theorem pu_len (xs : List En) (k v : Int) : (pu xs k v).length = (xs.filter (fun x => decide (x.1 < k))).length + ((xs.filter (fun x => decide (k < x.1))).length + 1) := by
  show (xs.filter (fun x => decide (x.1 < k)) ++ (k, v) :: xs.filter (fun x => decide (k < x.1))).length = _
  rw [List.length_append, List.length_cons]
theorem len_pu {xs : List En} (h : Ri xs) (k v : Int) : (pu xs k v).length = if k ∈ ks xs then xs.length else xs.length + 1 := by
  have := len_split xs h k
  rw [pu_len]
  generalize (xs.filter (fun x => decide (x.1 < k))).length = a at *
  generalize (xs.filter (fun x => decide (k < x.1))).length = b at *
  by_cases e : k ∈ ks xs
  · rw [if_pos e] at this ⊢
    omega
  · rw [if_neg e] at this ⊢
    omega
theorem len_dl (xs : List En) (k : Int) : (dl xs k).length ≤ xs.length := List.length_filter_le _ _
theorem MOk.pu {xs : List En} (h : MOk xs) {k v : Int} (hk : Kv (k, v)) (hf : k ∈ ks xs ∨ xs.length ≠ 11) : MOk (pu xs k v) := by
  refine mok_of ?_ (ri_pu h.ri k v) (kv_pu h.kv hk)
  rw [len_pu h.ri]
  have := h.1
  split
  · omega
  · rename_i hn
    rcases hf with hf | hf
    · exact absurd hf hn
    · omega
theorem MOk.dl {xs : List En} (h : MOk xs) (k : Int) : MOk (dl xs k) := mok_of (Nat.le_trans (len_dl xs k) h.1) (ri_dl h.ri k) (kv_dl h.kv k)

/-- How a map's block reads. -/
def cl (x : En) : Lit × DataW Unit := (.int .i64 x.1, .lit (.int .i64 x.2))
def dm (xs : List En) : DataW Unit := .map (xs.map cl)
theorem dm_nil : dm [] = .map [] := rfl
theorem dm_has (xs : List En) (k : Int) : Maps.has (dm xs) (.int .i64 k) = decide (k ∈ ks xs) := by
  unfold dm
  rw [has_eq, List.any_map]
  rw [Bool.eq_iff_iff, List.any_eq_true, decide_eq_true_eq]
  unfold ks
  rw [List.mem_map]
  constructor
  · rintro ⟨x, hx, h⟩; exact ⟨x, hx, by simpa [cl, Lit.sameKey] using h⟩
  · rintro ⟨x, hx, e⟩; exact ⟨x, hx, by simp [cl, Lit.sameKey, e]⟩
theorem dm_size (xs : List En) : Maps.size (dm xs) = xs.length := by unfold dm; rw [size_eq, List.length_map]
theorem dm_at (xs : List En) (k : Int) : (dm xs).atKey (.int .i64 k) (.lit (.int .i64 0)) = .lit (.int .i64 (vl xs k)) := by
  unfold dm DataW.atKey
  simp only
  rw [List.find?_map]
  have : (fun p : Lit × DataW Unit => p.1.sameKey (.int .i64 k)) ∘ cl = fun x : En => x.1 == k := by
    funext x
    simp only [Function.comp, cl, Lit.sameKey]
    by_cases e : x.1 = k <;> simp [e]
  rw [this]
  unfold vl fd
  cases xs.find? (fun x => x.1 == k) <;> rfl
theorem ins : ∀ (ys : List En) (k v : Int), Ri ys → ¬ k ∈ ks ys → DataW.insert (cl (k, v)) (ys.map cl) = (ys.filter (fun x => decide (x.1 < k)) ++ (k, v) :: ys.filter (fun x => decide (k < x.1))).map cl
  | [], k, v, _, _ => rfl
  | y :: r, k, v, h, hn => by
    obtain ⟨h1, h2⟩ := List.pairwise_cons.1 h
    have hn1 : k ≠ y.1 := fun e => hn (by unfold ks; rw [e]; simp)
    have hn2 : ¬ k ∈ ks r := fun e => hn (by unfold ks at e ⊢; rw [List.map_cons]; exact List.mem_cons_of_mem _ e)
    rw [List.map_cons]
    unfold DataW.insert
    by_cases e : k < y.1
    · rw [if_pos (by simpa [cl, Lit.before] using e)]
      rw [filter_none (l := y :: r) (p := fun x => decide (x.1 < k)) (fun x hx => by
        rcases List.mem_cons.1 hx with rfl | hx
        · simp; omega
        · have := h1 x hx; simp; omega), filter_all (l := y :: r) (p := fun x => decide (k < x.1)) (fun x hx => by
        rcases List.mem_cons.1 hx with rfl | hx
        · simpa using e
        · have := h1 x hx; simp; omega)]
      rfl
    · rw [if_neg (by simpa [cl, Lit.before] using e), ins r k v h2 hn2, List.filter_cons_of_pos (by simp; omega), List.filter_cons_of_neg (by simp; omega)]
      rfl
theorem filter_dl (xs : List En) (k : Int) : (xs.map cl).filter (fun p => !p.1.sameKey (.int .i64 k)) = (dl xs k).map cl := by
  unfold dl
  rw [List.filter_map]
  congr 1
  congr 1
  funext x
  simp only [Function.comp, cl, Lit.sameKey]
  by_cases e : x.1 = k <;> simp [e]
theorem dm_del (xs : List En) (k : Int) : (dm xs).del (.int .i64 k) = dm (dl xs k) := by
  show DataW.map ((xs.map cl).filter _) = _
  rw [filter_dl]
  rfl
theorem dm_put {xs : List En} (h : Ri xs) (k v : Int) : (dm xs).put (.int .i64 k) (.lit (.int .i64 v)) = dm (pu xs k v) := by
  show DataW.map (DataW.insert (cl (k, v)) ((xs.map cl).filter _)) = _
  rw [filter_dl, ins _ _ _ (ri_dl h k) (by
    intro hm
    obtain ⟨x, hx, e⟩ := List.mem_map.1 hm
    have := (List.mem_filter.1 hx).2
    simp only [decide_eq_true_eq] at this
    exact this e)]
  unfold dm pu dl
  rw [List.filter_filter, List.filter_filter]
  have e1 : (fun x : En => (decide (x.1 < k) && decide (x.1 ≠ k))) = fun x => decide (x.1 < k) := by
    funext x
    by_cases e : x.1 < k
    · simp [e]; omega
    · simp [e]
  have e2 : (fun x : En => (decide (k < x.1) && decide (x.1 ≠ k))) = fun x => decide (k < x.1) := by
    funext x
    by_cases e : k < x.1
    · simp [e]; omega
    · simp [e]
  rw [e1, e2]
theorem dm_keys (xs : List En) : intKeys (dm xs) = ks xs := by
  show (xs.map cl).map (fun p => intOf p.1) = xs.map Prod.fst
  rw [List.map_map]
  rfl
/-- A list whose keys rise is what its own entries, put one by one, make. -/
theorem pu_snoc {xs : List En} {x : En} (h : ∀ y ∈ xs, y.1 < x.1) : pu xs x.1 x.2 = xs ++ [x] := by
  unfold pu
  rw [filter_all (fun y hy => by simpa using h y hy), filter_none (fun y hy => by have := h y hy; simp; omega)]
end Go.Proofs.Ytealdpkgfmokpaa.MapP
