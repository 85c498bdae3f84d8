/-
  What is proved: laws for the walks on an append onto an empty slice, on an append of the call's own, and on a whole copy: what is new is the call's own, what was there stays. Nothing of the program.
-/
import Derived.Test.YtealdpkgfmokpaaRows
import Derived.Test.YtealdpkgfmokpaaDev
import Derived.ArgAppend
import Derived.Deep.RegionLaw
import Derived.Laws.IdiomCopy
import Derived.Maps.AppendAt
namespace Go.Proofs.Ytealdpkgfmokpaa.Cop
open Go.ChangeShapes Go.WideShapes Go.ChangeAt Go.RowKit
open Sl (Sl Own Off)
open Dev
set_option linter.unusedVariables false

/-- The first n cells. -/
def cl (c : Nat → Value) (n : Nat) : List Value := (List.range n).map c
theorem cl_len (c : Nat → Value) (n : Nat) : (cl c n).length = n := by simp [cl]
theorem cl_get (c : Nat → Value) (n j : Nat) (h : j < n) : (cl c n)[j]? = some (c j) := by simp [cl, h]
theorem cl_of {c : Nat → Value} {n j : Nat} {u : Value} (h : (cl c n)[j]? = some u) : j < n ∧ u = c j := by
  have hj : j < n := by have := (List.getElem?_eq_some_iff.1 h).1; rwa [cl_len] at this
  rw [cl_get c n j hj] at h
  exact ⟨hj, (Option.some.inj h).symm⟩
theorem cl_one {c : Nat → Value} {n : Nat} (h1 : ∀ j, j < n → (c j).oneCell' = true) : ∀ u ∈ cl c n, u.oneCell' = true := by
  intro u hu
  simp only [cl, List.mem_map, List.mem_range] at hu
  obtain ⟨j, hj, rfl⟩ := hu
  exact h1 j hj

theorem below_cells (g B : Nat) (hB : B ≤ g) : ∀ (vs : List Value) (o : Nat) (w : World), Below B w (w.setCells g o vs)
  | [], o, w => Below.refl _ _
  | v :: r, o, w => ((Below.refl B w).setCell (p := ⟨g, o, none⟩) hB v).trans (below_cells g B hB r (o + 1) _)

theorem row_below {w w' : World} {base : Nat} {e : TypeId} {sz : Nat} {v : Value} {n : Nat} {xs : List Value} (h : w.ownsRow base e sz v n xs) (hb : Below w.heap.size w w') : w'.ownsRow base e sz v n xs := by
  refine ⟨h.1, ?_⟩
  rcases h.2 with h2 | ⟨g, cap, cur, hv, hg, hh, r⟩
  · exact Or.inl h2
  · exact Or.inr ⟨g, cap, cur, hv, hg, (hb.block g (Array.getElem?_eq_some_iff.1 hh).1).trans hh, r⟩
theorem row_base {w : World} {base base' : Nat} {e : TypeId} {sz : Nat} {v : Value} {n : Nat} {xs : List Value} (h : w.ownsRow base e sz v n xs) (hb : base' ≤ base) : w.ownsRow base' e sz v n xs := by
  refine ⟨h.1, ?_⟩
  rcases h.2 with h2 | ⟨g, cap, cur, hv, hg, hh, r⟩
  · exact Or.inl h2
  · exact Or.inr ⟨g, cap, cur, hv, by omega, hh, r⟩
theorem row_set_off {w : World} {base : Nat} {e : TypeId} {sz : Nat} {v : Value} {n : Nat} {xs : List Value} (h : w.ownsRow base e sz v n xs) {g : Nat} (hg : g < base) (o : Nat) (x : Value) : (w.setCell ⟨g, o, none⟩ x).ownsRow base e sz v n xs := ownsRow_setCell_below h hg x
theorem row_off {w : World} {base : Nat} {e : TypeId} {sz : Nat} {v : Value} {n : Nat} {xs : List Value} (h : w.ownsRow base e sz v n xs) {G : Nat} {c : Array Value} {e' : TypeId} {fr : Nat × Nat} (hG : w.heap[G]? = some (.cells c e' fr)) (hne : e ≠ e') : ∀ k, v.ownBlock = some k → k ≠ G := by
  intro k hk
  rcases h.2 with ⟨rfl, _⟩ | ⟨g, cap, cur, rfl, hg, hh, r⟩
  · cases hk
  · have : g = k := by simpa [Value.ownBlock] using hk
    subst this
    rintro rfl
    rw [hh] at hG
    have := Option.some.inj hG
    injection this with _ h2 _
    exact hne h2
theorem row_set_ne {w : World} {base : Nat} {e : TypeId} {sz : Nat} {v : Value} {n : Nat} {xs : List Value} (h : w.ownsRow base e sz v n xs) {G : Nat} (hne : ∀ k, v.ownBlock = some k → k ≠ G) (o : Nat) (x : Value) : (w.setCell ⟨G, o, none⟩ x).ownsRow base e sz v n xs := by
  refine ⟨h.1, ?_⟩
  rcases h.2 with h2 | ⟨g, cap, cur, rfl, hg, hh, r⟩
  · exact Or.inl h2
  · exact Or.inr ⟨g, cap, cur, rfl, hg, (Below.heap_setCell w ⟨G, o, none⟩ x g (hne g rfl)).trans hh, r⟩
theorem own_grown {w w' : World} {base sz : Nat} {v : Value} {n : Nat} {c : Nat → Value} {row : Option Nat} (h : Own w base sz v n c) (hg : w.grownBy w' row) (hoff : ∀ g, row = some g → Off v g) : Own w' base sz v n c := by
  obtain ⟨a, cap, rfl, h1, h2, h3⟩ := h
  refine ⟨a, cap, rfl, h1, h2, fun hn => ?_⟩
  obtain ⟨b, o, rfl, hbb, hc⟩ := h3 hn
  refine ⟨b, o, rfl, hbb, fun j hj => ?_⟩
  have hlt := World.block_lt_of_cell? w _ (hc j hj).1
  have hbk := hg.block b hlt (fun e => hoff b e.symm _ _ _ rfl hn rfl)
  exact ⟨(World.cell?_of_block (w := w) hbk).trans (hc j hj).1, (World.frozen?_of_block (w := w) hbk).trans (hc j hj).2⟩
theorem row_own {w : World} {base : Nat} {e : TypeId} {sz : Nat} {v : Value} {n : Nat} {c : Nat → Value} (h : w.ownsRow base e sz v n (cl c (n * sz))) : Own w base sz v n c := own_of_row h c (fun j hj => cl_get c _ j hj)
section
variable {P : Program} (w : World)

theorem run_app0 (t ty e : TypeId) (sz bytes : Nat) (z : Value) (ht : P.underlying t = some (.slice e)) (hi : (P.info? e).map (fun i => (i.zero, i.size, i.bytes)) = some (some z, sz, bytes)) (hzs : z.cells.size = sz) (hsz : 0 < sz)
    (b : Addr) (u : Value) (m : Nat) (c : Nat → Value) (hu : Sl w sz u m c) (h1 : ∀ j, j < m * sz → (c j).oneCell' = true) (hm : m ≤ maxLen) (hbytes : m * bytes ≤ 140737488355328) :
    ∃ a' cap' w', (Builtin.append_ #[t, t] ty #[.slice (some b) 0 0, u]).run P w = .ok (.slice a' m cap') w' ∧ Own w' w.heap.size sz (.slice a' m cap') m c ∧ Below w.heap.size w w' := by
  obtain ⟨i0, hi0, hz0, hz1, hz2⟩ := info_parts hi
  obtain ⟨a, cap, rfl, k1, k2, k3⟩ := hu
  by_cases h0 : m = 0
  · subst h0
    have hl : ∀ (x : Addr), (loadCells x 0).run P w = .ok #[] w := fun x => by simpa using run_loadCells_list (P := P) w x [] (by simp)
    refine ⟨some b, 0, w, ?_, ⟨_, _, rfl, Nat.le_refl _, by unfold maxLen; omega, fun h => by omega⟩, Below.refl _ _⟩
    cases a <;> simp [Builtin.append_, run_underlying ht, sizeOf, typeInfo, hi0, Builtin.lenOf, Builtin.firstCells, storeCells, hl]
  · obtain ⟨b', o, rfl, hc⟩ := k3 (by omega)
    obtain ⟨v', w', hr, h2, h3⟩ := run_append_arg_grows (P := P) w t ty e i0 z sz bytes ht hi0 hz0 hz1 hz2 hzs hsz b 0 0 [] (by simp) (by simp) ⟨b', o, none⟩ m cap (cl c (m * sz)) (cl_len _ _) (fun j u hj => by
      obtain ⟨hj', rfl⟩ := cl_of hj
      rw [Addr.add_lit]
      exact hc j hj') (by omega) (by rw [Nat.zero_add]; exact hm) (by rw [Nat.zero_add]; exact hbytes)
    rw [Nat.zero_add, List.nil_append] at h2
    have ho := own_of_row h2 c (fun j hj => cl_get c _ j hj)
    obtain ⟨a', cap', rfl, _, _⟩ := ho.sl.form
    exact ⟨a', cap', w', hr, ho, (Below.refl _ _).grown h3 (Nat.le_refl _) (fun k hk => by cases hk)⟩

theorem wp_app0 {o : Oper} {a : Act} {K : Act → World → Prop} {Q : Exit → Act → World → Prop} (s x : Operand) (t : TypeId)
    (ho : o.op = .call { callee := .builtin .append, args := #[s, x], argTypes := #[t, t] })
    (e : TypeId) (sz bytes : Nat) (z : Value) (ht : P.underlying t = some (.slice e)) (hi : (P.info? e).map (fun i => (i.zero, i.size, i.bytes)) = some (some z, sz, bytes)) (hzs : z.cells.size = sz) (hsz : 0 < sz)
    (b : Addr) (hs : a.eval s = .slice (some b) 0 0) (u : Value) (hx : a.eval x = u) (m : Nat) (c : Nat → Value) (hu : Sl w sz u m c) (h1 : ∀ j, j < m * sz → (c j).oneCell' = true) (hm : m ≤ maxLen) (hbytes : m * bytes ≤ 140737488355328)
    (h : ∀ a' cap' w', Own w' w.heap.size sz (.slice a' m cap') m c → Below w.heap.size w w' → K (a.put o.dst (.slice a' m cap')) w') : o.wp P a w K Q := by
  obtain ⟨a', cap', w', hr, h2, h3⟩ := run_app0 (P := P) w t o.type e sz bytes z ht hi hzs hsz b u m c hu h1 hm hbytes
  unfold Oper.wp execOp
  simp only [ho, resolve, invoke, builtin, Sem.run_bind, Sem.run_pure, Result.andThen_ok, List.map_toArray, List.map_cons, List.map_nil, hs, hx, hr]
  exact h a' cap' w' h2 h3
theorem wpList_app0 {ops : Array Oper} {rest : List Oper} {o : Oper} {a : Act} {Q : Exit → Act → World → Prop} (hgd : o.guard = none) (s x : Operand) (t : TypeId)
    (ho : o.op = .call { callee := .builtin .append, args := #[s, x], argTypes := #[t, t] })
    (e : TypeId) (sz bytes : Nat) (z : Value) (ht : P.underlying t = some (.slice e)) (hi : (P.info? e).map (fun i => (i.zero, i.size, i.bytes)) = some (some z, sz, bytes)) (hzs : z.cells.size = sz) (hsz : 0 < sz)
    (b : Addr) (hs : a.eval s = .slice (some b) 0 0) (u : Value) (hx : a.eval x = u) (m : Nat) (c : Nat → Value) (hu : Sl w sz u m c) (h1 : ∀ j, j < m * sz → (c j).oneCell' = true) (hm : m ≤ maxLen) (hbytes : m * bytes ≤ 140737488355328)
    (h : ∀ a' cap' w', Own w' w.heap.size sz (.slice a' m cap') m c → Below w.heap.size w w' → wpList P ops Q rest (a.put o.dst (.slice a' m cap')) w') : wpList P ops Q (o :: rest) a w :=
  wpList_plain hgd fun _ hK => wp_app0 w s x t ho e sz bytes z ht hi hzs hsz b hs u hx m c hu h1 hm hbytes fun a' cap' w' h2 h3 => hK _ _ (h a' cap' w' h2 h3)
theorem step_app0 {ops : Array Oper} {o : Oper} {a : Act} {K : Act → World → Prop} {Q : Exit → Act → World → Prop} {E : Prop} (hgd : o.guard = none) (s x : Operand) (t : TypeId)
    (ho : o.op = .call { callee := .builtin .append, args := #[s, x], argTypes := #[t, t] })
    (e : TypeId) (sz bytes : Nat) (z : Value) (ht : P.underlying t = some (.slice e)) (hi : (P.info? e).map (fun i => (i.zero, i.size, i.bytes)) = some (some z, sz, bytes)) (hzs : z.cells.size = sz) (hsz : 0 < sz)
    (b : Addr) (hs : a.eval s = .slice (some b) 0 0) (u : Value) (hx : a.eval x = u) (m : Nat) (c : Nat → Value) (hu : Sl w sz u m c) (h1 : ∀ j, j < m * sz → (c j).oneCell' = true) (hm : m ≤ maxLen) (hbytes : m * bytes ≤ 140737488355328)
    (h : ∀ a' cap' w', Own w' w.heap.size sz (.slice a' m cap') m c → Below w.heap.size w w' → K (a.put o.dst (.slice a' m cap')) w') :
    if Region.wanted o (yielded ops a.tmps) = true then Oper.wp P o a w K Q else E := by
  have hw : Region.wanted o (yielded ops a.tmps) = true := by simp [Region.wanted, hgd]
  rw [if_pos hw]
  exact wp_app0 w s x t ho e sz bytes z ht hi hzs hsz b hs u hx m c hu h1 hm hbytes h

/-- An append onto a slice of the call's own, of whatever slice. -/
theorem run_appR (base : Nat) (t ty e : TypeId) (sz bytes : Nat) (z : Value) (ht : P.underlying t = some (.slice e)) (hi : (P.info? e).map (fun i => (i.zero, i.size, i.bytes)) = some (some z, sz, bytes)) (hzs : z.cells.size = sz) (hsz : 0 < sz)
    (v : Value) (n : Nat) (olds : List Value) (hown : w.ownsRow base e sz v n olds) (hb : base ≤ w.heap.size) (u : Value) (m : Nat) (c : Nat → Value) (hu : Sl w sz u m c) (h1 : ∀ j, j < m * sz → (c j).oneCell' = true) (hm : n + m ≤ maxLen) (hbytes : (n + m) * bytes ≤ 140737488355328) :
    ∃ v' w', (Builtin.append_ #[t, t] ty #[v, u]).run P w = .ok v' w' ∧ w'.ownsRow base e sz v' (n + m) (olds ++ cl c (m * sz)) ∧ w.grownBy w' v.ownBlock := by
  obtain ⟨i0, hi0, hz0, hz1, hz2⟩ := info_parts hi
  obtain ⟨a, cap, rfl, k1, k2, k3⟩ := hu
  cases a with
  | none =>
    have h0 : m = 0 := by
      by_cases h : 0 < m
      · obtain ⟨b, o, hb, _⟩ := k3 h; cases hb
      · omega
    subst h0
    refine ⟨v, w, ?_, by simpa [cl] using hown, ⟨rfl, rfl, rfl, Nat.le_refl _, fun _ _ _ => rfl⟩⟩
    rcases hown.2 with ⟨rfl, rfl⟩ | ⟨g, cap2, cur, rfl, _, _, hnc, _⟩
    · simp [Builtin.append_, run_underlying ht, sizeOf, typeInfo, hi0, Builtin.lenOf, Builtin.firstCells]
    · simp [Builtin.append_, run_underlying ht, sizeOf, typeInfo, hi0, Builtin.lenOf, Builtin.firstCells, hnc, storeCells]
  | some ad =>
    obtain ⟨v', w', hr, h2, h3, _⟩ := run_append_own (P := P) w base t ty e i0 z sz bytes ht hi0 hz0 hz1 hz2 hzs hsz v n olds hown ad m cap (cl c (m * sz)) (cl_len _ _) (fun j u hj => by
      obtain ⟨hj', rfl⟩ := cl_of hj
      have hn : 0 < m := Nat.pos_of_ne_zero fun h => by subst h; simp at hj'
      obtain ⟨b, o, e2, hc⟩ := k3 hn
      obtain rfl := Option.some.inj e2
      rw [Addr.add_lit]
      exact hc j hj') (cl_one h1) hm hbytes hb
    exact ⟨v', w', hr, h2, h3⟩
theorem wpList_appR {ops : Array Oper} {rest : List Oper} {o : Oper} {a : Act} {Q : Exit → Act → World → Prop} (hgd : o.guard = none) (s x : Operand) (t : TypeId)
    (ho : o.op = .call { callee := .builtin .append, args := #[s, x], argTypes := #[t, t] })
    (base : Nat) (e : TypeId) (sz bytes : Nat) (z : Value) (ht : P.underlying t = some (.slice e)) (hi : (P.info? e).map (fun i => (i.zero, i.size, i.bytes)) = some (some z, sz, bytes)) (hzs : z.cells.size = sz) (hsz : 0 < sz)
    (v : Value) (hs : a.eval s = v) (n : Nat) (olds : List Value) (hown : w.ownsRow base e sz v n olds) (hb : base ≤ w.heap.size) (u : Value) (hx : a.eval x = u) (m : Nat) (c : Nat → Value) (hu : Sl w sz u m c) (h1 : ∀ j, j < m * sz → (c j).oneCell' = true) (hm : n + m ≤ maxLen) (hbytes : (n + m) * bytes ≤ 140737488355328)
    (h : ∀ a' cap' w', w'.ownsRow base e sz (.slice a' (n + m) cap') (n + m) (olds ++ cl c (m * sz)) → w.grownBy w' v.ownBlock → wpList P ops Q rest (a.put o.dst (.slice a' (n + m) cap')) w') : wpList P ops Q (o :: rest) a w := by
  refine wpList_plain hgd fun K hK => ?_
  obtain ⟨v', w', hr, h2, h3⟩ := run_appR (P := P) w base t o.type e sz bytes z ht hi hzs hsz v n olds hown hb u m c hu h1 hm hbytes
  obtain ⟨a', cap', rfl⟩ : ∃ a' cap', v' = .slice a' (n + m) cap' := by
    rcases h2.2 with ⟨rfl, h0⟩ | ⟨g, cap2, cur, rfl, _⟩
    · exact ⟨none, 0, by rw [h0]⟩
    · exact ⟨_, _, rfl⟩
  unfold Oper.wp execOp
  simp only [ho, resolve, invoke, builtin, Sem.run_bind, Sem.run_pure, Result.andThen_ok, List.map_toArray, List.map_cons, List.map_nil, hs, hx, hr]
  exact hK _ _ (h a' cap' w' h2 h3)

/-- 'copy(out, src)' of a whole slice of cells into one of the call's own. -/
theorem run_copied (dT sT ty elem : TypeId) (hu : P.underlying dT = some (.slice elem)) (hs : (P.info? elem).map (·.size) = some 1)
    (base : Nat) (g o n cap : Nat) (c0 : Nat → Value) (hd : Own w base 1 (.slice (some ⟨g, o, none⟩) n cap) n c0) (u : Value) (c : Nat → Value) (hsrc : Sl w 1 u n c) (h1 : ∀ j, j < n → (c j).oneCell' = true) :
    ∃ w', (Builtin.copy_ #[dT, sT] ty #[.slice (some ⟨g, o, none⟩) n cap, u]).run P w = .ok (goInt n) w' ∧ Own w' base 1 (.slice (some ⟨g, o, none⟩) n cap) n c ∧ (∀ B, B ≤ base → Below B w w') := by
  obtain ⟨a, cap2, rfl, k1, k2, k3⟩ := hsrc
  by_cases h0 : n = 0
  · subst h0
    refine ⟨w, run_copy_none (P := P) w dT sT ty elem _ _ 0 cap 0 cap2 hu hs rfl, hd.congr (fun j hj => by omega), fun B _ => Below.refl _ _⟩
  · obtain ⟨b', o', rfl, hc⟩ := k3 (by omega)
    obtain ⟨b2, o2, e2, hbb, hcc⟩ := hd.at (by omega)
    obtain ⟨rfl, rfl⟩ : g = b2 ∧ o = o2 := by simpa using e2
    have hl : (cl c n).length = n := cl_len c n
    have hr := run_copy_cells (P := P) w dT sT ty elem g o n cap ⟨b', o', none⟩ n cap2 (cl c n) hu hs (by rw [hl]; exact (Nat.min_self n).symm) (fun j v hj => by
      obtain ⟨hj', rfl⟩ := cl_of hj
      rw [Addr.add_lit]
      exact hc j (by omega)) (fun j hj => by rw [(hcc j (by omega)).1]; rfl) (fun j hj => (hcc j (by omega)).2) (cl_one h1)
    rw [hl] at hr
    refine ⟨_, hr, ?_, fun B hB => ?_⟩
    · obtain ⟨a9, cap9, e9, q1, q2, q3⟩ := hd
      obtain ⟨rfl, rfl⟩ : some ⟨g, o, none⟩ = a9 ∧ cap = cap9 := by simpa using e9
      refine ⟨_, _, rfl, q1, q2, fun hn => ⟨g, o, rfl, hbb, fun j hj => ⟨?_, ?_⟩⟩⟩
      · have := World.cell?_setCells_in g (cl c n) o w (fun j hj => by rw [(hcc j (by omega)).1]; rfl) j (by omega)
        rw [this, ← List.getElem?_eq_getElem (by omega)]
        exact cl_get c n j (by omega)
      · rw [World.frozen?_setCells]; exact (hcc j hj).2
    · exact below_cells g B (by omega) _ _ _
end
end Go.Proofs.Ytealdpkgfmokpaa.Cop
