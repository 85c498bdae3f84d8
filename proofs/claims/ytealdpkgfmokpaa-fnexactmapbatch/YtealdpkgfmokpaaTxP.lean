/-
  What is proved: plain facts on transactions on a map: all of their operations or none. Nothing of the program.
-/
import Derived.Test.YtealdpkgfmokpaaRows
import Derived.Test.YtealdpkgfmokpaaDoA
import Derived.Test.YtealdpkgfmokpaaRsP
import Derived.Maps.AppendAt
namespace Go.Proofs.Ytealdpkgfmokpaa.TxP
open Go.ChangeShapes Go.WideShapes Go.ChangeAt Go.RowKit
open Sl (Sl Own Off)
open OpenSl (nc)
open Dev Orm LawE MapP MapD OtB Box2 RsP
open OpB (Ok)
set_option linter.unusedVariables false

/-- A transaction's operations, done one after the other: what is left, what is told, the code. -/
def tx (x0 : List En) : List En → List Int → List Bk → List En × List Int × Int
  | xs, vs, [] => (xs, vs, 0)
  | xs, vs, o :: r => if dc xs o = 0 then tx x0 (dx xs o) (vs ++ dv xs o) r else (x0, [], dc xs o)
theorem tx_drop {x0 ys : List En} {vs : List Int} {os : List Bk} {i : Nat} (h : i < os.length) : tx x0 ys vs (os.drop i) = if dc ys (os.getD i (0, 0, 0)) = 0 then tx x0 (dx ys (os.getD i (0, 0, 0))) (vs ++ dv ys (os.getD i (0, 0, 0))) (os.drop (i + 1)) else (x0, [], dc ys (os.getD i (0, 0, 0))) := by
  have e : os.drop i = os.getD i (0, 0, 0) :: os.drop (i + 1) := by
    rw [List.getD_eq_getElem?_getD, List.getElem?_eq_getElem h]
    exact List.drop_eq_getElem_cons h
  rw [e]
  rfl
theorem tx_ok {x0 : List En} (h0 : MOk x0) : ∀ (os : List Bk) (xs : List En) (vs : List Int), (∀ o ∈ os, Ok o) → MOk xs → MOk (tx x0 xs vs os).1
  | [], xs, vs, _, h => h
  | o :: r, xs, vs, ha, h => by
    unfold tx
    by_cases e : dc xs o = 0
    · rw [if_pos e]
      exact tx_ok h0 r _ _ (fun p hp => ha p (List.mem_cons_of_mem _ hp)) (dx_ok h (ha o List.mem_cons_self))
    · rw [if_neg e]
      exact h0
theorem tx_len (x0 : List En) : ∀ (os : List Bk) (xs : List En) (vs : List Int), (∀ o ∈ os, Ok o) → (tx x0 xs vs os).2.1.length ≤ vs.length + os.length * 8
  | [], xs, vs, _ => by unfold tx; simp
  | o :: r, xs, vs, ha => by
    unfold tx
    by_cases e : dc xs o = 0
    · rw [if_pos e]
      have h1 := tx_len x0 r (dx xs o) (vs ++ dv xs o) (fun p hp => ha p (List.mem_cons_of_mem _ hp))
      have h2 := dv_len xs (ha o List.mem_cons_self)
      rw [List.length_append] at h1
      rw [List.length_cons]
      omega
    · rw [if_neg e]
      exact Nat.zero_le _
/-- What has been done of a transaction so far: j operations, all with no code. -/
structure Tj (x0 : List En) (os : List Bk) (j : Nat) (ys : List En) (vs : List Int) : Prop where
  eq : tx x0 x0 [] os = tx x0 ys vs (os.drop j)
  ok : MOk ys
  len : vs.length ≤ j * 8
theorem Tj.zero {x0 : List En} (h : MOk x0) (os : List Bk) : Tj x0 os 0 x0 [] := ⟨by rw [List.drop_zero], h, Nat.zero_le _⟩
theorem Tj.next {x0 : List En} {os : List Bk} {j : Nat} {ys : List En} {vs : List Int} (h : Tj x0 os j ys vs) (hj : j < os.length) (ho : Ok (os.getD j (0, 0, 0))) (hc : dc ys (os.getD j (0, 0, 0)) = 0) : Tj x0 os (j + 1) (dx ys (os.getD j (0, 0, 0))) (vs ++ dv ys (os.getD j (0, 0, 0))) := by
  refine ⟨?_, dx_ok h.ok ho, ?_⟩
  · rw [h.eq, tx_drop hj, if_pos hc]
  · rw [List.length_append]
    have h1 := dv_len ys ho
    have h2 := h.len
    omega
theorem Tj.fail {x0 : List En} {os : List Bk} {j : Nat} {ys : List En} {vs : List Int} (h : Tj x0 os j ys vs) (hj : j < os.length) (hc : dc ys (os.getD j (0, 0, 0)) ≠ 0) : tx x0 x0 [] os = (x0, [], dc ys (os.getD j (0, 0, 0))) := by
  rw [h.eq, tx_drop hj, if_neg hc]
theorem Tj.fin {x0 : List En} {os : List Bk} {j : Nat} {ys : List En} {vs : List Int} (h : Tj x0 os j ys vs) (hj : j = os.length) : tx x0 x0 [] os = (ys, vs, 0) := by
  subst hj
  rw [h.eq, List.drop_length]
  rfl
/-- Two results' cells stored at once. -/
theorem put2 (u : World) (g : Nat) (a b x y : Value) (h : Bx u g a b) : ∃ W, (u.setCell ⟨g, 0, none⟩ x).setCell ⟨g, 1, none⟩ y = W ∧ Bx W g x y ∧ (∀ lo, lo ≤ g → Below lo u W) ∧ ∀ g', g' ≠ g → W.heap[g']? = u.heap[g']? :=
  ⟨_, rfl, (h.set0 x).set1 y, fun lo hlo => ((Below.refl lo u).setCell hlo x).setCell hlo y, fun g' hne => (Below.heap_setCell _ _ y g' hne).trans (Below.heap_setCell _ _ x g' hne)⟩
theorem cl_nc (us : List Int) : Cop.cl (nc us) (us.length * 1) = zs us := by
  apply List.ext_getElem?
  intro j
  by_cases hj : j < us.length * 1
  · rw [Cop.cl_get _ _ j hj]
    unfold zs nc
    rw [List.getElem?_map, List.getD_eq_getElem?_getD, List.getElem?_eq_getElem (by omega)]
    rfl
  · rw [List.getElem?_eq_none (by rw [Cop.cl_len]; omega), List.getElem?_eq_none (by unfold zs; rw [List.length_map]; omega)]
/-- A result under way takes what an operation tells. -/
theorem app {w1 U w4 : World} {s0 G k cp cp' m : Nat} {c : Int} {b b' : Option Addr} {vs us : List Int} (h : Rs w1 s0 U G c b k cp vs) (hg : U.grownBy w4 (Value.slice b k cp).ownBlock) (hr : w4.ownsRow s0 3 1 (.slice b' (k + m) cp') (k + m) (zs vs ++ Cop.cl (nc us) (m * 1))) (hm : us.length = m) :
    Rs w1 s0 (w4.setCell ⟨G, 1, none⟩ (.slice b' (k + m) cp')) G c b' (k + m) cp' (vs ++ us) := by
  subst hm
  obtain ⟨hx, ht⟩ := h.mid hg
  rw [cl_nc] at hr
  refine ⟨(RsP.below_grown hg (fun q hq => (World.ownsRow.lt h.row q hq).1) h.lo h.bel).setCell h.g _, hx.set1 _, ty_set ht 1 _, ?_, h.g, Nat.le_trans h.lo (Nat.le_trans hg.size (by simp))⟩
  have e : zs (vs ++ us) = zs vs ++ zs us := by simp [zs]
  rw [e]
  exact Cop.row_set_ne hr (fun q hq => ty_ne (row_ty hr q hq) ht ne_ir) _ _
/-- A slice that came in, of whose block another's append makes nothing. -/
theorem sl_grown {w w' : World} {sz : Nat} {v : Value} {n : Nat} {c : Nat → Value} {row : Option Nat} (h : Sl w sz v n c) (hg : w.grownBy w' row) (hoff : ∀ g, row = some g → Off v g) : Sl w' sz v n c := by
  obtain ⟨a, cap, rfl, h1, h2, h3⟩ := h
  refine ⟨a, cap, rfl, h1, h2, fun hn => ?_⟩
  obtain ⟨b, o, rfl, hc⟩ := h3 hn
  refine ⟨b, o, rfl, fun j hj => ?_⟩
  have hlt := World.block_lt_of_cell? w _ (hc j hj)
  exact (World.cell?_of_block (w := w) (hg.block b hlt (fun e => hoff b e.symm _ _ _ rfl hn rfl))).trans (hc j hj)
theorem off_top {w : World} {sz n : Nat} {v : Value} {c : Nat → Value} (h : Sl w sz v n c) (hsz : 0 < sz) {k : Nat} (hk : w.heap.size ≤ k) : Off v k := by
  obtain ⟨a, cap, rfl, h1, h2, h3⟩ := h
  intro a' n' cap' e hn
  obtain ⟨rfl, rfl, rfl⟩ : a = some a' ∧ n = n' ∧ cap = cap' := by simpa using e
  obtain ⟨b, o, ha, hc⟩ := h3 hn
  obtain rfl := Option.some.inj ha
  have hlt : b < w.heap.size := World.block_lt_of_cell? w _ (hc 0 (Nat.mul_pos hn hsz))
  show b ≠ k
  omega
section
variable {P : Program} (w : World)
/-- As Cop.wpList_appR, telling where the row lies behind it. -/
theorem wpList_appAt {ops : Array Oper} {rest : List Oper} {o : Oper} {a : Act} {Q : Exit → Act → World → Prop} (hgd : o.guard = none) (s x : Operand) (t : TypeId)
    (ho : o.op = .call { callee := .builtin .append, args := #[s, x], argTypes := #[t, t] })
    (base : Nat) (e : TypeId) (sz bytes : Nat) (z : Value) (ht : P.underlying t = some (.slice e)) (hi : (P.info? e).map (fun i => (i.zero, i.size, i.bytes)) = some (some z, sz, bytes)) (hzs : z.cells.size = sz) (hsz : 0 < sz)
    (v : Value) (hs : a.eval s = v) (n : Nat) (olds : List Value) (hown : w.ownsRow base e sz v n olds) (hb : base ≤ w.heap.size) (u : Value) (hx : a.eval x = u) (m : Nat) (c : Nat → Value) (hu : Sl w sz u m c) (h1 : ∀ j, j < m * sz → (c j).oneCell' = true) (hm : n + m ≤ maxLen) (hbytes : (n + m) * bytes ≤ 140737488355328)
    (h : ∀ a' cap' w', w'.ownsRow base e sz (.slice a' (n + m) cap') (n + m) (olds ++ Cop.cl c (m * sz)) → w.grownBy w' v.ownBlock → (∀ q, (Value.slice a' (n + m) cap').ownBlock = some q → v.ownBlock = some q ∨ q = w.heap.size) → wpList P ops Q rest (a.put o.dst (.slice a' (n + m) cap')) w') : wpList P ops Q (o :: rest) a w := by
  refine wpList_plain hgd fun K hK => ?_
  have main : ∃ v' w', (Builtin.append_ #[t, t] o.type #[v, u]).run P w = .ok v' w' ∧ w'.ownsRow base e sz v' (n + m) (olds ++ Cop.cl c (m * sz)) ∧ w.grownBy w' v.ownBlock ∧ (v'.ownBlock = v.ownBlock ∨ v'.ownBlock = some w.heap.size) := by
    obtain ⟨i0, hi0, hz0, hz1, hz2⟩ := info_parts hi
    obtain ⟨a, cap, rfl, k1, k2, k3⟩ := hu
    cases a with
    | none =>
      have h0 : m = 0 := by
        by_cases h : 0 < m
        · obtain ⟨b, o, hb, _⟩ := k3 h; cases hb
        · omega
      subst h0
      refine ⟨v, w, ?_, by simpa [Cop.cl] using hown, ⟨rfl, rfl, rfl, Nat.le_refl _, fun _ _ _ => rfl⟩, .inl rfl⟩
      rcases hown.2 with ⟨rfl, rfl⟩ | ⟨g, cap2, cur, rfl, _, _, hnc, _⟩
      · simp [Builtin.append_, run_underlying ht, sizeOf, typeInfo, hi0, Builtin.lenOf, Builtin.firstCells]
      · simp [Builtin.append_, run_underlying ht, sizeOf, typeInfo, hi0, Builtin.lenOf, Builtin.firstCells, hnc, storeCells]
    | some ad =>
      obtain ⟨v', w', hr, h2, h3, _, h5⟩ := run_append_own_at (P := P) w base t o.type e i0 z sz bytes ht hi0 hz0 hz1 hz2 hzs hsz v n olds hown ad m cap (Cop.cl c (m * sz)) (Cop.cl_len _ _) (fun j u hj => by
        obtain ⟨hj', rfl⟩ := Cop.cl_of hj
        have hn : 0 < m := Nat.pos_of_ne_zero fun h => by subst h; simp at hj'
        obtain ⟨b, o, e2, hc⟩ := k3 hn
        obtain rfl := Option.some.inj e2
        rw [Addr.add_lit]
        exact hc j hj') (Cop.cl_one h1) hm hbytes hb
      exact ⟨v', w', hr, h2, h3, h5⟩
  obtain ⟨v', w', hr, h2, h3, h5⟩ := main
  obtain ⟨a', cap', rfl⟩ : ∃ a' cap', v' = .slice a' (n + m) cap' := by
    rcases h2.2 with ⟨rfl, h0⟩ | ⟨g, cap2, cur, rfl, _⟩
    · exact ⟨none, 0, by rw [h0]⟩
    · exact ⟨_, _, rfl⟩
  unfold Oper.wp execOp
  simp only [ho, resolve, invoke, builtin, Sem.run_bind, Sem.run_pure, Result.andThen_ok, List.map_toArray, List.map_cons, List.map_nil, hs, hx, hr]
  exact hK _ _ (h a' cap' w' h2 h3 (fun q hq => by
    rcases h5 with h5 | h5
    · exact .inl (h5.symm.trans hq)
    · exact .inr (Option.some.inj (hq.symm.trans h5))))
end
end Go.Proofs.Ytealdpkgfmokpaa.TxP
