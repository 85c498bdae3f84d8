/-
  What is proved: plain facts on the program's doing of a transaction: what stands behind some of its operations, and what stays (laws for the walks). Nothing of the program but its types.
-/
import Derived.Test.YtealdpkgfmokpaaRows
import Derived.Test.YtealdpkgfmokpaaTxP
import Derived.Test.YtealdpkgfmokpaaMapU
namespace Go.Proofs.Ytealdpkgfmokpaa.DtP
open Go.ChangeShapes Go.WideShapes Go.ChangeAt Go.RowKit Go.Maps
open Sl (Sl Own Off)
open OpenSl (nc)
open Dev Orm LawE MapP MapOk OtB MapD MapW MapI MapU DoI DoA Box2 RsP TxP
open OpB (Ok)
set_option linter.unusedVariables false

theorem row_blocks {w w' : World} {base : Nat} {e : TypeId} {sz : Nat} {v : Value} {n : Nat} {xs : List Value} (h : w.ownsRow base e sz v n xs) (ep : ∀ q, v.ownBlock = some q → w'.heap[q]? = w.heap[q]?) : w'.ownsRow base e sz v n xs := by
  obtain ⟨h1, h2 | ⟨g, cap, cur, rfl, hb, hg, rest⟩⟩ := h
  · exact ⟨h1, .inl h2⟩
  · exact ⟨h1, .inr ⟨g, cap, cur, rfl, hb, (ep g rfl).trans hg, rest⟩⟩
theorem ty_block {w w' : World} {g : Nat} {T : TypeId} (h : Ty w g T) (e : w'.heap[g]? = w.heap[g]?) : Ty w' g T := by
  obtain ⟨cs, fr, q⟩ := h
  exact ⟨cs, fr, e.trans q⟩
theorem wk_blocks {w w' : World} {lo g B : Nat} {xs : List En} {pv : Value} (h : Wk w lo g B xs pv) (eg : w'.heap[g]? = w.heap[g]?) (eB : w'.heap[B]? = w.heap[B]?) : Wk w' lo g B xs pv :=
  ⟨(World.cell?_of_block (w := w) eg).trans h.c0, (World.cell?_of_block (w := w) eg).trans h.c1, (World.frozen?_of_block (w := w) eg).trans h.f0, (World.frozen?_of_block (w := w) eg).trans h.f1,
   by obtain ⟨es, clock, hb, rest⟩ := h.own; exact ⟨es, clock, eB.trans hb, rest⟩, h.lg, h.lb, h.ne, ty_block h.ty eg⟩
theorem wp_blocks {w w' : World} {lo g B : Nat} {xs : List En} {pv : Value} {ps : List Pc} (h : Wp w lo g B xs pv ps) (eg : w'.heap[g]? = w.heap[g]?) (eB : w'.heap[B]? = w.heap[B]?) (ep : ∀ q, pv.ownBlock = some q → w'.heap[q]? = w.heap[q]?) : Wp w' lo g B xs pv ps :=
  ⟨wk_blocks h.wk eg eB, row_blocks h.row ep, h.wf⟩
theorem rs_blocks {w1 w w' : World} {s0 G k cp : Nat} {c : Int} {b : Option Addr} {vs : List Int} (h : Rs w1 s0 w G c b k cp vs) (hb : Below s0 w1 w') (hs : w.heap.size ≤ w'.heap.size) (eG : w'.heap[G]? = w.heap[G]?) (er : ∀ q, (Value.slice b k cp).ownBlock = some q → w'.heap[q]? = w.heap[q]?) : Rs w1 s0 w' G c b k cp vs :=
  ⟨hb, h.box.block eG, ty_block h.ty eG, row_blocks h.row er, h.g, Nat.le_trans h.lo hs⟩
/-- A block of another type than what is remembered stays behind a change. -/
theorem bl_keep {lo g B : Nat} {pv : Value} {ps : List Pc} {xs : List En} {w w' : World} {T : TypeId} {q : Nat} (hw : Wp w lo g B xs pv ps) (h : Bl lo g B pv w w') (ht : Ty w q T) (hT : T ≠ 192) (hg : q ≠ g) : w'.heap[q]? = w.heap[q]? :=
  h.oth q (by obtain ⟨cs, fr, e⟩ := ht; exact (Array.getElem?_eq_some_iff.1 e).1) hg (map_ne hw.wk.own ht) (fun e => ty_ne (row_ty hw.row q e) ht (fun e2 => hT e2.symm) rfl)
/-- The boxes of the receiver and of the transaction. -/
structure Ev (w : World) (G2 G3 g : Nat) (u : Value) : Prop where
  c2 : w.cell? ⟨G2, 0, none⟩ = some (.pointer (some ⟨g, 0, none⟩))
  t2 : Ty w G2 123
  c3 : w.cell? ⟨G3, 0, none⟩ = some u
  t3 : Ty w G3 55
theorem Ev.blocks {w w' : World} {G2 G3 g : Nat} {u : Value} (h : Ev w G2 G3 g u) (e2 : w'.heap[G2]? = w.heap[G2]?) (e3 : w'.heap[G3]? = w.heap[G3]?) : Ev w' G2 G3 g u :=
  ⟨(World.cell?_of_block (w := w) e2).trans h.c2, ty_block h.t2 e2, (World.cell?_of_block (w := w) e3).trans h.c3, ty_block h.t3 e3⟩
theorem ne_rp : 49 ≠ 192 := by decide
theorem ne_rw : 49 ≠ 167 := by decide
theorem ne_ip : 3 ≠ 192 := by decide
theorem ne_iw : 3 ≠ 167 := by decide
theorem ne_tp : 55 ≠ 192 := by decide
theorem ne_tw : 55 ≠ 167 := by decide
theorem ne_xp : 123 ≠ 192 := by decide
theorem ne_xw : 123 ≠ 167 := by decide
theorem ne_ti : 55 ≠ 3 := by decide
theorem ne_xi : 123 ≠ 3 := by decide
theorem ne_tr : 55 ≠ 49 := by decide
theorem ne_xr : 123 ≠ 49 := by decide
theorem ne_pi : 192 ≠ 3 := by decide
theorem ne_pr : 192 ≠ 49 := by decide
theorem ne_wi : 167 ≠ 3 := by decide
theorem ne_wr : 167 ≠ 49 := by decide

/-- What of the first world has not turned: whatever is neither the work's nor of what was remembered. -/
def Old (W0 : World) (g : Nat) (w : World) : Prop := ∀ q T, Ty W0 q T → T ≠ 192 → q ≠ g → w.heap[q]? = W0.heap[q]?
theorem ty_lt {w : World} {q : Nat} {T : TypeId} (h : Ty w q T) : q < w.heap.size := by obtain ⟨cs, fr, e⟩ := h; exact (Array.getElem?_eq_some_iff.1 e).1
theorem Old.below {W0 w w' : World} {g : Nat} (h : Old W0 g w) (hs : W0.heap.size ≤ w.heap.size) (hb : Below w.heap.size w w') : Old W0 g w' := fun q T ht hT hg =>
  (hb.block q (Nat.lt_of_lt_of_le (ty_lt ht) hs)).trans (h q T ht hT hg)
theorem Old.bl {W0 w w' : World} {lo g B : Nat} {pv : Value} {ps : List Pc} {xs : List En} (h : Old W0 g w) (hw : Wp w lo g B xs pv ps) (hb : Bl lo g B pv w w') : Old W0 g w' := fun q T ht hT hg =>
  (bl_keep hw hb (ty_block ht (h q T ht hT hg)) hT hg).trans (h q T ht hT hg)
theorem Old.far {W0 w w' : World} {g : Nat} (h : Old W0 g w) (hb : ∀ q, q < W0.heap.size → w'.heap[q]? = w.heap[q]?) : Old W0 g w' := fun q T ht hT hg => (hb q (ty_lt ht)).trans (h q T ht hT hg)

/-- What stands behind j operations, all with no code. -/
structure Dt (W0 : World) (lo g B G2 G3 G4 : Nat) (u : Value) (xs : List En) (os : List Bk) (j : Nat) (w : World) (ys : List En) (vs : List Int) (b : Option Addr) (p cp : Nat) (pv : Value) (ps : List Pc) : Prop where
  tj : Tj xs os j ys vs
  len : vs.length = p
  wp : Wp w lo g B ys pv ps
  un : und ps ys = xs
  pl : ps.length ≤ j
  rs : Rs W0 lo w G4 0 b p cp vs
  ev : Ev w G2 G3 g u
  old : Old W0 g w
  sz : W0.heap.size ≤ w.heap.size
  fr : ∀ q, (Value.slice b p cp).ownBlock = some q → W0.heap.size ≤ q
theorem Dt.below {W0 w w' : World} {lo g B G2 G3 G4 : Nat} {u : Value} {xs : List En} {os : List Bk} {j : Nat} {ys : List En} {vs : List Int} {b : Option Addr} {p cp : Nat} {pv : Value} {ps : List Pc} (h : Dt W0 lo g B G2 G3 G4 u xs os j w ys vs b p cp pv ps) (hb : Below w.heap.size w w') : Dt W0 lo g B G2 G3 G4 u xs os j w' ys vs b p cp pv ps :=
  ⟨h.tj, h.len, h.wp.below hb, h.un, h.pl, h.rs.below hb, h.ev.blocks (hb.block _ (ty_lt h.ev.t2)) (hb.block _ (ty_lt h.ev.t3)), h.old.below h.sz hb, Nat.le_trans h.sz hb.size, h.fr⟩
/-- .. behind what an operation turns: all but the map and what is remembered. -/
structure Mt (W0 : World) (lo g B G2 G3 G4 : Nat) (u : Value) (w : World) (vs : List Int) (b : Option Addr) (p cp : Nat) : Prop where
  len : vs.length = p
  rs : Rs W0 lo w G4 0 b p cp vs
  ev : Ev w G2 G3 g u
  old : Old W0 g w
  sz : W0.heap.size ≤ w.heap.size
  fr : ∀ q, (Value.slice b p cp).ownBlock = some q → W0.heap.size ≤ q
theorem Dt.op {W0 w w' : World} {lo g B G2 G3 G4 : Nat} {u : Value} {xs : List En} {os : List Bk} {j : Nat} {ys : List En} {vs : List Int} {b : Option Addr} {p cp : Nat} {pv : Value} {ps : List Pc} (h : Dt W0 lo g B G2 G3 G4 u xs os j w ys vs b p cp pv ps) (hb : Bl lo g B pv w w') : Mt W0 lo g B G2 G3 G4 u w' vs b p cp :=
  have k := fun q T (ht : Ty w q T) (h1 : T ≠ 192) (h2 : T ≠ 167) => bl_keep h.wp hb ht h1 (fun e => ty_ne (e ▸ ht) h.wp.wk.ty h2 rfl)
  ⟨h.len, rs_blocks h.rs (h.rs.bel.trans hb.bel) hb.size (k _ _ h.rs.ty ne_rp ne_rw) (fun q hq => k _ _ (row_ty h.rs.row q hq) ne_ip ne_iw), h.ev.blocks (k _ _ h.ev.t2 ne_xp ne_xw) (k _ _ h.ev.t3 ne_tp ne_tw), h.old.bl h.wp hb, Nat.le_trans h.sz hb.size, h.fr⟩
/-- The result under way takes what an operation tells. -/
theorem Mt.app {W0 w w4 : World} {lo g B G2 G3 G4 : Nat} {u : Value} {ys : List En} {vs us : List Int} {b b' : Option Addr} {p cp cp' m : Nat} {pv : Value} {ps : List Pc} (h : Mt W0 lo g B G2 G3 G4 u w vs b p cp) (hw : Wp w lo g B ys pv ps) (h4 : W0.heap.size ≤ G4)
    (hg : w.grownBy w4 (Value.slice b p cp).ownBlock) (hr : w4.ownsRow lo 3 1 (.slice b' (p + m) cp') (p + m) (zs vs ++ Cop.cl (nc us) (m * 1))) (hq : ∀ q, (Value.slice b' (p + m) cp').ownBlock = some q → (Value.slice b p cp).ownBlock = some q ∨ q = w.heap.size) (hm : us.length = m) :
    Mt W0 lo g B G2 G3 G4 u (w4.setCell ⟨G4, 1, none⟩ (.slice b' (p + m) cp')) (vs ++ us) b' (p + m) cp' ∧ Wp (w4.setCell ⟨G4, 1, none⟩ (.slice b' (p + m) cp')) lo g B ys pv ps := by
  have key : ∀ q, q < w.heap.size → q ≠ G4 → (Value.slice b p cp).ownBlock ≠ some q → (w4.setCell ⟨G4, 1, none⟩ (.slice b' (p + m) cp')).heap[q]? = w.heap[q]? := fun q h1 h2 h3 =>
    (Below.heap_setCell w4 _ _ q h2).trans (hg.block q h1 (fun e => h3 e.symm))
  have kt : ∀ q T, Ty w q T → T ≠ 49 → T ≠ 3 → (w4.setCell ⟨G4, 1, none⟩ (.slice b' (p + m) cp')).heap[q]? = w.heap[q]? := fun q T ht h1 h2 =>
    key q (ty_lt ht) (ty_ne ht h.rs.ty h1) (fun e => ty_ne ht (row_ty h.rs.row q e) h2 rfl)
  refine ⟨⟨by rw [List.length_append, h.len, hm], TxP.app h.rs hg hr hm, h.ev.blocks (kt _ _ h.ev.t2 ne_xr ne_xi) (kt _ _ h.ev.t3 ne_tr ne_ti), ?_, by have := hg.size; have := h.sz; simp; omega, fun q hq' => ?_⟩, wp_blocks hw (kt _ _ hw.wk.ty ne_wr ne_wi) ?_ (fun q hq' => kt _ _ (row_ty hw.row q hq') ne_pr ne_pi)⟩
  · exact h.old.far fun q hq' => key q (Nat.lt_of_lt_of_le hq' h.sz) (by omega) (fun e => by have := h.fr q e; omega)
  · rcases hq q hq' with e | e
    · exact h.fr q e
    · have := h.sz; omega
  · exact key B hw.wk.bt (fun e => map_ne hw.wk.own h.rs.ty e.symm) (fun e => map_ne hw.wk.own (row_ty h.rs.row B e) rfl)

/-- What a transaction leaves. -/
def TP (W0 : World) (lo g B : Nat) (t : List En × List Int × Int) (w : World) (e : Ending) : Prop := ∃ r, e = .returned (.agg #[.int .i64 t.2.2, r]) ∧ Hid (Own w lo 1 r t.2.1.length (nc t.2.1) ∧ (∀ q, r.ownBlock = some q → W0.heap.size ≤ q ∧ Ty w q 3) ∧ (∃ pv, Wk w lo g B t.1 pv) ∧ Old W0 g w)
end Go.Proofs.Ytealdpkgfmokpaa.DtP
