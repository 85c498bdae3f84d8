/-
  What is proved: plain facts on a result that grows value by value in a box of its own: what stays and what is new behind each append (laws for the walks). Nothing of the program.
-/
import Derived.Test.YtealdpkgfmokpaaRows
import Derived.Test.YtealdpkgfmokpaaBox2
import Derived.Test.YtealdpkgfmokpaaOtB
namespace Go.Proofs.Ytealdpkgfmokpaa.RsP
open Go.ChangeShapes Go.WideShapes Go.ChangeAt Go.RowKit
open Sl (Sl Own Off)
open OpenSl (nc)
open Dev Box2 OtB
set_option linter.unusedVariables false

def zs (vs : List Int) : List Value := vs.map fun z => .int .i64 z
theorem zs_snoc (vs : List Int) (x : Int) : zs (vs ++ [x]) = zs vs ++ [.int .i64 x] := by simp [zs]
theorem zs_own {w : World} {base : Nat} {v : Value} {vs : List Int} (h : w.ownsRow base 3 1 v vs.length (zs vs)) : Own w base 1 v vs.length (nc vs) := own_of_row h _ (fun j hj => by
  unfold zs nc
  rw [List.getElem?_map, List.getD_eq_getElem?_getD, List.getElem?_eq_getElem (by omega)]
  rfl)
theorem row_form {w : World} {base : Nat} {e : TypeId} {sz : Nat} {v : Value} {n : Nat} {xs : List Value} (h : w.ownsRow base e sz v n xs) : ∃ a cap, v = .slice a n cap := by
  obtain ⟨_, ⟨rfl, rfl⟩ | ⟨g, cap, cur, rfl, _⟩⟩ := h
  · exact ⟨_, _, rfl⟩
  · exact ⟨_, _, rfl⟩
theorem below_grown {u w' w : World} {r : Option Nat} (h : u.grownBy w' r) {lo : Nat} (hr : ∀ q, r = some q → lo ≤ q) (hlo : lo ≤ u.heap.size) (hb : Below lo w u) : Below lo w w' :=
  ⟨h.os.trans hb.os, h.tape.trans hb.tape, h.output.trans hb.output, Nat.le_trans hb.size h.size, fun i hi => (h.block i (Nat.lt_of_lt_of_le hi hlo) (fun e => by have := hr i e.symm; omega)).trans (hb.block i hi)⟩
theorem ne_ir : 3 ≠ 49 := by decide
/-- A result under way: its box in block G, its values in a slice of the call's own. -/
structure Rs (w1 : World) (s0 : Nat) (w : World) (G : Nat) (c : Int) (b : Option Addr) (k cp : Nat) (vs : List Int) : Prop where
  bel : Below s0 w1 w
  box : Bx w G (.int .i64 c) (.slice b k cp)
  ty : Ty w G 49
  row : w.ownsRow s0 3 1 (.slice b k cp) k (zs vs)
  g : s0 ≤ G
  lo : s0 ≤ w.heap.size
theorem Rs.below {w1 w w' : World} {s0 G k cp : Nat} {c : Int} {b : Option Addr} {vs : List Int} (h : Rs w1 s0 w G c b k cp vs) (hb : Below w.heap.size w w') : Rs w1 s0 w' G c b k cp vs :=
  ⟨h.bel.trans (hb.mono h.lo), h.box.below hb, h.ty.below hb, Cop.row_below h.row hb, h.g, Nat.le_trans h.lo hb.size⟩
theorem Rs.apart {w1 w : World} {s0 G k cp : Nat} {c : Int} {b : Option Addr} {vs : List Int} (h : Rs w1 s0 w G c b k cp vs) : ∀ q, (Value.slice b k cp).ownBlock = some q → q ≠ G := fun q hq => ty_ne (row_ty h.row q hq) h.ty ne_ir
/-- What an append leaves of the box. -/
theorem Rs.mid {w1 U w4 : World} {s0 G k cp : Nat} {c : Int} {b : Option Addr} {vs : List Int} (h : Rs w1 s0 U G c b k cp vs) (hg : U.grownBy w4 (Value.slice b k cp).ownBlock) : Bx w4 G (.int .i64 c) (.slice b k cp) ∧ Ty w4 G 49 := by
  have e := hg.block G h.box.lt (fun e => h.apart G e.symm rfl)
  exact ⟨h.box.block e, by obtain ⟨cs, fr, h2⟩ := h.ty; exact ⟨cs, fr, e.trans h2⟩⟩
theorem Rs.next {w1 U w4 : World} {s0 G k cp cp' : Nat} {c : Int} {b b' : Option Addr} {vs : List Int} {x : Int} (h : Rs w1 s0 U G c b k cp vs) (hg : U.grownBy w4 (Value.slice b k cp).ownBlock) (hr : w4.ownsRow s0 3 1 (.slice b' (k + 1) cp') (k + 1) (zs vs ++ [.int .i64 x])) :
    Rs w1 s0 (w4.setCell ⟨G, 1, none⟩ (.slice b' (k + 1) cp')) G c b' (k + 1) cp' (vs ++ [x]) := by
  obtain ⟨hx, ht⟩ := h.mid hg
  refine ⟨(below_grown hg (fun q hq => (World.ownsRow.lt h.row q hq).1) h.lo h.bel).setCell h.g _, hx.set1 _, ty_set ht 1 _, ?_, h.g, Nat.le_trans h.lo (Nat.le_trans hg.size (by simp))⟩
  rw [zs_snoc]
  exact Cop.row_set_ne hr (fun q hq => ty_ne (row_ty hr q hq) ht ne_ir) _ _
theorem Rs.code {w1 w : World} {s0 G k cp : Nat} {c : Int} {b : Option Addr} {vs : List Int} (h : Rs w1 s0 w G c b k cp vs) (c' : Int) : Rs w1 s0 (w.setCell ⟨G, 0, none⟩ (.int .i64 c')) G c' b k cp vs :=
  ⟨h.bel.setCell h.g _, h.box.set0 _, ty_set h.ty 0 _, Cop.row_set_ne h.row (fun q hq => h.apart q hq) _ _, h.g, by simpa using h.lo⟩
/-- A number is made a literal. -/
theorem litN (w : World) (x : Int) : ∃ U, w.alloc (.cells #[.int .i64 x] 3) = U ∧ Below w.heap.size w U ∧ U.cell? ⟨w.heap.size, 0, none⟩ = some (.int .i64 x) :=
  ⟨_, rfl, (Below.refl _ w).alloc (Nat.le_refl _) _, by go_simp⟩
theorem lit_at {U : World} {G : Nat} {a : Value} (x0 : U.cell? ⟨G, 0, none⟩ = some a) : ∀ j v, ([a])[j]? = some v → U.cell? ((⟨G, 0, none⟩ : Addr).add j) = some v := by
  intro j v hj
  match j, hj with
  | 0, hj => obtain rfl : a = v := by simpa using hj
             exact x0
  | j + 1, hj => simp at hj
theorem infoN : (Try.prog.info? 3).map (fun i => (i.zero, i.size, i.bytes)) = some (some (.int .i64 0), 1, 8) := by kernel_rfl
/-- A result is boxed. -/
theorem boxR (u : World) (a b : Value) : ∃ U, u.alloc (.cells #[a, b] 49) = U ∧ Below u.heap.size u U ∧ U.heap.size = u.heap.size + 1 ∧ Bx U u.heap.size a b ∧ Ty U u.heap.size 49 := by
  obtain ⟨U, e, h1, h2, h3⟩ := box2 u 49 a b
  exact ⟨U, e, h1, h2, h3, by rw [← e]; exact boxed_ty u _ _⟩
end Go.Proofs.Ytealdpkgfmokpaa.RsP
