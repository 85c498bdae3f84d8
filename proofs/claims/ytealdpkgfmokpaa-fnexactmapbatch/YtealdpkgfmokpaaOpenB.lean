/-
  What is proved: an operation, and a batch, that come in are read as plain ones (laws for the walks).
-/
import Derived.Test.YtealdpkgfmokpaaRows
import Derived.Test.YtealdpkgfmokpaaOrm
import Derived.ChangeSame
namespace Go.Proofs.Ytealdpkgfmokpaa.OpenB
open Go.ChangeShapes Go.WideShapes Go.ChangeAt Go.RowKit Go.Joins Go.Deep
open Sl (Sl Own Off)
open Dev Orm
set_option linter.unusedVariables false

section
variable {H : Type} {enc : TypeId × Value → H} {P : Program} {w : World} {base : Nat} {spare : Nat → Bool} {held : Bool}
theorem nested1 {T t e : TypeId} {g0 f0 f1 f2 : Field} {fuel : Nat} {v : Value} {x : DataW H × List MemPlace} (hT : P.underlying T = some (.slice t)) (hc : P.cellsOf t = 1) (hs : P.underlying t = some (.struct #[g0])) (hso : oneCellFields P #[g0] = true) (ht : P.underlying g0.type = some (.slice e)) (he : P.underlying e = some (.struct #[f0, f1, f2])) (hone : oneCellFields P #[f0, f1, f2] = true) (hC : P.cellsOf e = 3)
    (h0 : P.underlying f0.type = some (.int .i64)) (h1 : P.underlying f1.type = some (.int .i64)) (h2 : P.underlying f2.type = some (.int .i64)) (h : DataW.trod enc P w base spare held fuel T [v] = some x) :
    ∃ bss : List (List Bk), Ns w v bss := by
  rcases open_slice hT h with ⟨hcs, _⟩ | ⟨a, len, cap, m, n, D, Pl, hcs, hb, hl, hm, hmm, _, hi⟩
  · obtain rfl : v = .slice none 0 0 := by simpa using hcs
    exact ⟨[], fun _ => .slice none 0 0, ⟨none, 0, rfl, Nat.le_refl _, by unfold maxLen; omega, fun h => by simp at h⟩, fun j hj => by simp at hj⟩
  · obtain rfl : v = .slice (some a) len cap := by simpa using hcs
    have hlm : len ≤ m := by rw [hmm]; split <;> omega
    have each : ∀ i, ∃ y : Value × List Bk, i < len → w.cell? (a.add i) = some y.1 ∧ Sl w 3 y.1 y.2.length (bc y.2) := by
      intro i
      by_cases hlt : i < len
      · obtain ⟨cs', hcc, ht'⟩ := hi i (by omega)
        rw [hc] at hcc
        obtain ⟨_, hcl, hat⟩ := World.cells?_some hcc
        match cs', hcl, hat, ht' with
        | [u0], _, hat, ht' =>
          obtain ⟨y9, n9, _, _, k9⟩ := trod_struct1 hs ht'
          obtain ⟨o9, c9⟩ := hone_of hso 0 g0 rfl
          rw [o9, c9] at k9
          obtain ⟨xs, hx⟩ := triples ht he hone hC h0 h1 h2 (show DataW.trod enc P w base spare held n9 g0.type [u0] = _ from k9)
          have q0 := hat 0 (by omega)
          exact ⟨(u0, xs), fun _ => ⟨by simpa [Addr.add] using q0, hx⟩⟩
      · exact ⟨(.bool false, []), fun h => absurd h hlt⟩
    obtain ⟨f, hf⟩ := Classical.axiomOfChoice each
    have hlen : ((List.range len).map fun i => (f i).2).length = len := by simp
    refine ⟨(List.range len).map fun i => (f i).2, fun i => (f i).1, ?_, fun j hj => ?_⟩
    · rw [hlen]
      refine ⟨some a, cap, rfl, hl, hm, fun hn => ?_⟩
      obtain ⟨b, o, rfl⟩ := OpenSl.spot_none (hf 0 hn).1
      refine ⟨b, o, by simp, fun j hj => ?_⟩
      have := (hf j (by omega)).1
      rwa [OpenSl.add_none] at this
    · rw [hlen] at hj
      have hg : ((List.range len).map fun i => (f i).2).getD j [] = (f j).2 := by simp [List.getD_eq_getElem?_getD, hj]
      rw [hg]
      exact (hf j hj).2
end
theorem cellsOp : Try.prog.cellsOf 163 = 3 := by kernel_rfl
theorem cellsTxn : Try.prog.cellsOf 44 = 1 := by kernel_rfl
set_option maxRecDepth 100000 in
/-- An operation by value that comes in. -/
theorem open_op {H : Type} {enc : TypeId × Value → H} {W : World} {base b0 : Nat} {spare : Nat → Bool} {held : Bool} {v : Value} {d : DataW H} {p : List MemPlace}
    (o : Value.okWide Try.prog W .any b0 163 v) (h : DataW.Trod enc Try.prog W base spare held 163 v d p) : ∃ x y z, v = .agg #[.int .i64 x, .int .i64 y, .int .i64 z] := by
  obtain ⟨cs, rfl, hsz⟩ := okWide_struct Try.underlying163 o
  obtain ⟨c0, c1, c2, rfl⟩ := Orm.array3 (hsz.trans cellsOp)
  obtain ⟨fuel, hf⟩ := h
  obtain ⟨y0, y1, y2, m, _, _, h0, h1, h2⟩ := trod_struct3 Try.underlying163 hf
  simp only [Value.cells, cellsN, List.drop_zero, List.drop_succ_cons, List.take_succ_cons, List.take_zero] at h0 h1 h2
  obtain ⟨z0, e0, _, _⟩ := DataW.trod_int Try.underlying3 h0
  obtain ⟨z1, e1, _, _⟩ := DataW.trod_int Try.underlying3 h1
  obtain ⟨z2, e2, _, _⟩ := DataW.trod_int Try.underlying3 h2
  obtain rfl : c0 = .int .i64 z0 := by simpa using e0
  obtain rfl : c1 = .int .i64 z1 := by simpa using e1
  obtain rfl : c2 = .int .i64 z2 := by simpa using e2
  exact ⟨_, _, _, rfl⟩
set_option maxRecDepth 100000 in
/-- A batch that comes in. -/
theorem open_batch {H : Type} {enc : TypeId × Value → H} {W : World} {base : Nat} {spare : Nat → Bool} {held : Bool} {v : Value} {d : DataW H} {p : List MemPlace}
    (hform : ∃ a n cap, v = .slice a n cap) (h : DataW.Trod enc Try.prog W base spare held 64 v d p) : ∃ bss, Ns W v bss := by
  obtain ⟨a, n, cap, rfl⟩ := hform
  obtain ⟨fuel, hf⟩ := h
  exact nested1 Try.underlying64 cellsTxn Try.underlying44 (by kernel_rfl) Try.underlying42 Try.underlying163 (by kernel_rfl) cellsOp Try.underlying3 Try.underlying3 Try.underlying3 hf
end Go.Proofs.Ytealdpkgfmokpaa.OpenB
