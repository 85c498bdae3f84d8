/-
  What is proved: the source of choices (a pointer to a code, a place and a seed) answers numbers within their bounds and writes into its own block alone; the texts that are drawn from it have at most 199 bytes (contracts for the walks of laws that draw).
-/
import Derived.Test.YtealdpkgfmokpaaRows
import Derived.Test.YtealdpkgfmokpaaBytes
import Derived.Lib.BufferOwn
import Derived.OpenShut
import Derived.StillTailTactics
namespace Go.Proofs.Ytealdpkgfmokpaa.Src
open Go.ChangeShapes Go.WideShapes Go.ChangeAt Go.RowKit
open Bytes (BV Owns)
set_option linter.unusedVariables false

/-- A source in block b: its code, its place, its seed. -/
structure Is (w : World) (b : Nat) (a0 : Option Addr) (len cap : Nat) (pl seed : Int) : Prop where
  c0 : w.cell? ⟨b, 0, none⟩ = some (.slice a0 len cap)
  c1 : w.cell? ⟨b, 1, none⟩ = some (.int .i64 pl)
  c2 : w.cell? ⟨b, 2, none⟩ = some (.int .i64 seed)
  f1 : w.frozen? ⟨b, 1, none⟩ = false
  f2 : w.frozen? ⟨b, 2, none⟩ = false
  p0 : 0 ≤ pl
  s0 : 0 ≤ seed
  s1 : seed < 2147483648
  hl : len ≤ maxLen
  code : ∀ i, i < len → ∃ bb off z, a0 = some ⟨bb, off, none⟩ ∧ bb ≠ b ∧ 0 ≤ z ∧ z < 256 ∧ w.cell? ⟨bb, off + i, none⟩ = some (.int .u8 z)

theorem cell_lt {w : World} {a : Addr} {v : Value} (h : w.cell? a = some v) : a.block < w.heap.size := World.block_lt_of_cell? w _ h

theorem Is.set1 {w : World} {b : Nat} {a0 : Option Addr} {len cap : Nat} {pl seed : Int} (h : Is w b a0 len cap pl seed) (pl' : Int) (hp : 0 ≤ pl') :
    Is (w.setCell ⟨b, 1, none⟩ (.int .i64 pl')) b a0 len cap pl' seed := by
  obtain ⟨c0, c1, c2, f1, f2, p0, s0, s1, hl, code⟩ := h
  refine ⟨by go_simp, by go_simp, by go_simp, by go_simp, by go_simp, hp, s0, s1, hl, fun i hi => ?_⟩
  obtain ⟨bb, off, z, rfl, hne, z0, z1, hz⟩ := code i hi
  exact ⟨bb, off, z, rfl, hne, z0, z1, by clear code; go_simp⟩
theorem Is.set2 {w : World} {b : Nat} {a0 : Option Addr} {len cap : Nat} {pl seed : Int} (h : Is w b a0 len cap pl seed) (sd : Int) (h0 : 0 ≤ sd) (h1 : sd < 2147483648) :
    Is (w.setCell ⟨b, 2, none⟩ (.int .i64 sd)) b a0 len cap pl sd := by
  obtain ⟨c0, c1, c2, f1, f2, p0, s0, s1, hl, code⟩ := h
  refine ⟨by go_simp, by go_simp, by go_simp, by go_simp, by go_simp, p0, h0, h1, hl, fun i hi => ?_⟩
  obtain ⟨bb, off, z, rfl, hne, z0, z1, hz⟩ := code i hi
  exact ⟨bb, off, z, rfl, hne, z0, z1, by clear code; go_simp⟩
theorem Is.drewN {w : World} {b : Nat} {a0 : Option Addr} {len cap : Nat} {pl seed : Int} (h : Is w b a0 len cap pl seed) (n : Nat) : Is (w.drewN n) b a0 len cap pl seed :=
  ⟨h.c0, h.c1, h.c2, h.f1, h.f2, h.p0, h.s0, h.s1, h.hl, h.code⟩
theorem Is.drew {w : World} {b : Nat} {a0 : Option Addr} {len cap : Nat} {pl seed : Int} (h : Is w b a0 len cap pl seed) : Is w.drew b a0 len cap pl seed :=
  ⟨h.c0, h.c1, h.c2, h.f1, h.f2, h.p0, h.s0, h.s1, h.hl, h.code⟩
/-- Where another block alone has turned the source is as it was. -/
theorem Is.far {w w' : World} {b : Nat} {a0 : Option Addr} {len cap : Nat} {pl seed : Int} {row : Option Nat} (h : Is w b a0 len cap pl seed) (hg : w.grownBy w' row) (hr : ∀ k, row = some k → k ≠ b ∧ (0 < len → ∀ bb off, a0 = some ⟨bb, off, none⟩ → k ≠ bb)) :
    Is w' b a0 len cap pl seed := by
  have hb : some b ≠ row := fun e => (hr b e.symm).1 rfl
  have hlt := cell_lt h.c1
  refine ⟨(hg.cell_far ⟨b, 0, none⟩ hlt hb).trans h.c0, (hg.cell_far ⟨b, 1, none⟩ hlt hb).trans h.c1, (hg.cell_far ⟨b, 2, none⟩ hlt hb).trans h.c2, (hg.frozen_far ⟨b, 1, none⟩ hlt hb).trans h.f1, (hg.frozen_far ⟨b, 2, none⟩ hlt hb).trans h.f2, h.p0, h.s0, h.s1, h.hl, fun i hi => ?_⟩
  obtain ⟨bb, off, z, e, hne, z0, z1, hz⟩ := h.code i hi
  exact ⟨bb, off, z, e, hne, z0, z1, (hg.cell_far _ (cell_lt hz) (fun e2 => (hr bb e2.symm).2 (by omega) bb off e rfl)).trans hz⟩
theorem grown_drewN {w w' : World} {row : Option Nat} (h : w.grownBy w' row) (n : Nat) : w.grownBy (w'.drewN n) row := ⟨h.os, h.tape, h.output, h.size, h.block⟩
theorem grown_drew {w w' : World} {row : Option Nat} (h : w.grownBy w' row) : w.grownBy w'.drew row := ⟨h.os, h.tape, h.output, h.size, h.block⟩
theorem grown_set {w w' : World} {b : Nat} (h : w.grownBy w' (some b)) (i : Nat) (v : Value) : w.grownBy (w'.setCell ⟨b, i, none⟩ v) (some b) := Lib.grownBy_setB h i v

theorem grown_then {w w1 w2 : World} {row row' : Option Nat} (h : w.grownBy w1 row) (k : w1.grownBy w2 row') (hr : ∀ j, row' = some j → w.heap.size ≤ j ∨ row = row') : w.grownBy w2 row :=
  ⟨k.os.trans h.os, k.tape.trans h.tape, k.output.trans h.output, Nat.le_trans h.size k.size, fun i hi hne => (k.block i (Nat.lt_of_lt_of_le hi h.size) (fun e => by
    rcases hr i e.symm with h1 | h1
    · omega
    · exact hne (e.trans h1.symm))).trans (h.block i hi hne)⟩

/-- What an answer below m leaves: the source, at most n places further; nothing else written. -/
def Post (w : World) (b : Nat) (a0 : Option Addr) (len cap : Nat) (pl m n : Int) (e : Ending) (w' : World) : Prop :=
  ∃ r pl' seed', e = .returned (.int .i64 r) ∧ 0 ≤ r ∧ r < m ∧ Is w' b a0 len cap pl' seed' ∧ pl' ≤ pl + n ∧ w.grownBy w' (some b)

/-- What a text that is drawn leaves. -/
def TextPost (w : World) (b : Nat) (a0 : Option Addr) (len cap : Nat) (pl : Int) (lo hi : Nat) (n : Int) (e : Ending) (w' : World) : Prop :=
  ∃ (bs : List UInt8) (pl' seed' : Int), e = .returned (.string ⟨bs.toArray⟩) ∧ lo ≤ bs.length ∧ bs.length ≤ hi ∧ Is w' b a0 len cap pl' seed' ∧ pl' ≤ pl + n ∧ w.grownBy w' (some b)

/-- What the walk is told of a slice of integers that came in. -/
def IsRow (k : IntKind) (w : World) (a : Option Addr) (len cap : Nat) (zs : List Int) : Prop :=
  (a = none ∧ len = 0 ∧ cap = 0 ∧ zs = []) ∨
  ∃ x, a = some x ∧ len ≤ cap ∧ cap ≤ maxLen ∧ zs.length = cap ∧ (∀ i, i < zs.length → w.cell? (x.add i) = some (.int k (zs.getD i 0))) ∧ ∀ n ∈ zs, (Lit.int k n).wf = true

theorem IsRow.code {w : World} {a : Option Addr} {len cap : Nat} {zs : List Int} (h : IsRow .u8 w a len cap zs) :
    len ≤ maxLen ∧ ∀ i, i < len → ∃ bb off z, a = some ⟨bb, off, none⟩ ∧ 0 ≤ z ∧ z < 256 ∧ w.cell? ⟨bb, off + i, none⟩ = some (.int .u8 z) := by
  rcases h with ⟨rfl, rfl, rfl, rfl⟩ | ⟨x, rfl, h1, h2, h3, h4, h5⟩
  · exact ⟨by unfold maxLen; omega, fun i hi => by omega⟩
  · refine ⟨by omega, fun i hi => ?_⟩
    obtain ⟨b, off, rfl, hc⟩ := ints_at h4 (by omega)
    have hz := h5 (zs.getD i 0) (by simp [List.getD_eq_getElem?_getD, List.getElem?_eq_getElem (show i < zs.length by omega)])
    have hb := bounds_u8 hz
    exact ⟨b, off, zs.getD i 0, rfl, hb.1, by omega, hc i (by omega)⟩

/-- What a text that is drawn from a code is. -/
def Drawn (w : World) (hi : Nat) (e : Ending) (w' : World) : Prop := ∃ bs : List UInt8, e = .returned (.string ⟨bs.toArray⟩) ∧ bs.length ≤ hi ∧ Below w.heap.size w w'

end Go.Proofs.Ytealdpkgfmokpaa.Src
