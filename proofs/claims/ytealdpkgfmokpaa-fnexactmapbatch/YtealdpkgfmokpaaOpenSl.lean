/-
  What is proved: what an argument's reading says of a slice of texts, of numbers, and of pairs of a number and a text, as facts on its cells (laws for the frames). Nothing of the program.
-/
import Derived.Test.YtealdpkgfmokpaaRows
import Derived.Test.YtealdpkgfmokpaaSl
import Derived.SliceStrings
import Derived.Deep.Slices
import Derived.Deep.Fields
import Derived.Lib.SmallJoins
import Derived.OpenShut
namespace Go.Proofs.Ytealdpkgfmokpaa.OpenSl
open Go.ChangeShapes Go.WideShapes Go.ChangeAt Go.RowKit Go.Joins Go.Deep
open Sl (Sl)
set_option linter.unusedVariables false

/-- The cells of texts, of numbers, of pairs. -/
def tc (ts : List ByteArray) (j : Nat) : Value := .string (ts.getD j ByteArray.empty)
def nc (zs : List Int) (j : Nat) : Value := .int .i64 (zs.getD j 0)
def pc (xs : List (Int × ByteArray)) (j : Nat) : Value := if j % 2 = 0 then .int .i64 (xs.getD (j / 2) (0, ByteArray.empty)).1 else .string (xs.getD (j / 2) (0, ByteArray.empty)).2

section
variable {H : Type} {enc : TypeId × Value → H} {P : Program} {w : World} {base : Nat} {spare : Nat → Bool} {held : Bool}

theorem spot_none {a : Addr} {v : Value} (h : w.cell? a = some v) : ∃ b o, a = ⟨b, o, none⟩ := by
  obtain ⟨b, off, spot⟩ := a
  have hs : spot = none := World.cell?_spot h
  subst hs
  exact ⟨b, off, rfl⟩
theorem add_none (b o j : Nat) : (⟨b, o, none⟩ : Addr).add j = ⟨b, o + j, none⟩ := by unfold Addr.add; split <;> simp_all

theorem strings {t e : TypeId} {fuel : Nat} {v : Value} {x : DataW H × List MemPlace} (ht : P.underlying t = some (.slice e)) (he : P.underlying e = some .string) (hc : P.cellsOf e = 1) (h : DataW.trod enc P w base spare held fuel t [v] = some x) :
    ∃ ts : List ByteArray, Sl w 1 v ts.length (tc ts) ∧ ∀ s ∈ ts, s.size ≤ maxLen := by
  rcases open_strings ht he hc h with ⟨hcs, _⟩ | ⟨a, len, cap, ss, hcs, _, hl, hm, hz, _, hcell, hsz⟩
  · obtain rfl : v = .slice none 0 0 := by simpa using hcs
    exact ⟨[], ⟨none, 0, rfl, Nat.le_refl _, by unfold maxLen; omega, fun h => by simp at h⟩, fun s hs => by simp at hs⟩
  · obtain rfl : v = .slice (some a) len cap := by simpa using hcs
    have hlen : len ≤ ss.length := by rw [hz]; split <;> omega
    have htl : (ss.take len).length = len := by rw [List.length_take]; omega
    refine ⟨ss.take len, ?_, fun s hs => hsz s (List.mem_of_mem_take hs)⟩
    rw [htl]
    refine ⟨some a, cap, rfl, hl, hm, fun hn => ?_⟩
    obtain ⟨b, o, rfl⟩ := spot_none (by simpa [Addr.add] using hcell 0 (by omega))
    refine ⟨b, o, rfl, fun j hj => ?_⟩
    rw [Nat.mul_one] at hj
    rw [← add_none, hcell j (by omega)]
    unfold tc
    simp only [List.getD_eq_getElem?_getD, List.getElem?_take_of_lt hj]

theorem numbers {t e : TypeId} {fuel : Nat} {v : Value} {x : DataW H × List MemPlace} (ht : P.underlying t = some (.slice e)) (he : P.underlying e = some (.int .i64)) (hc : P.cellsOf e = 1) (h : DataW.trod enc P w base spare held fuel t [v] = some x) :
    ∃ zs : List Int, Sl w 1 v zs.length (nc zs) ∧ ∀ z ∈ zs, (Lit.int .i64 z).wf = true := by
  rcases open_ints ht he hc h with ⟨hcs, _⟩ | ⟨a, len, cap, zs, hcs, _, hl, hm, hz, _, hcell, hwz⟩
  · obtain rfl : v = .slice none 0 0 := by simpa using hcs
    exact ⟨[], ⟨none, 0, rfl, Nat.le_refl _, by unfold maxLen; omega, fun h => by simp at h⟩, fun s hs => by simp at hs⟩
  · obtain rfl : v = .slice (some a) len cap := by simpa using hcs
    have hlen : len ≤ zs.length := by rw [hz]; split <;> omega
    have htl : (zs.take len).length = len := by rw [List.length_take]; omega
    refine ⟨zs.take len, ?_, fun z hz => hwz z (List.mem_of_mem_take hz)⟩
    rw [htl]
    refine ⟨some a, cap, rfl, hl, hm, fun hn => ?_⟩
    obtain ⟨b, o, rfl⟩ := spot_none (by simpa [Addr.add] using hcell 0 (by omega))
    refine ⟨b, o, rfl, fun j hj => ?_⟩
    rw [Nat.mul_one] at hj
    rw [← add_none, hcell j (by omega)]
    unfold nc
    simp only [List.getD_eq_getElem?_getD, List.getElem?_take_of_lt hj]

theorem pairs {t e : TypeId} {f0 f1 : Field} {fuel : Nat} {v : Value} {x : DataW H × List MemPlace} (ht : P.underlying t = some (.slice e)) (he : P.underlying e = some (.struct #[f0, f1])) (hone : oneCellFields P #[f0, f1] = true) (hC : P.cellsOf e = 2)
    (h0 : P.underlying f0.type = some (.int .i64)) (h1 : P.underlying f1.type = some .string) (h : DataW.trod enc P w base spare held fuel t [v] = some x) :
    ∃ xs : List (Int × ByteArray), Sl w 2 v xs.length (pc xs) ∧ ∀ y ∈ xs, y.2.size ≤ maxLen ∧ (Lit.int .i64 y.1).wf = true := by
  rcases open_slice ht h with ⟨hcs, _⟩ | ⟨a, len, cap, m, n, D, Pl, hcs, hb, hl, hm, hmm, _, hi⟩
  · obtain rfl : v = .slice none 0 0 := by simpa using hcs
    exact ⟨[], ⟨none, 0, rfl, Nat.le_refl _, by unfold maxLen; omega, fun h => by simp at h⟩, fun s hs => by simp at hs⟩
  · obtain rfl : v = .slice (some a) len cap := by simpa using hcs
    have hlm : len ≤ m := by rw [hmm]; split <;> omega
    have each : ∀ i, ∃ y : Int × ByteArray, i < len → w.cell? (a.add (i * 2)) = some (.int .i64 y.1) ∧ w.cell? ((a.add (i * 2)).add 1) = some (.string y.2) ∧ y.2.size ≤ maxLen ∧ (Lit.int .i64 y.1).wf = true := by
      intro i
      by_cases hlt : i < len
      · obtain ⟨cs', hc, ht'⟩ := hi i (by omega)
        rw [hC] at hc
        obtain ⟨y0, y1, n', _, _, k0, k1⟩ := trod_struct2 he ht'
        obtain ⟨o0, c0⟩ := hone_of hone 0 f0 rfl
        obtain ⟨o1, c1⟩ := hone_of hone 1 f1 rfl
        obtain ⟨_, hcl, hat⟩ := World.cells?_some hc
        match cs', hcl, hat, k0, k1 with
        | [u0, u1], _, hat, k0, k1 =>
          rw [o0, c0] at k0
          rw [o1, c1] at k1
          obtain ⟨z, e0, _, hw⟩ := DataW.trod_int h0 (show DataW.trod enc P w base spare held n' f0.type [u0] = _ from k0)
          obtain ⟨s, e1, _, hs⟩ := DataW.trod_string h1 (show DataW.trod enc P w base spare held n' f1.type [u1] = _ from k1)
          have q0 := hat 0 (by omega)
          have q1 := hat 1 (by omega)
          obtain rfl : u0 = .int .i64 z := by simpa using e0
          obtain rfl : u1 = .string s := by simpa using e1
          exact ⟨(z, s), fun _ => ⟨by simpa [Addr.add] using q0, by simpa using q1, hs, hw⟩⟩
      · exact ⟨(0, ByteArray.empty), fun h => absurd h hlt⟩
    obtain ⟨f, hf⟩ := Classical.axiomOfChoice each
    have hlen : ((List.range len).map f).length = len := by simp
    refine ⟨(List.range len).map f, ?_, fun y hy => ?_⟩
    · rw [hlen]
      refine ⟨some a, cap, rfl, hl, hm, fun hn => ?_⟩
      obtain ⟨b, o, rfl⟩ := spot_none (by simpa [Addr.add] using (hf 0 hn).1)
      refine ⟨b, o, rfl, fun j hj => ?_⟩
      have hj2 : j / 2 < len := by omega
      have hg : ((List.range len).map f).getD (j / 2) (0, ByteArray.empty) = f (j / 2) := by simp [List.getD_eq_getElem?_getD, hj2]
      unfold pc
      rw [hg]
      obtain ⟨g0, g1, _, _⟩ := hf (j / 2) hj2
      rw [add_none, add_none] at g1
      rw [add_none] at g0
      by_cases hp : j % 2 = 0
      · rw [if_pos hp, show o + j = o + j / 2 * 2 by omega]
        exact g0
      · rw [if_neg hp, show o + j = o + j / 2 * 2 + 1 by omega]
        exact g1
    · obtain ⟨i, hi2, rfl⟩ := List.mem_map.1 hy
      obtain ⟨_, _, g2, g3⟩ := hf i (by simpa using hi2)
      exact ⟨g2, g3⟩
end
end Go.Proofs.Ytealdpkgfmokpaa.OpenSl
