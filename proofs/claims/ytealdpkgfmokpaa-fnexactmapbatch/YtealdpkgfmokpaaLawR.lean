/-
  What is proved: results (a code and numbers): how one that comes in is read, and the laws' functions on them: their size counted, copied, compared (contracts for the walks).
-/
import Derived.Test.YtealdpkgfmokpaaRows
import Derived.Test.YtealdpkgfmokpaaBox2
import Derived.Test.YtealdpkgfmokpaaLawN
namespace Go.Proofs.Ytealdpkgfmokpaa.LawR
open Go.ChangeShapes Go.WideShapes Go.ChangeAt Go.RowKit Go.Joins Go.Deep
open Sl (Sl Own Off)
open OpenSl (tc nc pc)
open Dev Orm Box2
open LawN (mi)
set_option linter.unusedVariables false

/-- A result: its code, its values. -/
def Rr (w : World) (v : Value) (c : Int) (vs : List Int) : Prop := ∃ s, v = .agg #[.int .i64 c, s] ∧ Sl w 1 s vs.length (nc vs)
theorem Rr.below {w w' : World} {v : Value} {c : Int} {vs : List Int} (h : Rr w v c vs) (hb : Below w.heap.size w w') : Rr w' v c vs := by
  obtain ⟨s, rfl, h1⟩ := h
  exact ⟨s, rfl, h1.below hb⟩
theorem Rr.form {w : World} {v : Value} {c : Int} {vs : List Int} (h : Rr w v c vs) : ∃ a cap, v = .agg #[.int .i64 c, .slice a vs.length cap] := by
  obtain ⟨s, rfl, h1⟩ := h
  obtain ⟨a, cap, rfl, _, _⟩ := h1.form
  exact ⟨a, cap, rfl⟩
theorem cellsN : Try.prog.cellsOf 3 = 1 := by kernel_rfl
theorem cellsI : Try.prog.cellsOf 22 = 1 := by kernel_rfl
theorem array2 {cs : Array Value} (h : cs.size = 2) : ∃ c0 c1, cs = #[c0, c1] := by
  rcases cs with ⟨l⟩
  match l, h with
  | [c0, c1], _ => exact ⟨c0, c1, rfl⟩
theorem szIntS (w : World) (v : Value) (zs : List Int) (h : Sl w 1 v zs.length (nc zs)) (L : Nat) (hL : L ≤ 1048576) :
    Calls Try.prog 56 #[v, .int .i64 L] w fun e w' => (∃ r : Int, e = .returned (.int .i64 r) ∧ (r = -1 ∨ ∃ R : Nat, r = R ∧ R + zs.length = L)) ∧ w' = w := by
  obtain ⟨a, cap, rfl, h1, h2, h3⟩ := h
  clear h3
  unfold maxLen at h2
  by_cases hlt : L < zs.length
  · go_enter Try.func56, Try.ntmps56
    go_wp2
    go_ret
    exact ⟨⟨_, rfl, .inl rfl⟩, rfl⟩
  · obtain ⟨R, eR⟩ : ∃ R, L - zs.length = R := ⟨_, rfl⟩
    have hR : R + zs.length = L := by omega
    have e1 : (L : Int) - (zs.length : Int) = (R : Int) := by omega
    have HR := Lib.hid hR
    go_enter Try.func56, Try.ntmps56
    go_wp2
    go_ret
    exact ⟨⟨_, rfl, .inr ⟨R, rfl, HR.out⟩⟩, rfl⟩
set_option maxRecDepth 100000 in
set_option maxHeartbeats 1600000 in
theorem eqResult (w : World) (u v : Value) (c : Int) (vs : List Int) (h : Rr w u c vs) (h' : Rr w v c vs) :
    Calls Try.prog 26 #[u, v] w fun e w' => e = .returned (.bool true) ∧ Below w.heap.size w w' := by
  obtain ⟨s, rfl, h1⟩ := h
  obtain ⟨s', rfl, h1'⟩ := h'
  obtain ⟨U1, e1, hb1, hz1, B1⟩ := box2 w 49 (.int .i64 c) s
  obtain ⟨U2, e2, hb2, hz2, B2⟩ := box2 U1 49 (.int .i64 c) s'
  have hbb := hb1.trans (hb2.mono hb1.size)
  have HB := Lib.hid hbb
  have H1 := Lib.hid (h1.below hbb)
  have H2 := Lib.hid (h1'.below hbb)
  have X1 := B1.below hb2
  obtain ⟨G1, eG1⟩ : ∃ G1, w.heap.size = G1 := ⟨_, rfl⟩
  obtain ⟨G2, eG2⟩ : ∃ G2, U1.heap.size = G2 := ⟨_, rfl⟩
  rw [eG1] at X1
  rw [eG2] at B2
  obtain ⟨c0, c1, _, _⟩ := X1
  obtain ⟨d0, d1, _, _⟩ := B2
  have b1 : (c != c) = false := by simp
  clear hb1 hb2 hz1 hz2 hbb h1 h1' B1
  go_enter Try.func26, Try.ntmps26
  go_wp2_with fail
  clear e1 e2 eG1 eG2
  refine (LawN.eqIntS _ s s' vs H1.out H2.out).mono ?_
  rintro e w1 ⟨rfl, hb⟩
  have HB2 := Lib.hid (HB.out.trans (hb.mono HB.out.size))
  clear hb
  go_wp2_with fail
  go_ret
  exact ⟨rfl, HB2.out⟩
end Go.Proofs.Ytealdpkgfmokpaa.LawR
