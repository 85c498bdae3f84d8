/-
  What is proved: an operation that is right, done on a right map: both sides answer the plain map, numbers and code; both MapDo (contracts for the walks).
-/
import Derived.Test.YtealdpkgfmokpaaRows
import Derived.Test.YtealdpkgfmokpaaDoM2
import Derived.Test.YtealdpkgfmokpaaDoM3
import Derived.Test.YtealdpkgfmokpaaDoM4
namespace Go.Proofs.Ytealdpkgfmokpaa.DoA
open Go.ChangeShapes Go.WideShapes Go.ChangeAt Go.RowKit Go.Maps
open Sl (Sl Own Off)
open OpenSl (nc)
open Dev Orm LawE MapP MapOk MapOkS OtB MapD MapGet MapW MapI EntI PutM DoI DoM DoM2 DoM3 DoM4
open OpB (Ok Bare Cell)
set_option linter.unusedVariables false

theorem mDo (w : World) (v : Value) (xs : List En) (h : Sl w 2 v xs.length (ec xs)) (hok : MOk xs) (k z y : Int) (ho : Ok (k, z, y)) :
    Calls Try.prog 119 #[v, .agg #[.int .i64 k, .int .i64 z, .int .i64 y]] w fun e w' => MQ w.heap.size v (dx xs (k, z, y)) (dv xs (k, z, y)) (dc xs (k, z, y)) w' e ∧ Below w.heap.size w w' := by
  obtain ⟨hz1, hz2, hk⟩ := ho
  simp only at hz1 hz2 hk
  rcases hk with ⟨hk, h0⟩ | ⟨hk, hy0, hy1⟩ | ⟨hk, hy0, hy1⟩
  · unfold Bare at hk
    rcases hk with rfl | rfl
    · exact mGet w v xs h z y
    · exact mDrop w v xs h z y hok.ri hok.1
  · unfold Cell at hk
    rcases hk with rfl | rfl | rfl
    · exact mPut w v xs h z y hok.ri hok.1
    · exact mCheck w v xs h z y
    · by_cases hs : (z ∈ ks xs ∨ xs.length ≠ 11) ∧ vl xs z + y ≤ 999999
      · have e1 : dx xs (5, z, y) = pu xs z (vl xs z + y) := by
          show (if (z ∈ ks xs ∨ xs.length ≠ 11) ∧ vl xs z + y ≤ 999999 then pu xs z (vl xs z + y) else xs) = _
          rw [if_pos hs]
        have e2 : dv xs (5, z, y) = [vl xs z + y] := by
          show (if (z ∈ ks xs ∨ xs.length ≠ 11) ∧ vl xs z + y ≤ 999999 then [vl xs z + y] else []) = _
          rw [if_pos hs]
        have e3 : dc xs (5, z, y) = 0 := by
          show (if z ∈ ks xs ∨ xs.length ≠ 11 then (if vl xs z + y ≤ 999999 then (0 : Int) else 4) else 7) = _
          rw [if_pos hs.1, if_pos hs.2]
        rw [e1, e2, e3]
        exact mAdd w v xs h z y hok.ri hok.kv hok.1 ⟨hy0, hy1⟩ hs.1 hs.2
      · have e1 : dx xs (5, z, y) = xs := by
          show (if (z ∈ ks xs ∨ xs.length ≠ 11) ∧ vl xs z + y ≤ 999999 then pu xs z (vl xs z + y) else xs) = _
          rw [if_neg hs]
        have e2 : dv xs (5, z, y) = [] := by
          show (if (z ∈ ks xs ∨ xs.length ≠ 11) ∧ vl xs z + y ≤ 999999 then [vl xs z + y] else []) = _
          rw [if_neg hs]
        have e3 : dc xs (5, z, y) = if z ∈ ks xs ∨ xs.length ≠ 11 then 4 else 7 := by
          show (if z ∈ ks xs ∨ xs.length ≠ 11 then (if vl xs z + y ≤ 999999 then (0 : Int) else 4) else 7) = _
          by_cases hf : z ∈ ks xs ∨ xs.length ≠ 11
          · rw [if_pos hf, if_pos hf, if_neg (fun h => hs ⟨hf, h⟩)]
          · rw [if_neg hf, if_neg hf]
        rw [e1, e2, e3]
        exact mAddNo w v xs h z y hok.kv ⟨hy0, hy1⟩ hs
  · subst hk
    obtain ⟨m, rfl⟩ : ∃ m : Nat, y = m := ⟨y.toNat, by omega⟩
    exact mScan w v xs h z m (by omega) hok.1
theorem iDo (w : World) (lo g B : Nat) (xs : List En) (pv : Value) (ps : List Pc) (h : Wp w lo g B xs pv ps) (hok : MOk xs) (k z y : Int) (ho : Ok (k, z, y)) (hp : ps.length ≤ 15) :
    Calls Try.prog 128 #[.pointer (some ⟨g, 0, none⟩), .agg #[.int .i64 k, .int .i64 z, .int .i64 y]] w fun e w' => VQ w.heap.size (dv xs (k, z, y)) (dc xs (k, z, y)) w' e ∧ DQ lo g B xs (dx xs (k, z, y)) ps w' ∧ Bl lo g B pv w w' := by
  obtain ⟨hz1, hz2, hk⟩ := ho
  simp only at hz1 hz2 hk
  rcases hk with ⟨hk, h0⟩ | ⟨hk, hy0, hy1⟩ | ⟨hk, hy0, hy1⟩
  · unfold Bare at hk
    rcases hk with rfl | rfl
    · exact doGet w lo g B xs pv ps h z y ⟨hz1, hz2⟩
    · exact doDrop w lo g B xs pv ps h z y ⟨hz1, hz2⟩ hok.ri hp
  · unfold Cell at hk
    rcases hk with rfl | rfl | rfl
    · exact doPut w lo g B xs pv ps h z y ⟨hz1, hz2⟩ hok.ri hok.1 ⟨hy0, hy1⟩ hp
    · exact doCheck w lo g B xs pv ps h z y ⟨hz1, hz2⟩
    · exact doAdd w lo g B xs pv ps h z y ⟨hz1, hz2⟩ hok.ri hok.kv hok.1 ⟨hy0, hy1⟩ hp
  · subst hk
    exact doScan w lo g B xs pv ps h z y ⟨hz1, hz2⟩ hok.ri hok.kv hok.1 ⟨hy0, hy1⟩

/-- What MapDo answers. -/
def ax (xs : List En) (o : Bk) : List En := if MOk xs ∧ Ok o then dx xs o else []
def av (xs : List En) (o : Bk) : List Int := if MOk xs ∧ Ok o then dv xs o else []
def ac (xs : List En) (o : Bk) : Int := if 4096 < xs.length then 2 else if MOk xs ∧ Ok o then dc xs o else 1
/-- .. in memory of the call's own, the map apart from the numbers. -/
def AQ (base : Nat) (ys : List En) (vs : List Int) (c : Int) (w : World) (e : Ending) : Prop := ∃ x o, e = .returned (.tuple #[x, o, .int .i64 c]) ∧ Hid (Own w base 2 x ys.length (ec ys) ∧ Own w base 1 o vs.length (nc vs) ∧ Apart x o)
theorem no_map (w : World) (base : Nat) : Own w base 2 (.slice none 0 0) ([] : List En).length (ec []) := ⟨none, 0, rfl, Nat.le_refl _, by unfold maxLen; omega, fun h => absurd h (by simp)⟩
theorem no_vals (w : World) (base : Nat) : Own w base 1 (.slice none 0 0) ([] : List Int).length (nc []) := ⟨none, 0, rfl, Nat.le_refl _, by unfold maxLen; omega, fun h => absurd h (by simp)⟩

end Go.Proofs.Ytealdpkgfmokpaa.DoA
