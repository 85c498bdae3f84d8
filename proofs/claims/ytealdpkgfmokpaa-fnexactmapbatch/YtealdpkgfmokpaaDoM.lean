/-
  What is proved: the model's doing of one operation on a map: what it leaves, what it tells, its code (contracts for the walks): gets, checks.
-/
import Derived.Test.YtealdpkgfmokpaaRows
import Derived.Test.YtealdpkgfmokpaaMapGet
import Derived.Test.YtealdpkgfmokpaaDoI
import Derived.Test.YtealdpkgfmokpaaPutM
import Derived.OwnWalk
namespace Go.Proofs.Ytealdpkgfmokpaa.DoM
open Go.ChangeShapes Go.WideShapes Go.ChangeAt Go.RowKit Go.Maps
open Sl (Sl Own Off)
open OpenSl (nc)
open Dev Orm LawE MapP MapOk OtB MapD MapGet
open DoI (lit1 lit2 bit_of)
set_option linter.unusedVariables false

theorem l01Bit (b : Bool) (w : World) : Calls Try.prog 144 #[.bool b] w fun e w' => e = .returned (.int .i64 (if b = true then 1 else 0)) ∧ w = w' := by
  cases b
  · go_enter Try.func144, Try.ntmps144
    go_wp2
    go_ret
    exact ⟨rfl, rfl⟩
  · go_enter Try.func144, Try.ntmps144
    go_wp2
    go_ret
    exact ⟨rfl, rfl⟩
/-- A new slice of nothing. -/
theorem lit0 (w : World) (T : TypeId) : ∃ U, w.alloc (.cells #[] T) = U ∧ Below w.heap.size w U ∧ Own U w.heap.size 1 (.slice (some ⟨w.heap.size, 0, none⟩) 0 0) ([] : List Int).length (nc []) :=
  ⟨_, rfl, (Below.refl _ w).alloc (Nat.le_refl _) _, ⟨_, 0, rfl, Nat.le_refl _, by unfold maxLen; omega, fun h => absurd h (by simp)⟩⟩
/-- What the model answers: a map, what is told, a code. -/
def MQ (base : Nat) (v : Value) (ys : List En) (vs : List Int) (c : Int) (w : World) (e : Ending) : Prop := ∃ x o, e = .returned (.tuple #[x, o, .int .i64 c]) ∧ Hid (Sl w 2 x ys.length (ec ys) ∧ Own w base 1 o vs.length (nc vs) ∧ ∀ q, q < base → Off v q → Off x q)
theorem found {xs : List En} {z : Int} {j : Nat} (h1 : j < xs.length) (h2 : (xs.getD j (0, 0)).1 = z) (h3 : ∀ i, i < j → (xs.getD i (0, 0)).1 ≠ z) : vl xs z = (xs.getD j (0, 0)).2 ∧ z ∈ ks xs := by
  have := vl_at h1 (by rw [h2]; exact h3)
  rw [h2] at this
  exact this
theorem bit_yes {p : Prop} [Decidable p] (h : p) : bit p = 1 := if_pos h
theorem bit_no {p : Prop} [Decidable p] (h : ¬ p) : bit p = 0 := if_neg h

set_option maxRecDepth 100000 in
set_option maxHeartbeats 3200000 in
theorem mGet (w : World) (v : Value) (xs : List En) (h : Sl w 2 v xs.length (ec xs)) (z y : Int) :
    Calls Try.prog 119 #[v, .agg #[.int .i64 1, .int .i64 z, .int .i64 y]] w fun e w' => MQ w.heap.size v xs [bit (z ∈ ks xs), vl xs z] 0 w' e ∧ Below w.heap.size w w' := by
  obtain ⟨U, e1, hb, hsz, X⟩ := Box3.box3 w 159 (.int .i64 1) (.int .i64 z) (.int .i64 y)
  have HF := Lib.hid (l10Find U v xs (h.below hb) z)
  have HVU := Lib.hid (h.below hb)
  have HB := Lib.hid hb
  have HSZ := Lib.hid (show w.heap.size ≤ U.heap.size from hb.size)
  obtain ⟨M, eM⟩ : ∃ M, w.heap.size = M := ⟨_, rfl⟩
  rw [eM] at X
  obtain ⟨x0, x1, x2, _, _, _⟩ := X
  obtain ⟨a, cap, rfl, h1, h2, _⟩ := h
  unfold maxLen at h2
  have HVN := Lib.hid (vl_not (xs := xs) (k := z))
  have HVA := Lib.hid (fun (j : Nat) h1 h2 h3 => found (xs := xs) (z := z) (j := j) h1 h2 h3)
  have HBY := Lib.hid (bit_yes (p := z ∈ ks xs))
  have HBN := Lib.hid (bit_no (p := z ∈ ks xs))
  have HEC := Lib.hid (ec1 xs)
  generalize bit (z ∈ ks xs) = bb at *
  generalize vl xs z = V at *
  obtain ⟨n, en⟩ : ∃ n, xs.length = n := ⟨_, rfl⟩
  have HEN := Lib.hid en
  rw [en] at HVU HVA HF h1 ⊢
  clear en hb hsz
  go_enter Try.func119, Try.ntmps119
  go_wp2_with fail
  refine HF.out.mono ?_
  rintro e w2 ⟨⟨r, rfl, HR⟩, hu⟩
  have hu2 := hu.symm
  subst hu2
  clear e1 hu
  obtain ⟨U2, e2, hb2, ho2⟩ := lit2 U bb V
  have HO2 := Lib.hid (ho2.base HSZ.out)
  have HB2 := Lib.hid (HB.out.trans (hb2.mono HSZ.out))
  have HV2 := Lib.hid (HVU.out.below hb2)
  clear hb2 ho2
  rcases HR.out with ⟨rfl, hn⟩ | ⟨j, rfl, hj, hy, hf⟩
  · have e0 := HBN.out hn
    subst e0
    have e0 := HVN.out hn
    subst e0
    clear hn
    go_wp2_with (go_at_call 144; refine (l01Bit _ _).mono ?_; rintro e u ⟨rfl, rfl⟩)
    go_ret3
    exact ⟨⟨_, _, rfl, Lib.hid ⟨by rw [HEN.out]; exact HV2.out, HO2.out, fun _ _ h => h⟩⟩, HB2.out⟩
  · rw [HEN.out] at hj
    obtain ⟨ev, hm2⟩ := HVA.out j hj hy hf
    have e0 := HBY.out hm2
    subst e0
    obtain ⟨b, o, e5, hc⟩ := HVU.out.at (by omega)
    obtain rfl : a = some ⟨b, o, none⟩ := by simpa using e5
    have c1 := hc (j * 2 + 1) (by omega)
    rw [HEC.out, ← Nat.add_assoc, ← ev] at c1
    clear hc hy hf hm2 e5 ev
    go_wp2_with (go_at_call 144; refine (l01Bit _ _).mono ?_; rintro e u ⟨rfl, rfl⟩)
    go_ret3
    exact ⟨⟨_, _, rfl, Lib.hid ⟨by rw [HEN.out]; exact HV2.out, HO2.out, fun _ _ h => h⟩⟩, HB2.out⟩
end Go.Proofs.Ytealdpkgfmokpaa.DoM
