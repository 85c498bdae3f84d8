/-
  What is proved: the laws' functions that mark a result's numbers and find them marked (contracts for the walks).
-/
import Derived.Test.YtealdpkgfmokpaaRows
import Derived.Test.YtealdpkgfmokpaaLawR
import Derived.Test.YtealdpkgfmokpaaHeldN
namespace Go.Proofs.Ytealdpkgfmokpaa.LawM
open Go.ChangeShapes Go.WideShapes Go.ChangeAt Go.RowKit
open Sl (Sl Own Off)
open Dev Box2 LawR
set_option linter.unusedVariables false

set_option maxRecDepth 100000 in
theorem markResult (w : World) (base : Nat) (r : Int) (v : Value) (n : Nat) (c : Nat → Value) (h : Own w base 1 v n c) (k : Nat) (hk : k + n ≤ 10000000) :
    Calls Try.prog 30 #[.agg #[.int .i64 r, v], .int .i64 k] w fun e w' => e = .returned (.int .i64 ((k + n : Nat) : Int)) ∧ Own w' base 1 v n (LawN.mi k) ∧ Turns [v] w w' := by
  obtain ⟨U, e1, hb, hz, X⟩ := box2 w 49 (.int .i64 r) v
  obtain ⟨G, eG⟩ : ∃ G, w.heap.size = G := ⟨_, rfl⟩
  have HB := Lib.hid hb
  have HK := Lib.hid (LawN.markIntS U base v n c (h.below hb) k hk)
  rw [eG] at X
  obtain ⟨c0, c1, _, _⟩ := X
  obtain ⟨M, eM⟩ : ∃ M, k + n = M := ⟨_, rfl⟩
  rw [eM] at HK ⊢
  clear hb hz h eM
  go_enter Try.func30, Try.ntmps30
  go_wp2_with fail
  clear e1 eG
  refine HK.out.mono ?_
  rintro e w1 ⟨rfl, ho, ht⟩
  have HO := Lib.hid ho
  have HT := Lib.hid ((Turns.of_below (vs := [v]) HB.out).trans ht)
  clear ho ht
  go_wp2_with fail
  go_ret
  exact ⟨rfl, HO.out, HT.out⟩
set_option maxRecDepth 100000 in
theorem heldResult (w : World) (r : Int) (v : Value) (n : Nat) (k : Nat) (h : Sl w 1 v n (LawN.mi k)) (hk : k + n ≤ 10000000) :
    Calls Try.prog 32 #[.agg #[.int .i64 r, v], .int .i64 k] w fun e w' => e = .returned (.int .i64 ((k + n : Nat) : Int)) ∧ Below w.heap.size w w' := by
  obtain ⟨U, e1, hb, hz, X⟩ := box2 w 49 (.int .i64 r) v
  obtain ⟨G, eG⟩ : ∃ G, w.heap.size = G := ⟨_, rfl⟩
  have HB := Lib.hid hb
  have HK := Lib.hid (HeldN.heldIntS U v n k (h.below hb) hk)
  rw [eG] at X
  obtain ⟨c0, c1, _, _⟩ := X
  obtain ⟨M, eM⟩ : ∃ M, k + n = M := ⟨_, rfl⟩
  rw [eM] at HK ⊢
  have hM : ¬ (M : Int) < 0 := by omega
  clear hb hz h eM
  go_enter Try.func32, Try.ntmps32
  go_wp2_with fail
  clear e1 eG
  refine HK.out.mono ?_
  rintro e w1 ⟨rfl, hb⟩
  have HB2 := Lib.hid (HB.out.trans (hb.mono HB.out.size))
  clear hb
  go_wp2_with fail
  go_ret
  exact ⟨rfl, HB2.out⟩
end Go.Proofs.Ytealdpkgfmokpaa.LawM
