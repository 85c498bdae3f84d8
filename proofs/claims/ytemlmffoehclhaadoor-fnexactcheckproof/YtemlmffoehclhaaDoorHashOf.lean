/-
  What is proved: both digests of a text are one plain function (contracts for the walks), where the package's table holds its words.
-/
import Derived.Test.YtemlmffoehclhaaDoorRows
import Derived.Test.YtemlmffoehclhaaDoorNewHashC
import Derived.Test.YtemlmffoehclhaaDoorDigest
import Derived.Test.YtemlmffoehclhaaDoorSum
import Derived.Test.YtemlmffoehclhaaDoorRoundTab
namespace Go.Proofs.YtemlmffoehclhaaDoor.HashOf
open Go.ChangeShapes Go.WideShapes Go.ChangeAt Go.RowKit
open Word
open MixBlock (Tab)
open Absorb (all)
open DigestW (sum)
open With (hv)
open NewHashC (h0 new_spec new_impl)
set_option linter.unusedVariables false

def S0 : St := ⟨1779033703, 3144134277, 1013904242, 2773480762, 1359893119, 2600822924, 528734635, 1541459225⟩
theorem S0_ok : S0.ok := by unfold S0 St.ok; decide
theorem nil_append (t : ByteArray) : (⟨#[]⟩ : ByteArray) ++ t = t := by
  have : (⟨#[]⟩ : ByteArray) = ByteArray.empty := rfl
  rw [this, ByteArray.empty_append]
theorem more0 (t : ByteArray) (ht : t.size ≤ 131072) (w : World) :
    Calls Tryd.prog 71 #[h0, .string t] w fun e' w' => e' = .returned (hv (all S0 t).1 (all S0 t).2 (t.size : Int)) ∧ Below w.heap.size w w' := by
  have h := More.more 1779033703 3144134277 1013904242 2773480762 1359893119 2600822924 528734635 1541459225 S0_ok ⟨#[]⟩ t 0 (by omega) (by omega) (by show 0 ≤ 500000; omega) (by omega) w
  rw [nil_append, Int.zero_add] at h
  exact h
theorem with0 (t : ByteArray) (ht : t.size ≤ 131072) (w : World) (T : Tab w) :
    Calls Tryd.prog 47 #[h0, .string t] w fun e' w' => e' = .returned (hv (all S0 t).1 (all S0 t).2 (t.size : Int)) ∧ Below w.heap.size w w' := by
  have h := With.withImpl 1779033703 3144134277 1013904242 2773480762 1359893119 2600822924 528734635 1541459225 S0_ok ⟨#[]⟩ t 0 (by omega) (by omega) (by show 0 ≤ 1000000; omega) (by omega) w T
  rw [nil_append, Int.zero_add] at h
  exact h
def txt (t : ByteArray) : ByteArray := sum (all S0 t).1 (all S0 t).2 t.size
theorem small (t : ByteArray) : (all S0 t).2.size ≤ 64 := by rw [Absorb.all_size]; omega
theorem sum0 (t : ByteArray) (ht : t.size ≤ 131072) (w : World) :
    Calls Tryd.prog 62 #[hv (all S0 t).1 (all S0 t).2 (t.size : Int)] w fun e' w' => e' = .returned (.string (txt t)) ∧ Below w.heap.size w w' :=
  Sum.sumSpec _ _ _ _ _ _ _ _ (Absorb.all_ok S0 t S0_ok) _ (small t) t.size (by omega) w
theorem digest0 (t : ByteArray) (ht : t.size ≤ 131072) (w : World) (T : Tab w) :
    Calls Tryd.prog 48 #[hv (all S0 t).1 (all S0 t).2 (t.size : Int)] w fun e' w' => e' = .returned (.string (txt t)) ∧ Below w.heap.size w w' :=
  Digest.digest _ _ _ _ _ _ _ _ (Absorb.all_ok S0 t S0_ok) _ (small t) t.size (by omega) w T

set_option maxRecDepth 100000 in
set_option maxHeartbeats 800000 in
theorem of0 (t : ByteArray) (ht : t.size ≤ 131072) (w : World) :
    Calls Tryd.prog 45 #[.string t] w fun e' w' => e' = .returned (.string (txt t)) ∧ Below w.heap.size w w' := by
  have HM := Lib.hid (more0 t ht)
  have HS := Lib.hid (sum0 t ht)
  go_enter Tryd.func45, Tryd.ntmps45
  go_wp2_with fail
  refine (new_spec _).mono ?_
  rintro e w1 ⟨rfl, hb1⟩
  have HB1 := Lib.hid hb1
  clear hb1
  generalize h0 = v0 at HM
  generalize hv (all S0 t).1 (all S0 t).2 (t.size : Int) = v1 at HM HS
  go_wp2_with fail
  refine (HM.out _).mono ?_
  rintro e w2 ⟨rfl, hb2⟩
  have HB2 := Lib.hid (HB1.out.trans (hb2.mono HB1.out.size))
  clear hb2
  go_wp2_with fail
  refine (HS.out _).mono ?_
  rintro e w3 ⟨rfl, hb3⟩
  have HB3 := Lib.hid (HB2.out.trans (hb3.mono HB2.out.size))
  clear hb3
  go_wp2
  go_ret
  exact ⟨rfl, HB3.out⟩

def resO (t : ByteArray) : ByteArray × Int := if 65536 < t.size then (⟨#[]⟩, 2) else (txt t, 0)
theorem resO_long (t : ByteArray) (h : 65536 < t.size) : resO t = (⟨#[]⟩, 2) := by unfold resO; rw [if_pos h]
theorem resO_fine (t : ByteArray) (h : ¬ 65536 < t.size) : resO t = (txt t, 0) := by unfold resO; rw [if_neg h]

set_option maxRecDepth 100000 in
set_option maxHeartbeats 800000 in
theorem of_spec (t : ByteArray) (ht : t.size ≤ 1048576) (w : World) :
    Calls Tryd.prog 15 #[.string t] w fun e' w' => e' = .returned (.tuple #[.string (resO t).1, .int .i64 (resO t).2]) ∧ Below w.heap.size w w' := by
  by_cases h1 : 65536 < t.size
  · rw [resO_long t h1]
    have d1 : decide (65536 < (t.size : Int)) = true := decide_eq_true (by omega)
    go_enter Tryd.func15, Tryd.ntmps15
    go_wp2_with fail
    go_ret2
    exact ⟨rfl, Below.refl _ _⟩
  · rw [resO_fine t h1]
    have d1 : decide (65536 < (t.size : Int)) = false := decide_eq_false (by omega)
    go_enter Tryd.func15, Tryd.ntmps15
    go_wp2_with fail
    refine (of0 t (by omega) _).mono ?_
    rintro e w1 ⟨rfl, hb1⟩
    have HB1 := Lib.hid hb1
    clear hb1
    go_wp2
    go_ret2
    exact ⟨rfl, HB1.out⟩

set_option maxRecDepth 100000 in
set_option maxHeartbeats 800000 in
theorem digestOf (t : ByteArray) (ht : t.size ≤ 131072) (w : World) (T : Tab w) :
    Calls Tryd.prog 44 #[.string t] w fun e' w' => e' = .returned (.string (txt t)) ∧ Below w.heap.size w w' := by
  have TT := Lib.hid T
  have HTL := Lib.hid T.lt
  clear T
  have HM := Lib.hid (with0 t ht)
  have HS := Lib.hid (digest0 t ht)
  go_enter Tryd.func44, Tryd.ntmps44
  go_wp2_with fail
  refine (new_impl _).mono ?_
  rintro e w1 ⟨rfl, hb1⟩
  have HB1 := Lib.hid hb1
  clear hb1
  generalize h0 = v0 at HM
  generalize hv (all S0 t).1 (all S0 t).2 (t.size : Int) = v1 at HM HS
  go_wp2_with fail
  refine (HM.out _ (TT.out.below HB1.out HTL.out)).mono ?_
  rintro e w2 ⟨rfl, hb2⟩
  have HB2 := Lib.hid (HB1.out.trans (hb2.mono HB1.out.size))
  clear hb2
  go_wp2_with fail
  refine (HS.out _ (TT.out.below HB2.out HTL.out)).mono ?_
  rintro e w3 ⟨rfl, hb3⟩
  have HB3 := Lib.hid (HB2.out.trans (hb3.mono HB2.out.size))
  clear hb3
  go_wp2
  go_ret
  exact ⟨rfl, HB3.out⟩

set_option maxRecDepth 100000 in
set_option maxHeartbeats 800000 in
theorem of_impl (t : ByteArray) (ht : t.size ≤ 1048576) (w : World) (T : Tab w) :
    Calls Tryd.prog 14 #[.string t] w fun e' w' => e' = .returned (.tuple #[.string (resO t).1, .int .i64 (resO t).2]) ∧ Below w.heap.size w w' := by
  have TT := Lib.hid T
  have HTL := Lib.hid T.lt
  clear T
  by_cases h1 : 65536 < t.size
  · rw [resO_long t h1]
    have d1 : decide (65536 < (t.size : Int)) = true := decide_eq_true (by omega)
    go_enter Tryd.func14, Tryd.ntmps14
    go_wp2_with fail
    go_ret2
    exact ⟨rfl, Below.refl _ _⟩
  · rw [resO_fine t h1]
    have d1 : decide (65536 < (t.size : Int)) = false := decide_eq_false (by omega)
    go_enter Tryd.func14, Tryd.ntmps14
    go_wp2_with fail
    refine (digestOf t (by omega) _ TT.out).mono ?_
    rintro e w1 ⟨rfl, hb1⟩
    have HB1 := Lib.hid hb1
    clear hb1
    go_wp2
    go_ret2
    exact ⟨rfl, HB1.out⟩

set_option maxRecDepth 100000 in
set_option maxHeartbeats 800000 in
theorem walk (t : ByteArray) (htm : t.size ≤ maxLen) (w : World) (hL : laidMetH Tryd.prog Rows.fnExactHashOfRow.laid w) :
    Calls Tryd.prog 6 #[.string t] w fun e w' => e = .returned (.bool true) ∧ Below w.heap.size w w' := by
  rw [RoundTab.of_list] at hL
  have T := RoundTab.tab_of hL
  clear hL
  have TT := Lib.hid T
  have HTL := Lib.hid T.lt
  clear T
  by_cases ht : 1048576 < t.size
  · have d1 : decide (1048576 < (t.size : Int)) = true := decide_eq_true (by omega)
    unfold maxLen at htm
    go_enter Tryd.func6, Tryd.ntmps6
    go_wp2_with fail
    go_ret
    exact ⟨rfl, Below.refl _ _⟩
  · have d1 : decide (1048576 < (t.size : Int)) = false := decide_eq_false (by omega)
    go_enter Tryd.func6, Tryd.ntmps6
    go_wp2_with fail
    refine (of_spec t (by omega) _).mono ?_
    rintro e w1 ⟨rfl, hb1⟩
    have HB1 := Lib.hid hb1
    clear hb1
    obtain ⟨⟨o, oc⟩, ho⟩ : ∃ o, resO t = o := ⟨_, rfl⟩
    rw [ho]
    have HO1 := Lib.hid ho
    clear ho
    simp only []
    go_wp2_with fail
    refine (of_impl t (by omega) _ (TT.out.below HB1.out HTL.out)).mono ?_
    rintro e w2 ⟨rfl, hb2⟩
    rw [HO1.out]
    have HB2 := Lib.hid (HB1.out.trans (hb2.mono HB1.out.size))
    clear hb2
    go_wp2
    go_ret
    exact ⟨rfl, HB2.out⟩
end Go.Proofs.YtemlmffoehclhaaDoor.HashOf
