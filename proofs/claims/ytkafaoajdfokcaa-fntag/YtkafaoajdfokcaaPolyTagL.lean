/-
  What is proved: both ways to make a tag answer one plain function of key and text; the law on them returns true (the walk).
-/
import Derived.Test.YtkafaoajdfokcaaRows
import Derived.Test.YtkafaoajdfokcaaPolyTagI
import Derived.Test.YtkafaoajdfokcaaSpTag
namespace Go.Proofs.Ytkafaoajdfokcaa.PolyTagL
open Go.ChangeShapes Go.WideShapes Go.ChangeAt Go.RowKit
open PolyN (tagT)
set_option linter.unusedVariables false

/-- What both answer. -/
def fault (key t : ByteArray) : Int := if 65536 < t.size then 2 else Clamp.fault key
def res (key t : ByteArray) : Value := .tuple #[.string (if key.size = 32 ∧ t.size ≤ 65536 then tagT key t else ⟨#[]⟩), .int .i64 (fault key t)]

theorem impl (key t : ByteArray) (hk : key.size ≤ maxLen) (ht : t.size ≤ maxLen) (w : World) :
    Calls Try.prog 9 #[.string key, .string t] w fun e w' => e = .returned (res key t) ∧ Below w.heap.size w w' := by
  have HKF := Lib.hid (Clamp.keyFault key hk)
  unfold res fault
  unfold maxLen at ht
  by_cases h1 : 65536 < t.size
  · rw [if_pos h1, if_neg (by omega)]
    go_enter Try.func9, Try.ntmps9
    go_wp2
    go_ret2
    exact ⟨rfl, Below.refl _ _⟩
  · rw [if_neg h1]
    have d1 : decide (65536 < (t.size : Int)) = false := decide_eq_false (by omega)
    by_cases h2 : key.size = 32
    · have hf : Clamp.fault key = 0 := by unfold Clamp.fault; rw [if_neg (by omega), if_pos h2]
      have HCL := Lib.hid (PolyTagI.polyTag key t h2 (by omega))
      rw [if_pos ⟨h2, by omega⟩, hf]
      rw [hf] at HKF
      have HH := Lib.hid h2
      clear h2 hf
      generalize tagT key t = CT at *
      go_enter Try.func9, Try.ntmps9
      go_wp2_with fail
      refine (HKF.out _).mono ?_
      rintro e w1 ⟨rfl, rfl⟩
      go_wp2_with fail
      refine (HCL.out _).mono ?_
      rintro e w2 ⟨rfl, hb⟩
      have HB := Lib.hid hb
      clear hb
      go_wp2
      go_ret2
      exact ⟨rfl, HB.out⟩
    · obtain ⟨c, hc, hc0⟩ : ∃ c : Int, Clamp.fault key = c ∧ (c != 0) = true := by
        unfold Clamp.fault
        split
        · exact ⟨2, rfl, rfl⟩
        · exact ⟨8, rfl, rfl⟩
      rw [if_neg (fun h => h2 h.1), hc]
      rw [hc] at HKF
      go_enter Try.func9, Try.ntmps9
      go_wp2_with fail
      refine (HKF.out _).mono ?_
      rintro e w1 ⟨rfl, rfl⟩
      go_wp2_with fail
      go_ret2
      exact ⟨rfl, Below.refl _ _⟩
theorem spec (key t : ByteArray) (hk : key.size ≤ maxLen) (ht : t.size ≤ maxLen) (w : World) :
    Calls Try.prog 10 #[.string key, .string t] w fun e w' => e = .returned (res key t) ∧ Below w.heap.size w w' := by
  unfold res fault Clamp.fault
  unfold maxLen at hk ht
  by_cases h0 : 65536 < key.size
  · rw [if_neg (fun h => by omega), if_pos h0, show (if 65536 < t.size then (2 : Int) else 2) = 2 by split <;> rfl]
    go_enter Try.func10, Try.ntmps10
    go_wp2
    go_ret2
    exact ⟨rfl, Below.refl _ _⟩
  · have d0 : decide (65536 < (key.size : Int)) = false := decide_eq_false (by omega)
    by_cases h1 : 65536 < t.size
    · rw [if_pos h1, if_neg (by omega)]
      go_enter Try.func10, Try.ntmps10
      go_wp2
      go_ret2
      exact ⟨rfl, Below.refl _ _⟩
    · have d1 : decide (65536 < (t.size : Int)) = false := decide_eq_false (by omega)
      rw [if_neg h1, if_neg h0]
      by_cases h2 : key.size = 32
      · rw [if_pos ⟨h2, by omega⟩, if_pos h2]
        have d2 : ((key.size : Int) != 32) = false := by simp; omega
        have HCL := Lib.hid (SpTag.l03Tag key t h2 (by omega))
        have HH := Lib.hid h2
        clear h2
        generalize tagT key t = CT at *
        go_enter Try.func10, Try.ntmps10
        go_wp2_with fail
        refine (HCL.out _).mono ?_
        rintro e w2 ⟨rfl, hb⟩
        have HB := Lib.hid hb
        clear hb
        go_wp2
        go_ret2
        exact ⟨rfl, HB.out⟩
      · rw [if_neg (fun h => h2 h.1), if_neg h2]
        have d2 : ((key.size : Int) != 32) = true := by simp; omega
        go_enter Try.func10, Try.ntmps10
        go_wp2
        go_ret2
        exact ⟨rfl, Below.refl _ _⟩
theorem res_form (a b : ByteArray) : ∃ (s : ByteArray) (c : Int), res a b = .tuple #[.string s, .int .i64 c] := ⟨_, _, rfl⟩

theorem walk (a b : ByteArray) (ha : a.size ≤ maxLen) (hb : b.size ≤ maxLen) (w : World) :
    Calls Try.prog 5 #[.string a, .string b] w fun e w' => e = .returned (.bool true) ∧ Below w.heap.size w w' := by
  by_cases h1 : 1048576 < a.size
  · unfold maxLen at ha
    go_enter Try.func5, Try.ntmps5
    go_wp2_with fail
    go_ret
    exact ⟨rfl, Below.refl _ _⟩
  · have d1 : decide (1048576 < (a.size : Int)) = false := decide_eq_false (by omega)
    by_cases h2 : 1048576 < b.size
    · unfold maxLen at hb
      go_enter Try.func5, Try.ntmps5
      go_wp2_with fail
      go_ret
      exact ⟨rfl, Below.refl _ _⟩
    · have d2 : decide (1048576 < (b.size : Int)) = false := decide_eq_false (by omega)
      obtain ⟨s, c, hres⟩ := res_form a b
      have HRES := Lib.hid hres
      clear hres
      go_enter Try.func5, Try.ntmps5
      go_wp2_with fail
      refine (spec a b ha hb _).mono ?_
      rw [HRES.out]
      rintro e w1 ⟨rfl, hb1⟩
      have HB := Lib.hid hb1
      clear hb1
      go_wp2_with fail
      refine (impl a b ha hb _).mono ?_
      rw [HRES.out]
      rintro e w2 ⟨rfl, hb2⟩
      have HB2 := Lib.hid hb2
      clear hb2
      go_wp2
      go_ret
      exact ⟨rfl, HB.out.trans (HB2.out.mono HB.out.size)⟩
end Go.Proofs.Ytkafaoajdfokcaa.PolyTagL
