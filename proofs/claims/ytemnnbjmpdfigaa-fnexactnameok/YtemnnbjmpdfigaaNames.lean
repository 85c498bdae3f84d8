/-
  What is proved: the letter and digit tests of names, and the two name tests, are the same plain function of the text (contracts for the walks).
-/
import Derived.Test.YtemnnbjmpdfigaaRows
import Derived.WalkKit
import Derived.WalkLawsBesides
import Derived.ProofKit
import Derived.OpenShut
import Derived.ShutString
import Derived.Deep.QuietTactic
import Derived.BigQuiet
import Derived.Outline
import Derived.Lib.Hide
import Derived.Below
namespace Go.Proofs.Ytemnnbjmpdfigaa.Names
open Go.ChangeShapes Go.WideShapes Go.ChangeAt Go.RowKit

theorem ret_bool {a b : Bool} (h : a = b) : Ending.returned (.bool a) = .returned (.bool b) := by rw [h]
def letterB (n : Int) : Bool := decide (97 ≤ n ∧ n ≤ 122) || decide (65 ≤ n ∧ n ≤ 90) || decide (n = 95)
def digitB (n : Int) : Bool := decide (48 ≤ n ∧ n ≤ 57)

theorem letter_spec (n : Int) (w : World) :
    Calls Try.prog 39 #[.int .u8 n] w fun e w' => e = .returned (.bool (letterB n)) ∧ w = w' := by
  go_enter Try.func39, Try.ntmps39
  go_wp2
  all_goals
    go_ret
    refine ⟨ret_bool ?_, rfl⟩
    unfold letterB
    rw [Bool.eq_iff_iff]
    simp
    try omega
theorem letter_impl (n : Int) (w : World) :
    Calls Try.prog 28 #[.int .u8 n] w fun e w' => e = .returned (.bool (letterB n)) ∧ w = w' := by
  go_enter Try.func28, Try.ntmps28
  go_wp2
  all_goals
    go_ret
    refine ⟨ret_bool ?_, rfl⟩
    unfold letterB
    rw [Bool.eq_iff_iff]
    simp
    try omega
theorem digit_spec (n : Int) (w : World) :
    Calls Try.prog 40 #[.int .u8 n] w fun e w' => e = .returned (.bool (digitB n)) ∧ w = w' := by
  go_enter Try.func40, Try.ntmps40
  go_wp2
  all_goals
    go_ret
    refine ⟨ret_bool ?_, rfl⟩
    unfold digitB
    rw [Bool.eq_iff_iff]
    simp
    try omega
theorem digit_impl (n : Int) (w : World) :
    Calls Try.prog 29 #[.int .u8 n] w fun e w' => e = .returned (.bool (digitB n)) ∧ w = w' := by
  go_enter Try.func29, Try.ntmps29
  go_wp2
  all_goals
    go_ret
    refine ⟨ret_bool ?_, rfl⟩
    unfold digitB
    rw [Bool.eq_iff_iff]
    simp
    try omega

def byteN (s : ByteArray) (j : Nat) : Int := ((s.data.toList.getD j 0).toNat : Int)
theorem byteN_at (s : ByteArray) (j : Nat) (h : j < s.size) : byteN s j = (s[j].toNat : Int) := by
  unfold byteN
  have h2 : j < s.data.toList.length := by simpa using h
  simp [List.getD_eq_getElem?_getD, List.getElem?_eq_getElem h2]
  rfl
def okB (n : Int) : Bool := letterB n || digitB n
/-- a text is a name -/
def nameB (s : ByteArray) : Bool := decide (1 ≤ s.size ∧ s.size ≤ 40) && letterB (byteN s 0) && (List.range s.size).all fun j => j == 0 || okB (byteN s j)

theorem nameB_no (s : ByteArray) (j : Nat) (h1 : 1 ≤ j) (h2 : j < s.size) (h3 : okB (byteN s j) = false) : nameB s = false := by
  unfold nameB
  rw [Bool.and_eq_false_iff]
  right
  rw [List.all_eq_false]
  exact ⟨j, List.mem_range.2 h2, by simp [h3]; omega⟩
theorem nameB_yes (s : ByteArray) (h1 : 1 ≤ s.size) (h2 : s.size ≤ 40) (h3 : letterB (byteN s 0) = true) (h4 : ∀ j, 1 ≤ j → j < s.size → okB (byteN s j) = true) : nameB s = true := by
  unfold nameB
  simp only [Bool.and_eq_true, decide_eq_true_eq, List.all_eq_true, List.mem_range, Bool.or_eq_true, beq_iff_eq]
  refine ⟨⟨⟨h1, h2⟩, h3⟩, fun j hj => ?_⟩
  by_cases h : j = 0
  · exact .inl h
  · exact .inr (h4 j (by omega) hj)
theorem nameB_first (s : ByteArray) (h3 : letterB (byteN s 0) = false) : nameB s = false := by
  unfold nameB; simp [h3]
theorem nameB_size (s : ByteArray) (h : s.size < 1 ∨ 40 < s.size) : nameB s = false := by
  unfold nameB
  have : decide (1 ≤ s.size ∧ s.size ≤ 40) = false := by simp; omega
  simp [this]

set_option maxHeartbeats 400000 in
theorem word_spec (s : ByteArray) (hs : s.size ≤ maxLen) (w : World) :
    Calls Try.prog 27 #[.string s] w fun e w' => e = .returned (.bool (nameB s)) ∧ w = w' := by
  unfold maxLen at hs
  by_cases h1 : s.size < 1
  · have hz := Lib.hid (nameB_size s (.inl h1))
    have d1 : decide ((s.size : Int) < 1) = true := by simp; omega
    go_enter Try.func27, Try.ntmps27
    go_wp2
    go_ret
    exact ⟨ret_bool hz.out.symm, rfl⟩
  · by_cases h2 : 40 < s.size
    · have hz := Lib.hid (nameB_size s (.inr h2))
      have d1 : decide ((s.size : Int) < 1) = false := by simp; omega
      go_enter Try.func27, Try.ntmps27
      go_wp2
      go_ret
      exact ⟨ret_bool hz.out.symm, rfl⟩
    · have hb := Lib.hid (byteN_at s 0 (by omega))
      have d1 : decide ((s.size : Int) < 1) = false := by simp; omega
      have d2 : decide (40 < (s.size : Int)) = false := by simp; omega
      cases hl : letterB (byteN s 0)
      · have hz := Lib.hid (nameB_first s hl)
        have HL := Lib.hid hl
        clear hl
        go_enter Try.func27, Try.ntmps27
        go_wp2_with fail
        refine (letter_spec _ _).mono ?_
        rintro e w' ⟨rfl, rfl⟩
        rw [← hb.out, HL.out]
        go_wp2
        go_ret
        exact ⟨ret_bool hz.out.symm, rfl⟩
      · have HL := Lib.hid hl
        clear hl
        go_enter Try.func27, Try.ntmps27
        go_wp2_with fail
        refine (letter_spec _ _).mono ?_
        rintro e w' ⟨rfl, rfl⟩
        rw [← hb.out, HL.out]
        go_wp2
        go_loop [3] (fun i => ∃ k : Nat, 1 ≤ k ∧ k ≤ s.size ∧ i = .int .i64 k ∧ Hid (∀ j, 1 ≤ j → j < k → okB (byteN s j) = true)) (fun i => s.size - (intOf i).toNat)
        case atStart => exact ⟨1, by omega, by omega, rfl, Lib.hid (fun j a b => by omega)⟩
        case round =>
          obtain ⟨k, hk1, hk2, rfl, H⟩ := hrel
          by_cases hlt : k < s.size
          · have hbk := Lib.hid (byteN_at s k hlt)
            cases h3 : letterB (byteN s k)
            · cases h4 : digitB (byteN s k)
              · have hz := Lib.hid (nameB_no s k hk1 hlt (by simp [okB, h3, h4]))
                have H3 := Lib.hid h3
                have H4 := Lib.hid h4
                clear h3 h4
                go_wp2_with fail
                refine (letter_spec _ _).mono ?_
                rintro e w' ⟨rfl, rfl⟩
                rw [← hbk.out, H3.out]
                go_wp2_with fail
                refine (digit_spec _ _).mono ?_
                rintro e w' ⟨rfl, rfl⟩
                rw [← hbk.out, H4.out]
                go_wp2
                go_ret
                exact ⟨ret_bool hz.out.symm, rfl⟩
              · have hz := Lib.hid (show okB (byteN s k) = true by simp [okB, h4])
                have H3 := Lib.hid h3
                have H4 := Lib.hid h4
                clear h3 h4
                go_wp2_with fail
                refine (letter_spec _ _).mono ?_
                rintro e w' ⟨rfl, rfl⟩
                rw [← hbk.out, H3.out]
                go_wp2_with fail
                refine (digit_spec _ _).mono ?_
                rintro e w' ⟨rfl, rfl⟩
                rw [← hbk.out, H4.out]
                go_wp2
                go_round
                case rel => exact ⟨k + 1, by omega, by omega, by go_num, Lib.hid (fun j a b => by
                  by_cases e : j = k
                  · rw [e]; exact hz.out
                  · exact H.out j a (by omega))⟩
                case measure => simp [intOf]; omega
            · have hz := Lib.hid (show okB (byteN s k) = true by simp [okB, h3])
              have H3 := Lib.hid h3
              clear h3
              go_wp2_with fail
              refine (letter_spec _ _).mono ?_
              rintro e w' ⟨rfl, rfl⟩
              rw [← hbk.out, H3.out]
              go_wp2
              go_round
              case rel => exact ⟨k + 1, by omega, by omega, by go_num, Lib.hid (fun j a b => by
                by_cases e : j = k
                · rw [e]; exact hz.out
                · exact H.out j a (by omega))⟩
              case measure => simp [intOf]; omega
          · have hz := Lib.hid (nameB_yes s (by omega) (by omega) HL.out (fun j a b => H.out j a (by omega)))
            go_wp2
            go_ret
            exact ⟨ret_bool hz.out.symm, rfl⟩

set_option maxHeartbeats 400000 in
theorem name_impl (s : ByteArray) (hs : s.size ≤ maxLen) (w : World) :
    Calls Try.prog 14 #[.string s] w fun e w' => e = .returned (.bool (nameB s)) ∧ w = w' := by
  unfold maxLen at hs
  by_cases h1 : s.size < 1
  · have hz := Lib.hid (nameB_size s (.inl h1))
    have d1 : ((s.size : Int) == 0) = true := beq_iff_eq.2 (by omega)
    go_enter Try.func14, Try.ntmps14
    go_wp2
    go_ret
    exact ⟨ret_bool hz.out.symm, rfl⟩
  · by_cases h2 : 40 < s.size
    · have hz := Lib.hid (nameB_size s (.inr h2))
      have d1 : ((s.size : Int) == 0) = false := beq_eq_false_iff_ne.2 (by omega)
      go_enter Try.func14, Try.ntmps14
      go_wp2
      go_ret
      exact ⟨ret_bool hz.out.symm, rfl⟩
    · have hb := Lib.hid (byteN_at s 0 (by omega))
      have d1 : ((s.size : Int) == 0) = false := beq_eq_false_iff_ne.2 (by omega)
      have d2 : decide (40 < (s.size : Int)) = false := by simp; omega
      cases hl : letterB (byteN s 0)
      · have hz := Lib.hid (nameB_first s hl)
        have HL := Lib.hid hl
        clear hl
        go_enter Try.func14, Try.ntmps14
        go_wp2_with fail
        refine (letter_impl _ _).mono ?_
        rintro e w' ⟨rfl, rfl⟩
        rw [← hb.out, HL.out]
        go_wp2
        go_ret
        exact ⟨ret_bool hz.out.symm, rfl⟩
      · have HL := Lib.hid hl
        clear hl
        go_enter Try.func14, Try.ntmps14
        go_wp2_with fail
        refine (letter_impl _ _).mono ?_
        rintro e w' ⟨rfl, rfl⟩
        rw [← hb.out, HL.out]
        go_wp2
        go_loop [3] (fun i => ∃ k : Nat, 1 ≤ k ∧ k ≤ s.size ∧ i = .int .i64 k ∧ Hid (∀ j, 1 ≤ j → j < k → okB (byteN s j) = true)) (fun i => s.size - (intOf i).toNat)
        case atStart => exact ⟨1, by omega, by omega, rfl, Lib.hid (fun j a b => by omega)⟩
        case round =>
          obtain ⟨k, hk1, hk2, rfl, H⟩ := hrel
          by_cases hlt : k < s.size
          · have hbk := Lib.hid (byteN_at s k hlt)
            cases h3 : letterB (byteN s k)
            · cases h4 : digitB (byteN s k)
              · have hz := Lib.hid (nameB_no s k hk1 hlt (by simp [okB, h3, h4]))
                have H3 := Lib.hid h3
                have H4 := Lib.hid h4
                clear h3 h4
                go_wp2_with fail
                refine (letter_impl _ _).mono ?_
                rintro e w' ⟨rfl, rfl⟩
                rw [← hbk.out, H3.out]
                go_wp2_with fail
                refine (digit_impl _ _).mono ?_
                rintro e w' ⟨rfl, rfl⟩
                rw [← hbk.out, H4.out]
                go_wp2
                go_ret
                exact ⟨ret_bool hz.out.symm, rfl⟩
              · have hz := Lib.hid (show okB (byteN s k) = true by simp [okB, h4])
                have H3 := Lib.hid h3
                have H4 := Lib.hid h4
                clear h3 h4
                go_wp2_with fail
                refine (letter_impl _ _).mono ?_
                rintro e w' ⟨rfl, rfl⟩
                rw [← hbk.out, H3.out]
                go_wp2_with fail
                refine (digit_impl _ _).mono ?_
                rintro e w' ⟨rfl, rfl⟩
                rw [← hbk.out, H4.out]
                go_wp2
                go_round
                case rel => exact ⟨k + 1, by omega, by omega, by go_num, Lib.hid (fun j a b => by
                  by_cases e : j = k
                  · rw [e]; exact hz.out
                  · exact H.out j a (by omega))⟩
                case measure => simp [intOf]; omega
            · have hz := Lib.hid (show okB (byteN s k) = true by simp [okB, h3])
              have H3 := Lib.hid h3
              clear h3
              go_wp2_with fail
              refine (letter_impl _ _).mono ?_
              rintro e w' ⟨rfl, rfl⟩
              rw [← hbk.out, H3.out]
              go_wp2
              go_round
              case rel => exact ⟨k + 1, by omega, by omega, by go_num, Lib.hid (fun j a b => by
                by_cases e : j = k
                · rw [e]; exact hz.out
                · exact H.out j a (by omega))⟩
              case measure => simp [intOf]; omega
          · have hz := Lib.hid (nameB_yes s (by omega) (by omega) HL.out (fun j a b => H.out j a (by omega)))
            go_wp2
            go_ret
            exact ⟨ret_bool hz.out.symm, rfl⟩

theorem name_spec (s : ByteArray) (hs : s.size ≤ maxLen) (w : World) :
    Calls Try.prog 13 #[.string s] w fun e w' => e = .returned (.bool (nameB s)) ∧ w = w' := by
  go_enter Try.func13, Try.ntmps13
  go_wp2_with fail
  refine (word_spec s hs _).mono ?_
  rintro e w' ⟨rfl, rfl⟩
  go_wp2
  go_ret
  exact ⟨rfl, rfl⟩

theorem law (s : ByteArray) (hs : s.size ≤ maxLen) (w : World) :
    Calls Try.prog 4 #[.string s] w fun e w' => e = .returned (.bool true) ∧ w = w' := by
  by_cases h1 : 1048576 < s.size
  · unfold maxLen at hs
    go_enter Try.func4, Try.ntmps4
    go_wp2_with fail
    go_ret
    exact ⟨rfl, rfl⟩
  · have d1 : decide (1048576 < (s.size : Int)) = false := by simp; omega
    go_enter Try.func4, Try.ntmps4
    go_wp2_with fail
    refine (name_spec s hs _).mono ?_
    rintro e w' ⟨rfl, rfl⟩
    go_wp2_with fail
    refine (name_impl s hs _).mono ?_
    rintro e w' ⟨rfl, rfl⟩
    generalize nameB s = b
    cases b
    all_goals
      go_wp2
      go_ret
      exact ⟨rfl, rfl⟩

theorem walk (s : ByteArray) (hs : s.size ≤ maxLen) (w : World) :
    Calls Try.prog 4 #[.string s] w fun e w' => e = .returned (.bool true) ∧ Below w.heap.size w w' :=
  (law s hs w).mono fun _ _ ⟨he, hw⟩ => ⟨he, by rw [← hw]; exact Below.refl _ _⟩
end Go.Proofs.Ytemnnbjmpdfigaa.Names
