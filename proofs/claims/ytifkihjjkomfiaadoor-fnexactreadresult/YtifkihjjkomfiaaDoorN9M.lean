/-
  What is proved: the model's reading of a number as it is told (a contract for the walks).
-/
import Derived.Test.YtifkihjjkomfiaaDoorRows
import Derived.Test.YtifkihjjkomfiaaDoorNumMr
namespace Go.Proofs.YtifkihjjkomfiaaDoor.N9M
open Go.ChangeShapes Go.WideShapes Go.ChangeAt Go.RowKit
open Dev Txt TxtRr Dig
set_option linter.unusedVariables false

/-- What reading a number as it is told tells. -/
def N9 (L : B) (n : Int) (q : Bool) : Prop := (q = true → ∃ m : Nat, m < 1000000000000000000 ∧ n = m ∧ L = Lib.decDigits m) ∧ ∀ m : Nat, m < 1000000000000000000 → L = Lib.decDigits m → n = m ∧ q = true
def N9Post (L : B) (e : Ending) : Prop := ∃ (n : Int) (q : Bool), e = .returned (.tuple #[.int .i64 n, .bool q]) ∧ Hid (N9 L n q)
theorem ds_eq (m : Nat) (s : ByteArray) : ((ds m).toList == s.toList) = decide (Lib.decDigits m = s.data.toList) := by
  rw [ByteArray.toList_eq, ByteArray.toList_eq]
  show (Lib.decDigits m == s.data.toList) = _
  by_cases h : Lib.decDigits m = s.data.toList
  · rw [h]; simp
  · rw [decide_eq_false h]; exact beq_eq_false_iff_ne.2 h
set_option maxRecDepth 100000 in
set_option maxHeartbeats 1600000 in
theorem l09Number (s : ByteArray) (hs : s.size ≤ 65536) (w : World) :
    Calls Tryd.prog 23 #[.string s] w fun e w' => N9Post s.data.toList e ∧ Below w.heap.size w w' := by
  have HN := Lib.hid (fun u => NumMr.l00Number s hs u)
  have HD := Lib.hid (fun (m : Nat) (hm : m < 1000000000000000000) u => l00Digits m hm u)
  have HE := Lib.hid (fun m => ds_eq m s)
  generalize s.data.toList = L at *
  go_enter Tryd.func23, Tryd.ntmps23
  go_wp2_with fail
  refine (HN.out _).mono ?_
  rintro e w1 ⟨⟨n, q, rfl, hn⟩, rfl⟩
  cases q with
  | false =>
    have HF := Lib.hid (show N9 L n false from ⟨fun h => (by cases h), fun m hm e => by have := (hn.out.2.2 m hm e).2; cases this⟩)
    clear hn
    go_wp2_with fail
    go_ret2
    exact ⟨⟨_, _, rfl, HF⟩, Below.refl _ _⟩
  | true =>
    by_cases h0 : 0 ≤ n
    · obtain ⟨m, rfl⟩ : ∃ m : Nat, n = m := ⟨n.toNat, by omega⟩
      have hm : m < 1000000000000000000 := by have := hn.out.2.1; omega
      have HU := Lib.hid (fun k (hk : k < 1000000000000000000) (e : L = Lib.decDigits k) => (hn.out.2.2 k hk e).1)
      have HDm := Lib.hid (fun u => HD.out m hm u)
      have HEm := Lib.hid (HE.out m)
      clear hn HE HD
      go_wp2_with fail
      refine (HDm.out _).mono ?_
      rintro e w2 ⟨rfl, hb⟩
      have HB := Lib.hid hb
      by_cases h : Lib.decDigits m = L
      · have b : ((ds m).toList == s.toList) = true := by rw [HEm.out]; exact decide_eq_true h
        have HF := Lib.hid (show N9 L (m : Int) true from ⟨fun _ => ⟨m, hm, rfl, h.symm⟩, fun k hk e => ⟨HU.out k hk e, rfl⟩⟩)
        clear h hb
        generalize ds m = dt at *
        go_wp2_with fail
        go_ret2
        exact ⟨⟨_, _, rfl, HF⟩, HB.out⟩
      · have b : ((ds m).toList == s.toList) = false := by rw [HEm.out]; exact decide_eq_false h
        have HF := Lib.hid (show N9 L (m : Int) false from ⟨fun h => (by cases h), fun k hk e => absurd (show Lib.decDigits m = L from by rw [show m = k by have := HU.out k hk e; omega]; exact e.symm) h⟩)
        clear h hb
        generalize ds m = dt at *
        go_wp2_with fail
        go_ret2
        exact ⟨⟨_, _, rfl, HF⟩, HB.out⟩
    · have g0 : ¬ (0 : Int) ≤ n := h0
      have HF := Lib.hid (show N9 L n false from ⟨fun h => (by cases h), fun m hm e => by have := (hn.out.2.2 m hm e).1; omega⟩)
      clear hn h0
      go_wp2_with fail
      go_ret2
      exact ⟨⟨_, _, rfl, HF⟩, Below.refl _ _⟩

end Go.Proofs.YtifkihjjkomfiaaDoor.N9M
