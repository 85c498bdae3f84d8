/-
  What is proved: the law on taking more bytes returns true (the walk), where the package's table holds its words.
-/
import Derived.Test.YtemnnbjmpdfigaaDoorRows
import Derived.Test.YtemnnbjmpdfigaaDoorHashMore
import Derived.Test.YtemnnbjmpdfigaaDoorRoundTab
namespace Go.Proofs.YtemnnbjmpdfigaaDoor.HashMoreLaw
open Go.ChangeShapes Go.WideShapes Go.ChangeAt Go.RowKit
open HashOKc
open MixBlock (Tab)
open HashMore (HO res more_spec more_impl)
set_option linter.unusedVariables false

set_option maxRecDepth 100000 in
set_option maxHeartbeats 1600000 in
theorem walk (x0 x1 x2 x3 x4 x5 x6 x7 : Int) (s t : ByteArray) (n : Int) (w : World) (hs : s.size ≤ maxLen) (htm : t.size ≤ maxLen) (T : Tab w) :
    Calls Tryd.prog 6 #[.agg #[.int .i64 x0, .int .i64 x1, .int .i64 x2, .int .i64 x3, .int .i64 x4, .int .i64 x5, .int .i64 x6, .int .i64 x7, .string s, .int .i64 n], .string t] w fun e w' => e = .returned (.bool true) ∧ Below w.heap.size w w' := by
  have TT := Lib.hid T
  have HTL := Lib.hid T.lt
  clear T
  by_cases ht : 1048576 < t.size
  · have d1 : decide (1048576 < (t.size : Int)) = true := decide_eq_true (by omega)
    unfold maxLen at htm
    go_enter Tryd.func6, Tryd.ntmps6
    go_wp2_with fail
    go_ret
    exact ⟨rfl, (Below.refl _ _).alloc (Nat.le_refl _) _⟩
  have d1 : decide (1048576 < (t.size : Int)) = false := decide_eq_false (by omega)
  by_cases hbig : 1048576 < s.size
  · go_enter Tryd.func6, Tryd.ntmps6
    go_wp2_with fail
    refine (ToHash.szHash _ _ _ _ _ _ _ _ _ _ _ hs).mono ?_
    rintro e w1 ⟨rfl, hb⟩
    have HB := Lib.hid hb
    clear hb
    rw [if_pos hbig]
    go_wp2
    go_ret
    exact ⟨rfl, ((Below.refl _ _).alloc (Nat.le_refl _) _).trans (HB.out.mono (by simp))⟩
  · go_enter Tryd.func6, Tryd.ntmps6
    go_wp2_with fail
    refine (ToHash.szHash _ _ _ _ _ _ _ _ _ _ _ hs).mono ?_
    rintro e w1 ⟨rfl, hb⟩
    obtain ⟨hc1, _⟩ := Eq8.bcell hb
    have hz1 := hb.size
    have HB1 := Lib.hid (((Below.refl w.heap.size w).alloc (Nat.le_refl _) _).trans (hb.mono (by simp)))
    clear hb
    simp only [World.size_alloc] at hc1 hz1
    rw [if_neg hbig]
    have dd : decide (1048576 - (s.size : Int) < 0) = false := by simp; omega
    go_wp2_with fail
    refine (ToHash.toHash _ _ _ _ _ _ _ _ _ _ _).mono ?_
    rintro e w2 ⟨rfl, hb⟩
    obtain ⟨hc2, _⟩ := Eq8.bcell hb
    have hz2 := hb.size
    have HB2 := Lib.hid (HB1.out.trans (hb.mono (by omega)))
    clear hb
    go_wp2_with fail
    refine (more_spec _ _ _ _ _ _ _ _ s t n (by omega) (by omega) _).mono ?_
    rintro e w3 ⟨rfl, hb⟩
    obtain ⟨hc3, _⟩ := Eq8.bcell hb
    have hz3 := hb.size
    have HB3 := Lib.hid (HB2.out.trans (hb.mono (by omega)))
    clear hb
    have l1 : w.heap.size < w1.heap.size := hz1
    have l2 : w.heap.size < w2.heap.size := by omega
    have l3 : w.heap.size < w3.heap.size := by omega
    obtain ⟨o, ho⟩ : ∃ o, res x0 x1 x2 x3 x4 x5 x6 x7 s t n = o := ⟨_, rfl⟩
    rw [ho]
    have HO1 := Lib.hid ho
    clear ho
    obtain ⟨y0, y1, y2, y3, y4, y5, y6, y7, ys, yn, yc⟩ := o
    unfold HO.tup
    simp only []
    go_wp2_with fail
    refine (ToHash.toHash _ _ _ _ _ _ _ _ _ _ _).mono ?_
    rintro e w4 ⟨rfl, hb⟩
    obtain ⟨hc4, _⟩ := Eq8.bcell hb
    have hz4 := hb.size
    have HB4 := Lib.hid ((HB3.out.alloc (by omega) _).trans (hb.mono (by simp; omega)))
    clear hb
    simp only [World.size_alloc] at hc4 hz4
    go_wp2_with fail
    refine (more_impl _ _ _ _ _ _ _ _ s t n (by omega) (by omega) _ (TT.out.below HB4.out HTL.out)).mono ?_
    rintro e w5 ⟨rfl, hb⟩
    rw [HO1.out]
    unfold HO.tup
    simp only []
    obtain ⟨hc5, _⟩ := Eq8.bcell hb
    have hz5 := hb.size
    have HB5 := Lib.hid (HB4.out.trans (hb.mono (by omega)))
    clear hb
    have l4 : w3.heap.size < w4.heap.size := hz4
    have l5 : w3.heap.size < w5.heap.size := by omega
    have l6 : w.heap.size < w4.heap.size := by omega
    go_wp2_with fail
    refine (Eq8.eqHash _ _ _ _ _ _ _ _ _ _ _).mono ?_
    rintro e w6 ⟨rfl, hb⟩
    have HB6 := Lib.hid ((HB5.out.alloc (by omega) _).trans (hb.mono (by simp; omega)))
    clear hb
    go_wp2
    go_ret
    exact ⟨rfl, HB6.out⟩

theorem walk_any {H : Type} {enc : TypeId × Value → H} {W : World} {base b0 : Nat} {spare : Nat → Bool} {held : Bool} {v : Value} {d : DataW H} {p : List MemPlace}
    (o : Value.okWide Tryd.prog W .any b0 40 v) (h : DataW.Trod enc Tryd.prog W base spare held 40 v d p) (t : ByteArray) (ht : t.size ≤ maxLen) (hL : laidMetH Tryd.prog Rows.fnExactHashMoreRow.laid W) :
    Calls Tryd.prog 6 #[v, .string t] W fun e w' => e = .returned (.bool true) ∧ Below W.heap.size W w' := by
  obtain ⟨x0, x1, x2, x3, x4, x5, x6, x7, s, n, rfl, hs, _, _⟩ := ToHash.open_hash o h
  rw [RoundTab.more_list] at hL
  exact walk x0 x1 x2 x3 x4 x5 x6 x7 s t n W hs ht (RoundTab.tab_of hL)
end Go.Proofs.YtemnnbjmpdfigaaDoor.HashMoreLaw
