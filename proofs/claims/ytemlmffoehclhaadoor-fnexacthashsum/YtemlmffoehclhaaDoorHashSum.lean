/-
  What is proved: both digests are one plain function; the law on them returns true (the walk), where the package's table holds its words.
-/
import Derived.Test.YtemlmffoehclhaaDoorRows
import Derived.Test.YtemlmffoehclhaaDoorHashMore
import Derived.Test.YtemlmffoehclhaaDoorDigest
import Derived.Test.YtemlmffoehclhaaDoorSum
import Derived.Test.YtemlmffoehclhaaDoorRoundTab
namespace Go.Proofs.YtemlmffoehclhaaDoor.HashSum
open Go.ChangeShapes Go.WideShapes Go.ChangeAt Go.RowKit
open HashOKc
open Word
open MixBlock (Tab)
open DigestW (sum)
open HashMore (st)
set_option linter.unusedVariables false

def resS (x0 x1 x2 x3 x4 x5 x6 x7 : Int) (s : ByteArray) (n : Int) : ByteArray × Int :=
  if hashB [x0, x1, x2, x3, x4, x5, x6, x7] s n = false then (⟨#[]⟩, 1) else (sum (st x0 x1 x2 x3 x4 x5 x6 x7) s n.toNat, 0)
theorem resS_bad (x0 x1 x2 x3 x4 x5 x6 x7 : Int) (s : ByteArray) (n : Int) (h : hashB [x0, x1, x2, x3, x4, x5, x6, x7] s n = false) : resS x0 x1 x2 x3 x4 x5 x6 x7 s n = (⟨#[]⟩, 1) := by unfold resS; rw [if_pos h]
theorem resS_fine (x0 x1 x2 x3 x4 x5 x6 x7 : Int) (s : ByteArray) (n : Int) (h : hashB [x0, x1, x2, x3, x4, x5, x6, x7] s n = true) : resS x0 x1 x2 x3 x4 x5 x6 x7 s n = (sum (st x0 x1 x2 x3 x4 x5 x6 x7) s n.toNat, 0) := by unfold resS; rw [if_neg (by rw [h]; decide)]

set_option maxRecDepth 100000 in
set_option maxHeartbeats 1600000 in
theorem sum_spec (x0 x1 x2 x3 x4 x5 x6 x7 : Int) (s : ByteArray) (n : Int) (hs : s.size ≤ 1048576) (w : World) :
    Calls Tryd.prog 32 #[.agg #[.int .i64 x0, .int .i64 x1, .int .i64 x2, .int .i64 x3, .int .i64 x4, .int .i64 x5, .int .i64 x6, .int .i64 x7, .string s, .int .i64 n]] w fun e w' => e = .returned (.tuple #[.string (resS x0 x1 x2 x3 x4 x5 x6 x7 s n).1, .int .i64 (resS x0 x1 x2 x3 x4 x5 x6 x7 s n).2]) ∧ Below w.heap.size w w' := by
  cases hh : hashB [x0, x1, x2, x3, x4, x5, x6, x7] s n with
  | false =>
    rw [resS_bad _ _ _ _ _ _ _ _ _ _ hh]
    go_enter Tryd.func32, Tryd.ntmps32
    go_wp2_with fail
    refine (ok_spec _ _ _ _ _ _ _ _ _ _ _ (by unfold maxLen; omega)).mono ?_
    rintro e w1 ⟨rfl, hb⟩
    rw [hh]
    have HB := Lib.hid (((Below.refl w.heap.size w).alloc (Nat.le_refl _) _).trans (hb.mono (by simp)))
    clear hb
    go_wp2
    go_ret2
    exact ⟨rfl, HB.out⟩
  | true =>
    rw [resS_fine _ _ _ _ _ _ _ _ _ _ hh]
    obtain ⟨hst, ⟨n0, n1⟩, hbs⟩ := HashMore.hash_yes x0 x1 x2 x3 x4 x5 x6 x7 s n hh
    have hbs2 : s.size ≤ 64 := by omega
    clear hbs
    obtain ⟨ha0, hb0, ha1, hb1, ha2, hb2, ha3, hb3, ha4, hb4, ha5, hb5, ha6, hb6, ha7, hb7⟩ := hst
    obtain ⟨m0, rfl⟩ := Int.eq_ofNat_of_zero_le ha0
    obtain ⟨m1, rfl⟩ := Int.eq_ofNat_of_zero_le ha1
    obtain ⟨m2, rfl⟩ := Int.eq_ofNat_of_zero_le ha2
    obtain ⟨m3, rfl⟩ := Int.eq_ofNat_of_zero_le ha3
    obtain ⟨m4, rfl⟩ := Int.eq_ofNat_of_zero_le ha4
    obtain ⟨m5, rfl⟩ := Int.eq_ofNat_of_zero_le ha5
    obtain ⟨m6, rfl⟩ := Int.eq_ofNat_of_zero_le ha6
    obtain ⟨m7, rfl⟩ := Int.eq_ofNat_of_zero_le ha7
    obtain ⟨nn, rfl⟩ := Int.eq_ofNat_of_zero_le n0
    have HOK := Lib.hid (show St.ok ⟨m0, m1, m2, m3, m4, m5, m6, m7⟩ from ⟨by show m0 < 4294967296; omega, by show m1 < 4294967296; omega, by show m2 < 4294967296; omega, by show m3 < 4294967296; omega, by show m4 < 4294967296; omega, by show m5 < 4294967296; omega, by show m6 < 4294967296; omega, by show m7 < 4294967296; omega⟩)
    clear ha0 hb0 ha1 hb1 ha2 hb2 ha3 hb3 ha4 hb4 ha5 hb5 ha6 hb6 ha7 hb7
    have hst : st (m0 : Int) (m1 : Int) (m2 : Int) (m3 : Int) (m4 : Int) (m5 : Int) (m6 : Int) (m7 : Int) = ⟨m0, m1, m2, m3, m4, m5, m6, m7⟩ := rfl
    rw [hst, show ((nn : Int)).toNat = nn from rfl]
    clear hst
    have HH := Lib.hid hh
    clear hh
    go_enter Tryd.func32, Tryd.ntmps32
    go_wp2_with fail
    refine (ok_spec _ _ _ _ _ _ _ _ _ _ _ (by unfold maxLen; omega)).mono ?_
    rintro e w1 ⟨rfl, hb⟩
    rw [HH.out]
    obtain ⟨hc, hf⟩ := Eq8.bcell hb
    have hz := hb.size
    have HB := Lib.hid (((Below.refl w.heap.size w).alloc (Nat.le_refl _) _).trans (hb.mono (by simp)))
    clear hb
    simp only [World.size_alloc] at hc hf hz
    go_wp2_with fail
    refine (Sum.sumSpec _ _ _ _ _ _ _ _ HOK.out s (by omega) nn (by omega) _).mono ?_
    rintro e w2 ⟨rfl, hb2⟩
    have HB2 := Lib.hid (HB.out.trans (hb2.mono (by omega)))
    clear hb2
    obtain ⟨r, hr⟩ : ∃ r, sum ⟨m0, m1, m2, m3, m4, m5, m6, m7⟩ s nn = r := ⟨_, rfl⟩
    rw [hr]
    have HRR := Lib.hid hr
    clear hr
    go_wp2
    go_ret2
    exact ⟨by rw [HRR.out]; rfl, HB2.out⟩


set_option maxRecDepth 100000 in
set_option maxHeartbeats 1600000 in
theorem sum_impl (x0 x1 x2 x3 x4 x5 x6 x7 : Int) (s : ByteArray) (n : Int) (hs : s.size ≤ 1048576) (w : World) (T : Tab w) :
    Calls Tryd.prog 19 #[.agg #[.int .i64 x0, .int .i64 x1, .int .i64 x2, .int .i64 x3, .int .i64 x4, .int .i64 x5, .int .i64 x6, .int .i64 x7, .string s, .int .i64 n]] w fun e w' => e = .returned (.tuple #[.string (resS x0 x1 x2 x3 x4 x5 x6 x7 s n).1, .int .i64 (resS x0 x1 x2 x3 x4 x5 x6 x7 s n).2]) ∧ Below w.heap.size w w' := by
  cases hh : hashB [x0, x1, x2, x3, x4, x5, x6, x7] s n with
  | false =>
    rw [resS_bad _ _ _ _ _ _ _ _ _ _ hh]
    go_enter Tryd.func19, Tryd.ntmps19
    go_wp2_with fail
    refine (ok_right _ _ _ _ _ _ _ _ _ _ _ (by unfold maxLen; omega)).mono ?_
    rintro e w1 ⟨rfl, hb⟩
    rw [hh]
    have HB := Lib.hid (((Below.refl w.heap.size w).alloc (Nat.le_refl _) _).trans (hb.mono (by simp)))
    clear hb
    go_wp2
    go_ret2
    exact ⟨rfl, HB.out⟩
  | true =>
    rw [resS_fine _ _ _ _ _ _ _ _ _ _ hh]
    obtain ⟨hst, ⟨n0, n1⟩, hbs⟩ := HashMore.hash_yes x0 x1 x2 x3 x4 x5 x6 x7 s n hh
    have hbs2 : s.size ≤ 64 := by omega
    clear hbs
    obtain ⟨ha0, hb0, ha1, hb1, ha2, hb2, ha3, hb3, ha4, hb4, ha5, hb5, ha6, hb6, ha7, hb7⟩ := hst
    obtain ⟨m0, rfl⟩ := Int.eq_ofNat_of_zero_le ha0
    obtain ⟨m1, rfl⟩ := Int.eq_ofNat_of_zero_le ha1
    obtain ⟨m2, rfl⟩ := Int.eq_ofNat_of_zero_le ha2
    obtain ⟨m3, rfl⟩ := Int.eq_ofNat_of_zero_le ha3
    obtain ⟨m4, rfl⟩ := Int.eq_ofNat_of_zero_le ha4
    obtain ⟨m5, rfl⟩ := Int.eq_ofNat_of_zero_le ha5
    obtain ⟨m6, rfl⟩ := Int.eq_ofNat_of_zero_le ha6
    obtain ⟨m7, rfl⟩ := Int.eq_ofNat_of_zero_le ha7
    obtain ⟨nn, rfl⟩ := Int.eq_ofNat_of_zero_le n0
    have HOK := Lib.hid (show St.ok ⟨m0, m1, m2, m3, m4, m5, m6, m7⟩ from ⟨by show m0 < 4294967296; omega, by show m1 < 4294967296; omega, by show m2 < 4294967296; omega, by show m3 < 4294967296; omega, by show m4 < 4294967296; omega, by show m5 < 4294967296; omega, by show m6 < 4294967296; omega, by show m7 < 4294967296; omega⟩)
    clear ha0 hb0 ha1 hb1 ha2 hb2 ha3 hb3 ha4 hb4 ha5 hb5 ha6 hb6 ha7 hb7
    have hst : st (m0 : Int) (m1 : Int) (m2 : Int) (m3 : Int) (m4 : Int) (m5 : Int) (m6 : Int) (m7 : Int) = ⟨m0, m1, m2, m3, m4, m5, m6, m7⟩ := rfl
    rw [hst, show ((nn : Int)).toNat = nn from rfl]
    clear hst
    have HH := Lib.hid hh
    clear hh
    go_enter Tryd.func19, Tryd.ntmps19
    go_wp2_with fail
    refine (ok_right _ _ _ _ _ _ _ _ _ _ _ (by unfold maxLen; omega)).mono ?_
    rintro e w1 ⟨rfl, hb⟩
    rw [HH.out]
    obtain ⟨hc, hf⟩ := Eq8.bcell hb
    have hz := hb.size
    have HB := Lib.hid (((Below.refl w.heap.size w).alloc (Nat.le_refl _) _).trans (hb.mono (by simp)))
    clear hb
    simp only [World.size_alloc] at hc hf hz
    go_wp2_with fail
    refine (Digest.digest _ _ _ _ _ _ _ _ HOK.out s (by omega) nn (by omega) _ (T.below HB.out T.lt)).mono ?_
    rintro e w2 ⟨rfl, hb2⟩
    have HB2 := Lib.hid (HB.out.trans (hb2.mono (by omega)))
    clear hb2
    obtain ⟨r, hr⟩ : ∃ r, sum ⟨m0, m1, m2, m3, m4, m5, m6, m7⟩ s nn = r := ⟨_, rfl⟩
    rw [hr]
    have HRR := Lib.hid hr
    clear hr
    go_wp2
    go_ret2
    exact ⟨by rw [HRR.out]; rfl, HB2.out⟩


set_option maxRecDepth 100000 in
set_option maxHeartbeats 1600000 in
theorem walk (x0 x1 x2 x3 x4 x5 x6 x7 : Int) (s : ByteArray) (n : Int) (w : World) (hs : s.size ≤ maxLen) (T : Tab w) :
    Calls Tryd.prog 5 #[.agg #[.int .i64 x0, .int .i64 x1, .int .i64 x2, .int .i64 x3, .int .i64 x4, .int .i64 x5, .int .i64 x6, .int .i64 x7, .string s, .int .i64 n]] w fun e w' => e = .returned (.bool true) ∧ Below w.heap.size w w' := by
  have TT := Lib.hid T
  have HTL := Lib.hid T.lt
  clear T
  by_cases hbig : 1048576 < s.size
  · go_enter Tryd.func5, Tryd.ntmps5
    go_wp2_with fail
    refine (ToHash.szHash _ _ _ _ _ _ _ _ _ _ _ hs).mono ?_
    rintro e w1 ⟨rfl, hb⟩
    have HB := Lib.hid hb
    clear hb
    rw [if_pos hbig]
    go_wp2
    go_ret
    exact ⟨rfl, ((Below.refl _ _).alloc (Nat.le_refl _) _).trans (HB.out.mono (by simp))⟩
  · go_enter Tryd.func5, Tryd.ntmps5
    go_wp2_with fail
    refine (ToHash.szHash _ _ _ _ _ _ _ _ _ _ _ hs).mono ?_
    rintro e w1 ⟨rfl, hb⟩
    obtain ⟨hc1, _⟩ := Eq8.bcell hb
    have hz1 := hb.size
    have HB1 := Lib.hid (((Below.refl w.heap.size w).alloc (Nat.le_refl _) _).trans (hb.mono (by simp)))
    clear hb
    simp only [World.size_alloc] at hc1 hz1
    rw [if_neg hbig]
    have dd : decide (1048576 - (s.size : Int) < 0) = false := by simp; omega
    go_wp2_with fail
    refine (ToHash.toHash _ _ _ _ _ _ _ _ _ _ _).mono ?_
    rintro e w2 ⟨rfl, hb⟩
    obtain ⟨hc2, _⟩ := Eq8.bcell hb
    have hz2 := hb.size
    have HB2 := Lib.hid (HB1.out.trans (hb.mono (by omega)))
    clear hb
    go_wp2_with fail
    refine (sum_spec _ _ _ _ _ _ _ _ s n (by omega) _).mono ?_
    rintro e w3 ⟨rfl, hb⟩
    obtain ⟨hc3, _⟩ := Eq8.bcell hb
    have hz3 := hb.size
    have HB3 := Lib.hid (HB2.out.trans (hb.mono (by omega)))
    clear hb
    have l1 : w.heap.size < w1.heap.size := hz1
    have l2 : w.heap.size < w2.heap.size := by omega
    have l3 : w.heap.size < w3.heap.size := by omega
    obtain ⟨⟨o, oc⟩, ho⟩ : ∃ o, resS x0 x1 x2 x3 x4 x5 x6 x7 s n = o := ⟨_, rfl⟩
    rw [ho]
    have HO1 := Lib.hid ho
    clear ho
    simp only []
    go_wp2_with fail
    refine (ToHash.toHash _ _ _ _ _ _ _ _ _ _ _).mono ?_
    rintro e w4 ⟨rfl, hb⟩
    have hz4 := hb.size
    have HB4 := Lib.hid (HB3.out.trans (hb.mono (by omega)))
    clear hb
    go_wp2_with fail
    refine (sum_impl _ _ _ _ _ _ _ _ s n (by omega) _ (TT.out.below HB4.out HTL.out)).mono ?_
    rintro e w5 ⟨rfl, hb⟩
    rw [HO1.out]
    have HB5 := Lib.hid (HB4.out.trans (hb.mono (by omega)))
    clear hb
    go_wp2
    go_ret
    exact ⟨rfl, HB5.out⟩

theorem walk_any {H : Type} {enc : TypeId × Value → H} {W : World} {base b0 : Nat} {spare : Nat → Bool} {held : Bool} {v : Value} {d : DataW H} {p : List MemPlace}
    (o : Value.okWide Tryd.prog W .any b0 45 v) (h : DataW.Trod enc Tryd.prog W base spare held 45 v d p) (hL : laidMetH Tryd.prog Rows.fnExactHashSumRow.laid W) :
    Calls Tryd.prog 5 #[v] W fun e w' => e = .returned (.bool true) ∧ Below W.heap.size W w' := by
  obtain ⟨x0, x1, x2, x3, x4, x5, x6, x7, s, n, rfl, hs, _, _⟩ := ToHash.open_hash o h
  rw [RoundTab.sum_list] at hL
  exact walk x0 x1 x2 x3 x4 x5 x6 x7 s n W hs (RoundTab.tab_of hL)
end Go.Proofs.YtemlmffoehclhaaDoor.HashSum
