/-
  What is proved: both ways to take more bytes are one plain function; the law on them returns true (the walk), where the package's table holds its words.
-/
import Derived.Test.YtemlmffoehclhaaDoorRows
import Derived.Test.YtemlmffoehclhaaDoorHashOKc
import Derived.Test.YtemlmffoehclhaaDoorMore
namespace Go.Proofs.YtemlmffoehclhaaDoor.HashMore
open Go.ChangeShapes Go.WideShapes Go.ChangeAt Go.RowKit
open HashOKc
open Word
open MixBlock (Tab)
open Absorb (all)
open With (hv)
set_option linter.unusedVariables false

/-- A hash and a code, as they are returned. -/
structure HO where
  (y0 y1 y2 y3 y4 y5 y6 y7 : Int)
  (s : ByteArray)
  (n c : Int)
def HO.tup (o : HO) : Value := .tuple #[.agg #[.int .i64 o.y0, .int .i64 o.y1, .int .i64 o.y2, .int .i64 o.y3, .int .i64 o.y4, .int .i64 o.y5, .int .i64 o.y6, .int .i64 o.y7, .string o.s, .int .i64 o.n], .int .i64 o.c]
def none (c : Int) : HO := ⟨0, 0, 0, 0, 0, 0, 0, 0, ⟨#[]⟩, 0, c⟩
def st (x0 x1 x2 x3 x4 x5 x6 x7 : Int) : St := ⟨x0.toNat, x1.toNat, x2.toNat, x3.toNat, x4.toNat, x5.toNat, x6.toNat, x7.toNat⟩
def ofAll (p : St × ByteArray) (n : Int) : HO := ⟨(p.1.a : Int), (p.1.b : Int), (p.1.c : Int), (p.1.d : Int), (p.1.e : Int), (p.1.f : Int), (p.1.g : Int), (p.1.h : Int), p.2, n, 0⟩
def res (x0 x1 x2 x3 x4 x5 x6 x7 : Int) (s t : ByteArray) (n : Int) : HO :=
  if 65536 < t.size then none 2 else if hashB [x0, x1, x2, x3, x4, x5, x6, x7] s n = false then none 1 else if 900000000 < n then ⟨x0, x1, x2, x3, x4, x5, x6, x7, s, n, 7⟩ else ofAll (all (st x0 x1 x2 x3 x4 x5 x6 x7) (s ++ t)) (n + (t.size : Int))
theorem res_long (x0 x1 x2 x3 x4 x5 x6 x7 : Int) (s t : ByteArray) (n : Int) (h : 65536 < t.size) : res x0 x1 x2 x3 x4 x5 x6 x7 s t n = none 2 := by unfold res; rw [if_pos h]
theorem res_bad (x0 x1 x2 x3 x4 x5 x6 x7 : Int) (s t : ByteArray) (n : Int) (h : ¬ 65536 < t.size) (hh : hashB [x0, x1, x2, x3, x4, x5, x6, x7] s n = false) : res x0 x1 x2 x3 x4 x5 x6 x7 s t n = none 1 := by unfold res; rw [if_neg h, if_pos hh]
theorem res_full (x0 x1 x2 x3 x4 x5 x6 x7 : Int) (s t : ByteArray) (n : Int) (h : ¬ 65536 < t.size) (hh : hashB [x0, x1, x2, x3, x4, x5, x6, x7] s n = true) (hn : 900000000 < n) : res x0 x1 x2 x3 x4 x5 x6 x7 s t n = ⟨x0, x1, x2, x3, x4, x5, x6, x7, s, n, 7⟩ := by unfold res; rw [if_neg h, if_neg (by rw [hh]; decide), if_pos hn]
theorem res_fine (x0 x1 x2 x3 x4 x5 x6 x7 : Int) (s t : ByteArray) (n : Int) (h : ¬ 65536 < t.size) (hh : hashB [x0, x1, x2, x3, x4, x5, x6, x7] s n = true) (hn : ¬ 900000000 < n) : res x0 x1 x2 x3 x4 x5 x6 x7 s t n = ofAll (all (st x0 x1 x2 x3 x4 x5 x6 x7) (s ++ t)) (n + (t.size : Int)) := by unfold res; rw [if_neg h, if_neg (by rw [hh]; decide), if_neg hn]
theorem hash_yes (x0 x1 x2 x3 x4 x5 x6 x7 : Int) (s : ByteArray) (n : Int) (h : hashB [x0, x1, x2, x3, x4, x5, x6, x7] s n = true) : (0 ≤ x0 ∧ x0 ≤ 4294967295 ∧ 0 ≤ x1 ∧ x1 ≤ 4294967295 ∧ 0 ≤ x2 ∧ x2 ≤ 4294967295 ∧ 0 ≤ x3 ∧ x3 ≤ 4294967295 ∧ 0 ≤ x4 ∧ x4 ≤ 4294967295 ∧ 0 ≤ x5 ∧ x5 ≤ 4294967295 ∧ 0 ≤ x6 ∧ x6 ≤ 4294967295 ∧ 0 ≤ x7 ∧ x7 ≤ 4294967295) ∧ (0 ≤ n ∧ n ≤ 1000000000) ∧ (s.size : Int) = n % 64 := by
  simp only [hashB, inB, List.all_cons, List.all_nil, Bool.and_eq_true, decide_eq_true_eq, Bool.and_true] at h
  omega

set_option maxRecDepth 100000 in
set_option maxHeartbeats 1600000 in
theorem more_impl (x0 x1 x2 x3 x4 x5 x6 x7 : Int) (s t : ByteArray) (n : Int) (hs : s.size ≤ 1048576) (ht : t.size ≤ 1048576) (w : World) (T : Tab w) :
    Calls Tryd.prog 17 #[.agg #[.int .i64 x0, .int .i64 x1, .int .i64 x2, .int .i64 x3, .int .i64 x4, .int .i64 x5, .int .i64 x6, .int .i64 x7, .string s, .int .i64 n], .string t] w fun e w' => e = .returned (res x0 x1 x2 x3 x4 x5 x6 x7 s t n).tup ∧ Below w.heap.size w w' := by
  by_cases h1 : 65536 < t.size
  · rw [res_long _ _ _ _ _ _ _ _ _ _ _ h1]
    have d1 : decide (65536 < (t.size : Int)) = true := decide_eq_true (by omega)
    go_enter Tryd.func17, Tryd.ntmps17
    go_wp2_with fail
    refine bodyPost_ret (v := (none 2).tup) (by simp [results, Tryd.results17, go_sem, HO.tup, none]) rfl ⟨rfl, ?_⟩
    repeat (first | exact Below.refl _ _ | refine Below.alloc ?_ (by simp; try omega) _ | refine Below.setCell ?_ (by simp; try omega) _)
  · have d1 : decide (65536 < (t.size : Int)) = false := decide_eq_false (by omega)
    cases hh : hashB [x0, x1, x2, x3, x4, x5, x6, x7] s n with
    | false =>
      rw [res_bad _ _ _ _ _ _ _ _ _ _ _ h1 hh]
      go_enter Tryd.func17, Tryd.ntmps17
      go_wp2_with fail
      refine (ok_right _ _ _ _ _ _ _ _ _ _ _ (by unfold maxLen; omega)).mono ?_
      rintro e w1 ⟨rfl, hb⟩
      rw [hh]
      obtain ⟨hc, hf⟩ := Eq8.bcell hb
      have hz := hb.size
      have HB := Lib.hid ((((Below.refl w.heap.size w).alloc (Nat.le_refl _) _).alloc (by simp) _).trans (hb.mono (by simp; try omega)))
      clear hb
      simp only [World.size_alloc] at hc hf hz
      go_wp2
      refine bodyPost_ret (v := (none 1).tup) (by simp [results, Tryd.results17, go_sem, HO.tup, none, hc]) rfl ⟨rfl, ?_⟩
      iterate 10 refine Below.setCell ?_ (by simp; try omega) _
      exact HB.out
    | true =>
      by_cases hn : 900000000 < n
      · rw [res_full _ _ _ _ _ _ _ _ _ _ _ h1 hh hn]
        have d2 : decide (900000000 < n) = true := decide_eq_true hn
        go_enter Tryd.func17, Tryd.ntmps17
        go_wp2_with fail
        refine (ok_right _ _ _ _ _ _ _ _ _ _ _ (by unfold maxLen; omega)).mono ?_
        rintro e w1 ⟨rfl, hb⟩
        rw [hh]
        obtain ⟨hc, hf⟩ := Eq8.bcell hb
        have hz := hb.size
        have HB := Lib.hid ((((Below.refl w.heap.size w).alloc (Nat.le_refl _) _).alloc (by simp) _).trans (hb.mono (by simp; try omega)))
        clear hb
        simp only [World.size_alloc] at hc hf hz
        go_wp2
        refine bodyPost_ret (v := (⟨x0, x1, x2, x3, x4, x5, x6, x7, s, n, 7⟩ : HO).tup) (by simp [results, Tryd.results17, go_sem, HO.tup, hc]) rfl ⟨rfl, ?_⟩
        iterate 10 refine Below.setCell ?_ (by simp; try omega) _
        exact HB.out
      · rw [res_fine _ _ _ _ _ _ _ _ _ _ _ h1 hh hn]
        have d2 : decide (900000000 < n) = false := decide_eq_false hn
        obtain ⟨hst, n0, hbs⟩ := hash_yes x0 x1 x2 x3 x4 x5 x6 x7 s n hh
        have hbs2 : s.size ≤ 64 := by omega
        clear hbs
        obtain ⟨ha0, hb0, ha1, hb1, ha2, hb2, ha3, hb3, ha4, hb4, ha5, hb5, ha6, hb6, ha7, hb7⟩ := hst
        obtain ⟨m0, rfl⟩ := Int.eq_ofNat_of_zero_le ha0
        obtain ⟨m1, rfl⟩ := Int.eq_ofNat_of_zero_le ha1
        obtain ⟨m2, rfl⟩ := Int.eq_ofNat_of_zero_le ha2
        obtain ⟨m3, rfl⟩ := Int.eq_ofNat_of_zero_le ha3
        obtain ⟨m4, rfl⟩ := Int.eq_ofNat_of_zero_le ha4
        obtain ⟨m5, rfl⟩ := Int.eq_ofNat_of_zero_le ha5
        obtain ⟨m6, rfl⟩ := Int.eq_ofNat_of_zero_le ha6
        obtain ⟨m7, rfl⟩ := Int.eq_ofNat_of_zero_le ha7
        have HOK := Lib.hid (show St.ok ⟨m0, m1, m2, m3, m4, m5, m6, m7⟩ from ⟨by show m0 < 4294967296; omega, by show m1 < 4294967296; omega, by show m2 < 4294967296; omega, by show m3 < 4294967296; omega, by show m4 < 4294967296; omega, by show m5 < 4294967296; omega, by show m6 < 4294967296; omega, by show m7 < 4294967296; omega⟩)
        clear ha0 hb0 ha1 hb1 ha2 hb2 ha3 hb3 ha4 hb4 ha5 hb5 ha6 hb6 ha7 hb7
        have hst : st (m0 : Int) (m1 : Int) (m2 : Int) (m3 : Int) (m4 : Int) (m5 : Int) (m6 : Int) (m7 : Int) = ⟨m0, m1, m2, m3, m4, m5, m6, m7⟩ := rfl
        rw [hst]
        clear hst
        have HH := Lib.hid hh
        clear hh
        go_enter Tryd.func17, Tryd.ntmps17
        go_wp2_with fail
        refine (ok_right _ _ _ _ _ _ _ _ _ _ _ (by unfold maxLen; omega)).mono ?_
        rintro e w1 ⟨rfl, hb⟩
        rw [HH.out]
        obtain ⟨hc, hf⟩ := Eq8.bcell hb
        have hz := hb.size
        have HB := Lib.hid ((((Below.refl w.heap.size w).alloc (Nat.le_refl _) _).alloc (by simp) _).trans (hb.mono (by simp; try omega)))
        clear hb
        simp only [World.size_alloc] at hc hf hz
        go_wp2_with fail
        refine (With.withImpl _ _ _ _ _ _ _ _ HOK.out s t n (by omega) (by omega) (by omega) (by omega) _ (T.below HB.out T.lt)).mono ?_
        rintro e w2 ⟨rfl, hb2⟩
        obtain ⟨hc2, hf2⟩ := Eq8.bcell hb2
        have hz2 := hb2.size
        have HB2 := Lib.hid (HB.out.trans (hb2.mono (by omega)))
        clear hb2
        obtain ⟨⟨⟨a, b, c, d, e, f, g, z⟩, bb⟩, hp⟩ : ∃ p, all ⟨m0, m1, m2, m3, m4, m5, m6, m7⟩ (s ++ t) = p := ⟨_, rfl⟩
        rw [hp]
        have HP := Lib.hid hp
        clear hp
        unfold hv
        have l1 : w.heap.size < w1.heap.size := by omega
        have l2 : w.heap.size + 1 < w1.heap.size := by omega
        go_wp2
        refine bodyPost_ret (v := (ofAll (⟨a, b, c, d, e, f, g, z⟩, bb) (n + (t.size : Int))).tup) (by simp [results, Tryd.results17, go_sem, HO.tup, ofAll, hc, hc2, l2]) rfl ⟨by rw [HP.out], ?_⟩
        iterate 10 refine Below.setCell ?_ (by simp; try omega) _
        exact HB2.out

end Go.Proofs.YtemlmffoehclhaaDoor.HashMore
