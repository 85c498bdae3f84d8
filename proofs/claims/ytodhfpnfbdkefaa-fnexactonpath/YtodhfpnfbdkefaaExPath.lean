/-
  What is proved: the exact laws on ways (PathOf, OnPath) return true (the walks).
-/
import Derived.Test.YtodhfpnfbdkefaaRows
import Derived.Test.YtodhfpnfbdkefaaWyS
import Derived.Test.YtodhfpnfbdkefaaHeldN
namespace Go.Proofs.Ytodhfpnfbdkefaa.ExPath
open Go.ChangeShapes Go.WideShapes Go.ChangeAt Go.RowKit
open Sl (Sl Own Off)
open OpenSl (tc nc pc)
open Dev Wy WyS
set_option linter.unusedVariables false

set_option maxRecDepth 100000 in
set_option maxHeartbeats 1600000 in
theorem walkOn (b z : Int) (w : World) :
    Calls Try.prog 8 #[.int .i64 b, .int .i64 z] w fun e w' => e = .returned (.bool true) ∧ Below w.heap.size w w' := by
  have HS := Lib.hid (specOn b z)
  have HI := Lib.hid (implOn b z)
  generalize onB b z = q at *
  generalize onC b z = c at *
  have b1 : (q != q) = false := by simp
  have b2 : (c != c) = false := by simp
  go_enter Try.func8, Try.ntmps8
  go_wp2_with fail
  refine (HS.out w).mono ?_
  rintro e w1 ⟨rfl, hb⟩
  have HB1 := Lib.hid hb
  clear hb
  go_wp2_with fail
  refine (HI.out w1).mono ?_
  rintro e w2 ⟨rfl, hb⟩
  have HB2 := Lib.hid (HB1.out.trans (hb.mono HB1.out.size))
  clear hb HB1
  go_wp2
  go_ret
  exact ⟨rfl, HB2.out⟩

theorem pathL_len (z : Int) : (pathL z).length ≤ 4 := by unfold pathL; split <;> simp [wl]
set_option maxRecDepth 100000 in
set_option maxHeartbeats 1600000 in
theorem walkPath (z : Int) (w : World) :
    Calls Try.prog 7 #[.int .i64 z] w fun e w' => e = .returned (.bool true) ∧ Below w.heap.size w w' := by
  have HS := Lib.hid (specPath z)
  have HI := Lib.hid (implPath z)
  have HQ := Lib.hid (fun u x y hx hy => LawN.eqIntS u x y (pathL z) hx hy)
  have hn := pathL_len z
  generalize nc (pathL z) = C at *
  generalize (pathL z).length = n at *
  generalize pathC z = cd at *
  have HM := Lib.hid (fun u base x c (h : Own u base 1 x n c) => LawN.markIntS u base x n c h 1 (by omega))
  have HH := Lib.hid (fun u x (h : Sl u 1 x n (LawN.mi 1)) => HeldN.heldIntS u x n 1 h (by omega))
  obtain ⟨n1, en1⟩ : ∃ n1, 1 + n = n1 := ⟨_, rfl⟩
  rw [en1] at HM HH
  have p1 : ¬ (n1 : Int) < 0 := by omega
  have b1 : ((n1 : Int) != (n1 : Int)) = false := by simp
  have b2 : (cd != cd) = false := by simp
  clear en1
  go_enter Try.func7, Try.ntmps7
  go_wp2_with fail
  refine (HS.out _).mono ?_
  rintro e w1 ⟨r1, rfl, ho1, hb1⟩
  have HO1 := Lib.hid ho1
  have HB1 := Lib.hid hb1
  clear ho1 hb1 HS
  go_wp2_with fail
  refine (HI.out _).mono ?_
  rintro e w2 ⟨r2, rfl, ho2, hb2⟩
  have HAP := Lib.hid (show Apart r1 r2 from apart_of HO1.out.sl (by omega) ho2 (Nat.le_refl _))
  have HO2 := Lib.hid ho2
  have HP1 := Lib.hid (HO1.out.below hb2)
  have HB2 := Lib.hid (And.intro (HB1.out.trans (hb2.mono HB1.out.size)) HB1.out.size)
  clear ho2 hb2 HB1 HO1
  go_wp2_with fail
  refine (HQ.out _ _ _ HO2.out.sl HP1.out.sl).mono ?_
  rintro e w3 ⟨rfl, hb⟩
  have HP2 := Lib.hid (HP1.out.below hb)
  have HO3 := Lib.hid (HO2.out.below hb)
  have HB3 := Lib.hid (And.intro (HB2.out.1.trans (hb.mono HB2.out.1.size)) HB2.out.2)
  clear hb HB2 HO2 HP1
  go_wp2_with fail
  refine (HM.out _ _ _ _ HO3.out).mono ?_
  rintro e w4 ⟨rfl, ho4, ht⟩
  have HP3 := Lib.hid (own_turns HP2.out ht (by
    intro u hu
    obtain rfl := List.mem_singleton.1 hu
    exact HAP.out))
  have HB4 := Lib.hid (show Below w.heap.size w w4 from HB3.out.1.trans (ht.below HB3.out.1.size (by
    intro u hu k hk
    obtain rfl := List.mem_singleton.1 hu
    exact own_low HO3.out k (Nat.lt_of_lt_of_le hk HB3.out.2))))
  have HO4 := Lib.hid ho4
  clear ho4 ht HB3 HP2 HO3
  go_wp2_with fail
  refine (HH.out _ _ HO4.out.sl).mono ?_
  rintro e w5 ⟨rfl, hb⟩
  have HP4 := Lib.hid (HP3.out.below hb)
  have HO5 := Lib.hid (HO4.out.below hb)
  have HB5 := Lib.hid (HB4.out.trans (hb.mono HB4.out.size))
  clear hb HB4 HO4 HP3
  go_wp2_with fail
  refine (HI.out _).mono ?_
  rintro e w6 ⟨r6, rfl, ho6, hb⟩
  have HO6 := Lib.hid ho6
  have HP5 := Lib.hid (HP4.out.below hb)
  have HO7 := Lib.hid (HO5.out.below hb)
  have HB6 := Lib.hid (HB5.out.trans (hb.mono HB5.out.size))
  clear hb HB5 HO5 HP4 ho6
  go_wp2_with fail
  refine (HQ.out _ _ _ HO6.out.sl HP5.out.sl).mono ?_
  rintro e w7 ⟨rfl, hb⟩
  have HO8 := Lib.hid (HO7.out.below hb)
  have HB7 := Lib.hid (HB6.out.trans (hb.mono HB6.out.size))
  clear hb HB6 HO7 HP5 HO6
  go_wp2_with fail
  refine (HH.out _ _ HO8.out.sl).mono ?_
  rintro e w8 ⟨rfl, hb⟩
  have HB8 := Lib.hid (HB7.out.trans (hb.mono HB7.out.size))
  clear hb HB7
  go_wp2
  go_ret
  exact ⟨rfl, HB8.out⟩
end Go.Proofs.Ytodhfpnfbdkefaa.ExPath
