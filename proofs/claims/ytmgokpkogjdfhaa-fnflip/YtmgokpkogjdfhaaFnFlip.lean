/-
  What is proved: the law on flips (a byte that is changed twice by the same is what it was, and all else stays) returns true (the walk).
-/
import Derived.Test.YtmgokpkogjdfhaaRows
import Derived.Test.YtmgokpkogjdfhaaEx
import Derived.Test.YtmgokpkogjdfhaaDeviceOf
import Derived.Test.YtmgokpkogjdfhaaAt
import Derived.Test.YtmgokpkogjdfhaaSyncs
import Derived.Test.YtmgokpkogjdfhaaSameL
namespace Go.Proofs.Ytmgokpkogjdfhaa.FnFlip
open Go.ChangeShapes Go.WideShapes Go.ChangeAt Go.RowKit
open Sl (Sl Own Off)
open OpenSl (tc nc pc)
open Dev Ex
open Src (IsRow)
set_option linter.unusedVariables false

set_option maxRecDepth 100000 in
set_option maxHeartbeats 6400000 in
theorem walk (a0 : Option Addr) (len0 cap0 : Nat) (z0 : List Int) (a1 : Option Addr) (len1 cap1 : Nat) (z1 : List Int) (w : World) (h0 : IsRow .u8 w a0 len0 cap0 z0) (h1 : IsRow .u8 w a1 len1 cap1 z1) :
    Calls Try.prog 4 #[.slice a0 len0 cap0, .slice a1 len1 cap1] w fun e w' => e = .returned (.bool true) ∧ Below w.heap.size w w' := by
  have m0 := h0.code.1
  have m1 := h1.code.1
  unfold maxLen at m0 m1
  have H0 := Lib.hid h0
  have H1 := Lib.hid h1
  clear h0 h1
  by_cases b0 : 1048576 < len0
  · go_enter Try.func4, Try.ntmps4
    go_wp2_with fail
    go_ret
    exact ⟨rfl, Below.refl _ _⟩
  have d0 : decide (1048576 < (len0 : Int)) = false := decide_eq_false (by omega)
  by_cases b1 : 1048576 < len1
  · go_enter Try.func4, Try.ntmps4
    go_wp2_with fail
    go_ret
    exact ⟨rfl, Below.refl _ _⟩
  have d1 : decide (1048576 < (len1 : Int)) = false := decide_eq_false (by omega)
  have hl1 : len1 ≤ 1048576 := by omega
  clear b0 b1 m0 m1
  obtain ⟨xr, exr⟩ : ∃ xr, ([] : List (Int × ByteArray)) = xr := ⟨_, rfl⟩
  have EXR := Lib.hid exr
  clear exr
  have HB0 := Lib.hid (Below.refl w.heap.size w)
  go_enter Try.func4, Try.ntmps4
  go_wp2_with fail
  clear d0 d1
  refine (DeviceOf.deviceOf w a0 len0 cap0 z0 H0.out).mono ?_
  rintro e u1 ⟨r1, ts0, xs0, rfl, hrt, ho, hb⟩
  have HRT0 := Lib.hid hrt
  have HO0 := Lib.hid ho
  clear hrt ho
  have HB1 := Lib.hid (HB0.out.trans (hb.mono HB0.out.size))
  have HZ1 := Lib.hid hb.size
  clear hb HB0
  go_wp2_with fail
  refine (Syncs.impl u1 _ ts0 xs0 HO0.out.dev).mono ?_
  rw [show Syncs.code ts0 xs0 = 0 by unfold Syncs.code; rw [if_pos HRT0.out], show Syncs.yts ts0 xs0 = Settle.st ts0 xs0 [1] xs0.length by unfold Syncs.yts; rw [if_pos HRT0.out]]
  have HRT := Lib.hid (Draw.rt_st HRT0.out [1])
  generalize Settle.st ts0 xs0 [1] xs0.length = T at *
  rw [EXR.out]
  have hT40 : T.length = 40 := HRT.out.1
  have dT : ((T.length : Int) != 40) = false := by rw [hT40]; rfl
  have HT40 := Lib.hid hT40
  clear hT40
  rintro e u2_ ⟨r2, rfl, ho, hb⟩
  have HOD := Lib.hid ho
  obtain ⟨aD, pD, bD, qD, rfl⟩ := form ho.dev
  clear ho
  have HD3_c0 := Lib.hid (HO0.out.below hb)
  have HB3 := Lib.hid (HB1.out.trans (hb.mono HB1.out.size))
  have HZ3 := Lib.hid hb.size
  clear hb HO0 HB1
  obtain ⟨U4, eU4, hb, hz, n40, n41⟩ := boxU u2_ 26 (.slice aD T.length pD) (.slice bD xr.length qD)
  obtain ⟨GD, eGD⟩ : ∃ GD, u2_.heap.size = GD := ⟨_, rfl⟩
  have HGD := Lib.hid eGD
  have HY4 := Lib.hid hz
  rw [eGD] at n40 n41
  clear hz
  have HD5_c0 := Lib.hid (HD3_c0.out.below hb)
  have HD5_D := Lib.hid (HOD.out.below hb)
  have HB5 := Lib.hid (HB3.out.trans (hb.mono HB3.out.size))
  have HZ5 := Lib.hid hb.size
  clear hb HD3_c0 HOD HB3
  go_wp2_with fail
  clear eU4 eGD
  refine (At.at_ U4 a1 len1 cap1 z1 (DeviceOf.isRow_below H1.out HB5.out) hl1 0 (by omega) 0 rfl 6 (by omega)).mono ?_
  obtain ⟨q, eq⟩ : ∃ q : Nat, At.val z1 len1 0 6 = (q : Int) := ⟨_, (Int.toNat_of_nonneg (At.val_nonneg _ _ _ _)).symm⟩
  have hq : q < 6 := by have := At.val_lt z1 len1 0 6 (by omega); omega
  rw [eq]
  clear eq
  rintro e V6 ⟨rfl, n6, rfl⟩
  have hb : Below U4.heap.size U4 (U4.drewN n6) := below_drewN (Below.refl _ _) n6
  generalize U4.drewN n6 = V6 at hb ⊢
  obtain ⟨c7_GD0, c7_GD1⟩ := box_below hb n40 n41
  have HD7_D := Lib.hid (HD5_D.out.below hb)
  have HB7 := Lib.hid (HB5.out.trans (hb.mono HB5.out.size))
  have HZ7 := Lib.hid hb.size
  clear hb n40 n41 HD5_D HB5
  go_wp2_with fail
  refine (At.at_ V6 a1 len1 cap1 z1 (DeviceOf.isRow_below H1.out HB7.out) hl1 1 (by omega) 1 rfl 255 (by omega)).mono ?_
  obtain ⟨y, ey⟩ : ∃ y : Nat, At.val z1 len1 1 255 = (y : Int) := ⟨_, (Int.toNat_of_nonneg (At.val_nonneg _ _ _ _)).symm⟩
  have hy : y < 255 := by have := At.val_lt z1 len1 1 255 (by omega); omega
  rw [ey]
  clear ey
  rintro e V8 ⟨rfl, n8, rfl⟩
  have hb : Below V6.heap.size V6 (V6.drewN n8) := below_drewN (Below.refl _ _) n8
  generalize V6.drewN n8 = V8 at hb ⊢
  obtain ⟨c9_GD0, c9_GD1⟩ := box_below hb c7_GD0 c7_GD1
  have HD9_D := Lib.hid (HD7_D.out.below hb)
  have HB9 := Lib.hid (HB7.out.trans (hb.mono HB7.out.size))
  have HZ9 := Lib.hid hb.size
  clear hb c7_GD0 c7_GD1 HD7_D HB7
  obtain ⟨Y, eY⟩ : ∃ Y, 1 + y = Y := ⟨_, rfl⟩
  have rY : (1 : Int) + (y : Int) = (Y : Int) := by omega
  have wY : IntKind.i64.wrap (Y : Int) = Y := by rw [IntKind.wrap_i64]; omega
  have hY0 : Y ≠ 0 := by omega
  have hY1 : Y ≤ 255 := by omega
  clear eY
  go_wp2_with fail
  refine (At.at_ V8 a1 len1 cap1 z1 (DeviceOf.isRow_below H1.out HB9.out) hl1 2 (by omega) 2 rfl 7 (by omega)).mono ?_
  obtain ⟨P, eP⟩ : ∃ P : Nat, At.val z1 len1 2 7 = (P : Int) := ⟨_, (Int.toNat_of_nonneg (At.val_nonneg _ _ _ _)).symm⟩
  have hP : P < 7 := by have := At.val_lt z1 len1 2 7 (by omega); omega
  rw [eP]
  clear eP
  rintro e V10 ⟨rfl, n10, rfl⟩
  have hb : Below V8.heap.size V8 (V8.drewN n10) := below_drewN (Below.refl _ _) n10
  generalize V8.drewN n10 = V10 at hb ⊢
  obtain ⟨c11_GD0, c11_GD1⟩ := box_below hb c9_GD0 c9_GD1
  have HD11_D := Lib.hid (HD9_D.out.below hb)
  have HB11 := Lib.hid (HB9.out.trans (hb.mono HB9.out.size))
  have HZ11 := Lib.hid hb.size
  clear hb c9_GD0 c9_GD1 HD9_D HB9
  go_wp2_with fail
  have hT1 : T.length ≤ 1048576 := by rw [HT40.out]; omega
  have hX1 : xr.length ≤ 1048576 := by rw [← EXR.out]; simp
  have HLT := Lib.hid hT1
  clear hT1
  by_cases hf : Flips.fok T q P
  case pos =>
    obtain ⟨T1, c1, c2, c3, e1, e2, e3, hne⟩ := DeviceOf.flips HRT.out (by omega) hY0 hY1 hf
    rw [EXR.out] at c1 c2 c3 e1 e2 e3
    have C1 := Lib.hid c1
    have C2 := Lib.hid c2
    have C3 := Lib.hid c3
    have E1 := Lib.hid e1
    have E2 := Lib.hid e2
    have E3 := Lib.hid e3
    have HNE := Lib.hid hne
    have HLT1 : Hid (T1.length ≤ 1048576) := Lib.hid (by rw [← c2]; exact DeviceOf.fts_len HLT.out _ _ _ _)
    clear c1 c2 c3 e1 e2 e3 hne hf
    refine (Flips.impl V10 _ T xr HD11_D.out.dev HLT.out hX1 q P Y).mono ?_
    rw [C1.out, C2.out, C3.out]
    rintro e u12_ ⟨r12, rfl, ho, hb⟩
    have HOX := Lib.hid ho
    obtain ⟨aX, pX, bX, qX, rfl⟩ := form ho.dev
    clear ho
    obtain ⟨c13_GD0, c13_GD1⟩ := box_below hb c11_GD0 c11_GD1
    have HD13_D := Lib.hid (HD11_D.out.below hb)
    have HB13 := Lib.hid (HB11.out.trans (hb.mono HB11.out.size))
    have HZ13 := Lib.hid hb.size
    clear hb c11_GD0 c11_GD1 HD11_D HB11
    obtain ⟨U14, eU14, hb, hz, n140, n141⟩ := boxU u12_ 26 (.slice aX T1.length pX) (.slice bX xr.length qX)
    obtain ⟨GX, eGX⟩ : ∃ GX, u12_.heap.size = GX := ⟨_, rfl⟩
    have HGX := Lib.hid eGX
    have HY14 := Lib.hid hz
    rw [eGX] at n140 n141
    clear hz
    obtain ⟨c15_GD0, c15_GD1⟩ := box_below hb c13_GD0 c13_GD1
    have HD15_D := Lib.hid (HD13_D.out.below hb)
    have HD15_X := Lib.hid (HOX.out.below hb)
    have HB15 := Lib.hid (HB13.out.trans (hb.mono HB13.out.size))
    have HZ15 := Lib.hid hb.size
    clear hb c13_GD0 c13_GD1 HD13_D HOX HB13
    go_wp2_with fail
    clear eU14 eGX
    refine (Flips.spec U14 _ T xr HD15_D.out.dev HLT.out hX1 q P Y).mono ?_
    rw [C1.out, C2.out, C3.out]
    rintro e u16_ ⟨r16, rfl, ho, hb⟩
    have HOW := Lib.hid ho
    obtain ⟨aW, pW, bW, qW, rfl⟩ := form ho.dev
    clear ho
    obtain ⟨c17_GD0, c17_GD1⟩ := box_below hb c15_GD0 c15_GD1
    obtain ⟨c17_GX0, c17_GX1⟩ := box_below hb n140 n141
    have HD17_D := Lib.hid (HD15_D.out.below hb)
    have HD17_X := Lib.hid (HD15_X.out.below hb)
    have HB17 := Lib.hid (HB15.out.trans (hb.mono HB15.out.size))
    have HZ17 := Lib.hid hb.size
    clear hb c15_GD0 c15_GD1 n140 n141 HD15_D HD15_X HB15
    obtain ⟨U18, eU18, hb, hz, n180, n181⟩ := boxU u16_ 26 (.slice aW T1.length pW) (.slice bW xr.length qW)
    obtain ⟨GW, eGW⟩ : ∃ GW, u16_.heap.size = GW := ⟨_, rfl⟩
    have HGW := Lib.hid eGW
    have HY18 := Lib.hid hz
    rw [eGW] at n180 n181
    clear hz
    obtain ⟨c19_GD0, c19_GD1⟩ := box_below hb c17_GD0 c17_GD1
    obtain ⟨c19_GX0, c19_GX1⟩ := box_below hb c17_GX0 c17_GX1
    have HD19_D := Lib.hid (HD17_D.out.below hb)
    have HD19_X := Lib.hid (HD17_X.out.below hb)
    have HD19_W := Lib.hid (HOW.out.below hb)
    have HB19 := Lib.hid (HB17.out.trans (hb.mono HB17.out.size))
    have HZ19 := Lib.hid hb.size
    clear hb c17_GD0 c17_GD1 c17_GX0 c17_GX1 HD17_D HD17_X HOW HB17
    go_wp2_with fail
    clear eU18 eGW
    refine (SameL.sameDevice U18 _ _ T1 xr HD19_X.out.dev HD19_W.out.dev).mono ?_
    rintro e u20 ⟨rfl, hb⟩
    obtain ⟨c21_GD0, c21_GD1⟩ := box_below hb c19_GD0 c19_GD1
    obtain ⟨c21_GX0, c21_GX1⟩ := box_below hb c19_GX0 c19_GX1
    obtain ⟨c21_GW0, c21_GW1⟩ := box_below hb n180 n181
    have HD21_D := Lib.hid (HD19_D.out.below hb)
    have HD21_X := Lib.hid (HD19_X.out.below hb)
    have HD21_W := Lib.hid (HD19_W.out.below hb)
    have HB21 := Lib.hid (HB19.out.trans (hb.mono HB19.out.size))
    have HZ21 := Lib.hid hb.size
    clear hb c19_GD0 c19_GD1 c19_GX0 c19_GX1 n180 n181 HD19_D HD19_X HD19_W HB19
    go_wp2_with fail
    refine (Flips.impl u20 _ T1 xr HD21_X.out.dev HLT1.out hX1 q P Y).mono ?_
    rw [E1.out, E2.out, E3.out]
    rintro e u22_ ⟨r22, rfl, ho, hb⟩
    have HOY := Lib.hid ho
    obtain ⟨aY, pY, bY, qY, rfl⟩ := form ho.dev
    clear ho
    obtain ⟨c23_GD0, c23_GD1⟩ := box_below hb c21_GD0 c21_GD1
    obtain ⟨c23_GX0, c23_GX1⟩ := box_below hb c21_GX0 c21_GX1
    obtain ⟨c23_GW0, c23_GW1⟩ := box_below hb c21_GW0 c21_GW1
    have HD23_D := Lib.hid (HD21_D.out.below hb)
    have HD23_X := Lib.hid (HD21_X.out.below hb)
    have HD23_W := Lib.hid (HD21_W.out.below hb)
    have HB23 := Lib.hid (HB21.out.trans (hb.mono HB21.out.size))
    have HZ23 := Lib.hid hb.size
    clear hb c21_GD0 c21_GD1 c21_GX0 c21_GX1 c21_GW0 c21_GW1 HD21_D HD21_X HD21_W HB21
    obtain ⟨U24, eU24, hb, hz, n240, n241⟩ := boxU u22_ 26 (.slice aY T.length pY) (.slice bY xr.length qY)
    obtain ⟨GY, eGY⟩ : ∃ GY, u22_.heap.size = GY := ⟨_, rfl⟩
    have HGY := Lib.hid eGY
    have HY24 := Lib.hid hz
    rw [eGY] at n240 n241
    clear hz
    obtain ⟨c25_GD0, c25_GD1⟩ := box_below hb c23_GD0 c23_GD1
    obtain ⟨c25_GX0, c25_GX1⟩ := box_below hb c23_GX0 c23_GX1
    obtain ⟨c25_GW0, c25_GW1⟩ := box_below hb c23_GW0 c23_GW1
    have HD25_D := Lib.hid (HD23_D.out.below hb)
    have HD25_X := Lib.hid (HD23_X.out.below hb)
    have HD25_W := Lib.hid (HD23_W.out.below hb)
    have HD25_Y := Lib.hid (HOY.out.below hb)
    have HB25 := Lib.hid (HB23.out.trans (hb.mono HB23.out.size))
    have HZ25 := Lib.hid hb.size
    clear hb c23_GD0 c23_GD1 c23_GX0 c23_GX1 c23_GW0 c23_GW1 HD23_D HD23_X HD23_W HOY HB23
    go_wp2_with fail
    clear eU24 eGY
    refine (SameL.sameDevice U24 _ _ T xr HD25_Y.out.dev HD25_D.out.dev).mono ?_
    rintro e u26 ⟨rfl, hb⟩
    obtain ⟨c27_GD0, c27_GD1⟩ := box_below hb c25_GD0 c25_GD1
    obtain ⟨c27_GX0, c27_GX1⟩ := box_below hb c25_GX0 c25_GX1
    obtain ⟨c27_GW0, c27_GW1⟩ := box_below hb c25_GW0 c25_GW1
    obtain ⟨c27_GY0, c27_GY1⟩ := box_below hb n240 n241
    have HD27_D := Lib.hid (HD25_D.out.below hb)
    have HD27_X := Lib.hid (HD25_X.out.below hb)
    have HD27_W := Lib.hid (HD25_W.out.below hb)
    have HD27_Y := Lib.hid (HD25_Y.out.below hb)
    have HB27 := Lib.hid (HB25.out.trans (hb.mono HB25.out.size))
    have HZ27 := Lib.hid hb.size
    clear hb c25_GD0 c25_GD1 c25_GX0 c25_GX1 c25_GW0 c25_GW1 n240 n241 HD25_D HD25_X HD25_W HD25_Y HB25
    go_wp2_with fail
    refine (Same.impl u26 _ _ T1 T xr xr HD27_X.out.dev HD27_D.out.dev).mono ?_
    rw [decide_eq_false (fun h : T1 = T ∧ xr = xr => HNE.out h.1)]
    rintro e u28 ⟨rfl, hb⟩
    obtain ⟨c29_GD0, c29_GD1⟩ := box_below hb c27_GD0 c27_GD1
    obtain ⟨c29_GX0, c29_GX1⟩ := box_below hb c27_GX0 c27_GX1
    obtain ⟨c29_GW0, c29_GW1⟩ := box_below hb c27_GW0 c27_GW1
    obtain ⟨c29_GY0, c29_GY1⟩ := box_below hb c27_GY0 c27_GY1
    have HD29_D := Lib.hid (HD27_D.out.below hb)
    have HD29_X := Lib.hid (HD27_X.out.below hb)
    have HD29_W := Lib.hid (HD27_W.out.below hb)
    have HD29_Y := Lib.hid (HD27_Y.out.below hb)
    have HB29 := Lib.hid (HB27.out.trans (hb.mono HB27.out.size))
    have HZ29 := Lib.hid hb.size
    clear hb c27_GD0 c27_GD1 c27_GX0 c27_GX1 c27_GW0 c27_GW1 c27_GY0 c27_GY1 HD27_D HD27_X HD27_W HD27_Y HB27
    go_wp2_with fail
    refine (Same.impl u28 _ _ T T xr xr HD29_Y.out.dev HD29_D.out.dev).mono ?_
    rw [decide_eq_true (show T = T ∧ xr = xr from ⟨rfl, rfl⟩)]
    rintro e u30 ⟨rfl, hb⟩
    obtain ⟨c31_GD0, c31_GD1⟩ := box_below hb c29_GD0 c29_GD1
    obtain ⟨c31_GX0, c31_GX1⟩ := box_below hb c29_GX0 c29_GX1
    obtain ⟨c31_GW0, c31_GW1⟩ := box_below hb c29_GW0 c29_GW1
    obtain ⟨c31_GY0, c31_GY1⟩ := box_below hb c29_GY0 c29_GY1
    have HD31_D := Lib.hid (HD29_D.out.below hb)
    have HD31_X := Lib.hid (HD29_X.out.below hb)
    have HD31_W := Lib.hid (HD29_W.out.below hb)
    have HD31_Y := Lib.hid (HD29_Y.out.below hb)
    have HB31 := Lib.hid (HB29.out.trans (hb.mono HB29.out.size))
    have HZ31 := Lib.hid hb.size
    clear hb c29_GD0 c29_GD1 c29_GX0 c29_GX1 c29_GW0 c29_GW1 c29_GY0 c29_GY1 HD29_D HD29_X HD29_W HD29_Y HB29
    go_wp2_with fail
    go_ret
    exact ⟨rfl, HB31.out⟩
  case neg =>
    obtain ⟨c1, c2, c3⟩ := DeviceOf.flips_none HRT.out (by omega) hY0 hY1 hf
    rw [EXR.out] at c1 c2 c3
    have C1 := Lib.hid c1
    have C2 := Lib.hid c2
    have C3 := Lib.hid c3
    clear c1 c2 c3 hf
    refine (Flips.impl V10 _ T xr HD11_D.out.dev HLT.out hX1 q P Y).mono ?_
    rw [C1.out, C2.out, C3.out]
    rintro e u32_ ⟨r32, rfl, ho, hb⟩
    have HOX := Lib.hid ho
    obtain ⟨aX, pX, bX, qX, rfl⟩ := form ho.dev
    clear ho
    obtain ⟨c33_GD0, c33_GD1⟩ := box_below hb c11_GD0 c11_GD1
    have HD33_D := Lib.hid (HD11_D.out.below hb)
    have HB33 := Lib.hid (HB11.out.trans (hb.mono HB11.out.size))
    have HZ33 := Lib.hid hb.size
    clear hb c11_GD0 c11_GD1 HD11_D HB11
    obtain ⟨U34, eU34, hb, hz, n340, n341⟩ := boxU u32_ 26 (.slice aX T.length pX) (.slice bX xr.length qX)
    obtain ⟨GX, eGX⟩ : ∃ GX, u32_.heap.size = GX := ⟨_, rfl⟩
    have HGX := Lib.hid eGX
    have HY34 := Lib.hid hz
    rw [eGX] at n340 n341
    clear hz
    obtain ⟨c35_GD0, c35_GD1⟩ := box_below hb c33_GD0 c33_GD1
    have HD35_D := Lib.hid (HD33_D.out.below hb)
    have HD35_X := Lib.hid (HOX.out.below hb)
    have HB35 := Lib.hid (HB33.out.trans (hb.mono HB33.out.size))
    have HZ35 := Lib.hid hb.size
    clear hb c33_GD0 c33_GD1 HD33_D HOX HB33
    go_wp2_with fail
    clear eU34 eGX
    refine (Flips.spec U34 _ T xr HD35_D.out.dev HLT.out hX1 q P Y).mono ?_
    rw [C1.out, C2.out, C3.out]
    rintro e u36_ ⟨r36, rfl, ho, hb⟩
    have HOW := Lib.hid ho
    obtain ⟨aW, pW, bW, qW, rfl⟩ := form ho.dev
    clear ho
    obtain ⟨c37_GD0, c37_GD1⟩ := box_below hb c35_GD0 c35_GD1
    obtain ⟨c37_GX0, c37_GX1⟩ := box_below hb n340 n341
    have HD37_D := Lib.hid (HD35_D.out.below hb)
    have HD37_X := Lib.hid (HD35_X.out.below hb)
    have HB37 := Lib.hid (HB35.out.trans (hb.mono HB35.out.size))
    have HZ37 := Lib.hid hb.size
    clear hb c35_GD0 c35_GD1 n340 n341 HD35_D HD35_X HB35
    obtain ⟨U38, eU38, hb, hz, n380, n381⟩ := boxU u36_ 26 (.slice aW T.length pW) (.slice bW xr.length qW)
    obtain ⟨GW, eGW⟩ : ∃ GW, u36_.heap.size = GW := ⟨_, rfl⟩
    have HGW := Lib.hid eGW
    have HY38 := Lib.hid hz
    rw [eGW] at n380 n381
    clear hz
    obtain ⟨c39_GD0, c39_GD1⟩ := box_below hb c37_GD0 c37_GD1
    obtain ⟨c39_GX0, c39_GX1⟩ := box_below hb c37_GX0 c37_GX1
    have HD39_D := Lib.hid (HD37_D.out.below hb)
    have HD39_X := Lib.hid (HD37_X.out.below hb)
    have HD39_W := Lib.hid (HOW.out.below hb)
    have HB39 := Lib.hid (HB37.out.trans (hb.mono HB37.out.size))
    have HZ39 := Lib.hid hb.size
    clear hb c37_GD0 c37_GD1 c37_GX0 c37_GX1 HD37_D HD37_X HOW HB37
    go_wp2_with fail
    clear eU38 eGW
    refine (SameL.sameDevice U38 _ _ T xr HD39_X.out.dev HD39_W.out.dev).mono ?_
    rintro e u40 ⟨rfl, hb⟩
    obtain ⟨c41_GD0, c41_GD1⟩ := box_below hb c39_GD0 c39_GD1
    obtain ⟨c41_GX0, c41_GX1⟩ := box_below hb c39_GX0 c39_GX1
    obtain ⟨c41_GW0, c41_GW1⟩ := box_below hb n380 n381
    have HD41_D := Lib.hid (HD39_D.out.below hb)
    have HD41_X := Lib.hid (HD39_X.out.below hb)
    have HD41_W := Lib.hid (HD39_W.out.below hb)
    have HB41 := Lib.hid (HB39.out.trans (hb.mono HB39.out.size))
    have HZ41 := Lib.hid hb.size
    clear hb c39_GD0 c39_GD1 c39_GX0 c39_GX1 n380 n381 HD39_D HD39_X HD39_W HB39
    go_wp2_with fail
    refine (SameL.sameDevice u40 _ _ T xr HD41_X.out.dev HD41_D.out.dev).mono ?_
    rintro e u42 ⟨rfl, hb⟩
    obtain ⟨c43_GD0, c43_GD1⟩ := box_below hb c41_GD0 c41_GD1
    obtain ⟨c43_GX0, c43_GX1⟩ := box_below hb c41_GX0 c41_GX1
    obtain ⟨c43_GW0, c43_GW1⟩ := box_below hb c41_GW0 c41_GW1
    have HD43_D := Lib.hid (HD41_D.out.below hb)
    have HD43_X := Lib.hid (HD41_X.out.below hb)
    have HD43_W := Lib.hid (HD41_W.out.below hb)
    have HB43 := Lib.hid (HB41.out.trans (hb.mono HB41.out.size))
    have HZ43 := Lib.hid hb.size
    clear hb c41_GD0 c41_GD1 c41_GX0 c41_GX1 c41_GW0 c41_GW1 HD41_D HD41_X HD41_W HB41
    go_wp2_with fail
    go_ret
    exact ⟨rfl, HB43.out⟩
end Go.Proofs.Ytmgokpkogjdfhaa.FnFlip
