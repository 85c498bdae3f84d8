/-
  What is proved: the law on devices (what was written is read, synced, kept, dropped and torn as the document says) returns true (the walk).
-/
import Derived.Test.YtmgokpkogjdfhaaRows
import Derived.Test.YtmgokpkogjdfhaaEx
import Derived.Test.YtmgokpkogjdfhaaDevW
import Derived.Test.YtmgokpkogjdfhaaSrcF
import Derived.Test.YtmgokpkogjdfhaaAt
import Derived.Test.YtmgokpkogjdfhaaSameL
import Derived.Deep.CutRange
import Derived.Deep.RegionHeld3
import Derived.Deep.RegionWith
namespace Go.Proofs.Ytmgokpkogjdfhaa.FnDevice
open Go.ChangeShapes Go.WideShapes Go.ChangeAt Go.RowKit
open Sl (Sl Own Off)
open OpenSl (tc nc pc)
open Dev Ex
open Src (IsRow)
set_option linter.unusedVariables false

set_option maxRecDepth 100000 in
set_option maxHeartbeats 6400000 in
theorem walk (a0 : Option Addr) (len0 cap0 : Nat) (z0 : List Int) (a1 : Option Addr) (len1 cap1 : Nat) (z1 : List Int) (w : World) (h0 : IsRow .u8 w a0 len0 cap0 z0) (h1 : IsRow .u8 w a1 len1 cap1 z1) :
    Calls Try.prog 3 #[.slice a0 len0 cap0, .slice a1 len1 cap1] w fun e w' => e = .returned (.bool true) ∧ Below w.heap.size w w' := by
  have m0 := h0.code.1
  have m1 := h1.code.1
  unfold maxLen at m0 m1
  have H0 := Lib.hid h0
  have H1 := Lib.hid h1
  clear h0 h1
  by_cases b0 : 1048576 < len0
  · go_enter Try.func3, Try.ntmps3
    go_wp2_with fail
    go_ret
    exact ⟨rfl, Below.refl _ _⟩
  have d0 : decide (1048576 < (len0 : Int)) = false := decide_eq_false (by omega)
  by_cases b1 : 1048576 < len1
  · go_enter Try.func3, Try.ntmps3
    go_wp2_with fail
    go_ret
    exact ⟨rfl, Below.refl _ _⟩
  have d1 : decide (1048576 < (len1 : Int)) = false := decide_eq_false (by omega)
  have hl1 : len1 ≤ 1048576 := by omega
  clear b0 b1 m0 m1
  obtain ⟨xr, exr⟩ : ∃ xr, ([] : List (Int × ByteArray)) = xr := ⟨_, rfl⟩
  have EXR := Lib.hid exr
  clear exr
  obtain ⟨FM, eFM⟩ : ∃ FM, SrcF.fo z1 len1 = FM := ⟨_, rfl⟩
  have EFM := Lib.hid eFM
  have HFM := Lib.hid (show FM.length ≤ 3 ∧ Crashes.Fk FM by rw [← eFM]; exact ⟨SrcF.fv_len _ _ _ _, SrcF.fv_ok _ _ _ _⟩)
  clear eFM
  obtain ⟨FC, eFC⟩ : ∃ FC, SrcF.fo z0 len0 = FC := ⟨_, rfl⟩
  have EFC := Lib.hid eFC
  have HFC := Lib.hid (show FC.length ≤ 3 ∧ Crashes.Fk FC by rw [← eFC]; exact ⟨SrcF.fv_len _ _ _ _, SrcF.fv_ok _ _ _ _⟩)
  clear eFC
  have HB0 := Lib.hid (Below.refl w.heap.size w)
  go_enter Try.func3, Try.ntmps3
  go_wp2_with fail
  clear d0 d1
  refine (DeviceOf.deviceOf w a0 len0 cap0 z0 H0.out).mono ?_
  rintro e u1 ⟨r1, ts, xs, rfl, hrt, ho, hb⟩
  have HRT := Lib.hid hrt
  have HOD := Lib.hid ho
  obtain ⟨aD, pD, bD, qD, rfl⟩ := form ho.dev
  clear hrt ho
  have HB1 := Lib.hid (HB0.out.trans (hb.mono HB0.out.size))
  have HZ1 := Lib.hid hb.size
  clear hb HB0
  obtain ⟨U2, eU2, hb, hz, n20, n21⟩ := boxU u1 26 (.slice aD ts.length pD) (.slice bD xs.length qD)
  obtain ⟨GD, eGD⟩ : ∃ GD, u1.heap.size = GD := ⟨_, rfl⟩
  have HGD := Lib.hid eGD
  have HY2 := Lib.hid hz
  rw [eGD] at n20 n21
  clear hz
  have HD3_D := Lib.hid (HOD.out.below hb)
  have HB3 := Lib.hid (HB1.out.trans (hb.mono HB1.out.size))
  have HZ3 := Lib.hid hb.size
  clear hb HOD HB1
  go_wp2_with fail
  clear eU2 eGD
  refine (At.at_ U2 a1 len1 cap1 z1 (DeviceOf.isRow_below H1.out HB3.out) hl1 0 (by omega) 0 rfl 40 (by omega)).mono ?_
  obtain ⟨k, ek⟩ : ∃ k : Nat, At.val z1 len1 0 40 = (k : Int) := ⟨_, (Int.toNat_of_nonneg (At.val_nonneg _ _ _ _)).symm⟩
  have hk : k < 40 := by have := At.val_lt z1 len1 0 40 (by omega); omega
  rw [ek]
  clear ek
  rintro e V4 ⟨rfl, n4, rfl⟩
  have hb : Below U2.heap.size U2 (U2.drewN n4) := below_drewN (Below.refl _ _) n4
  generalize U2.drewN n4 = V4 at hb ⊢
  obtain ⟨c5_GD0, c5_GD1⟩ := box_below hb n20 n21
  have HD5_D := Lib.hid (HD3_D.out.below hb)
  have HB5 := Lib.hid (HB3.out.trans (hb.mono HB3.out.size))
  have HZ5 := Lib.hid hb.size
  clear hb n20 n21 HD3_D HB3
  go_wp2_with fail
  refine (At.at_ V4 a1 len1 cap1 z1 (DeviceOf.isRow_below H1.out HB5.out) hl1 1 (by omega) 1 rfl 9 (by omega)).mono ?_
  obtain ⟨m, em⟩ : ∃ m : Nat, At.val z1 len1 1 9 = (m : Int) := ⟨_, (Int.toNat_of_nonneg (At.val_nonneg _ _ _ _)).symm⟩
  have hm : m < 9 := by have := At.val_lt z1 len1 1 9 (by omega); omega
  rw [em]
  clear em
  rintro e V6 ⟨rfl, n6, rfl⟩
  have hb : Below V4.heap.size V4 (V4.drewN n6) := below_drewN (Below.refl _ _) n6
  generalize V4.drewN n6 = V6 at hb ⊢
  obtain ⟨c7_GD0, c7_GD1⟩ := box_below hb c5_GD0 c5_GD1
  have HD7_D := Lib.hid (HD5_D.out.below hb)
  have HB7 := Lib.hid (HB5.out.trans (hb.mono HB5.out.size))
  have HZ7 := Lib.hid hb.size
  clear hb c5_GD0 c5_GD1 HD5_D HB5
  go_wp2_with fail
  refine (SrcF.bytesOf m (by omega) V6 a1 len1 cap1 z1 (DeviceOf.isRow_below H1.out HB7.out)).mono ?_
  rintro e u8 ⟨t, rfl, ht, hb⟩
  obtain ⟨c9_GD0, c9_GD1⟩ := box_below hb c7_GD0 c7_GD1
  have HD9_D := Lib.hid (HD7_D.out.below hb)
  have HB9 := Lib.hid (HB7.out.trans (hb.mono HB7.out.size))
  have HZ9 := Lib.hid hb.size
  clear hb c7_GD0 c7_GD1 HD7_D HB7
  go_wp2_with fail
  obtain ⟨c1, c2, c3, c4⟩ := DevW.wrote HRT.out.1 HRT.out.2 hk (show t.size ≤ 9 by omega)
  have c5 := DevW.read hk c4
  obtain ⟨T, s1, s2, s3, s4, s5, s6⟩ := DevW.synced hk c4
  obtain ⟨n1, n2⟩ := DevW.dropped c4
  obtain ⟨T2, t1, t2, t3⟩ := DevW.torn c4 HFC.out.1 HFC.out.2
  obtain ⟨f1, f2⟩ := DevW.crashed s3 HFM.out.1 HFM.out.2
  generalize xs ++ [((k : Int), t)] = X1 at *
  rw [EXR.out] at s3 s4 f1 f2 t3
  have KC1 := Lib.hid c1
  have KC2 := Lib.hid c2
  have KC3 := Lib.hid c3
  have KC5 := Lib.hid c5
  have KS1 := Lib.hid s1
  have KS2 := Lib.hid s2
  have KS4 := Lib.hid s4
  have KS5 := Lib.hid s5
  have KS6 := Lib.hid s6
  have KN1 := Lib.hid n1
  have KN2 := Lib.hid n2
  have KT1 := Lib.hid t1
  have KT2 := Lib.hid t2
  have KT3 := Lib.hid t3
  have KF1 := Lib.hid f1
  have KF2 := Lib.hid f2
  have L1 := Lib.hid (show ts.length ≤ 1048576 by rw [HRT.out.1.1]; omega)
  have L2 := Lib.hid (show xs.length ≤ 1048576 by have := HRT.out.2; omega)
  have htm : t.size ≤ maxLen := by unfold maxLen; omega
  clear c1 c2 c3 c5 s1 s2 s4 s5 s6 n1 n2 t1 t2 t3 f1 f2 c4 s3
  refine (Writes.impl u8 _ ts xs HD9_D.out.dev L1.out L2.out k t htm).mono ?_
  rw [KC1.out, KC2.out, KC3.out]
  rintro e u10_ ⟨r10, rfl, ho, hb⟩
  have HOX := Lib.hid ho
  obtain ⟨aX, pX, bX, qX, rfl⟩ := form ho.dev
  clear ho
  obtain ⟨c11_GD0, c11_GD1⟩ := box_below hb c9_GD0 c9_GD1
  have HD11_D := Lib.hid (HD9_D.out.below hb)
  have HB11 := Lib.hid (HB9.out.trans (hb.mono HB9.out.size))
  have HZ11 := Lib.hid hb.size
  clear hb c9_GD0 c9_GD1 HD9_D HB9
  obtain ⟨U12, eU12, hb, hz, n120, n121⟩ := boxU u10_ 26 (.slice aX ts.length pX) (.slice bX X1.length qX)
  obtain ⟨GX, eGX⟩ : ∃ GX, u10_.heap.size = GX := ⟨_, rfl⟩
  have HGX := Lib.hid eGX
  have HY12 := Lib.hid hz
  rw [eGX] at n120 n121
  clear hz
  obtain ⟨c13_GD0, c13_GD1⟩ := box_below hb c11_GD0 c11_GD1
  have HD13_D := Lib.hid (HD11_D.out.below hb)
  have HD13_X := Lib.hid (HOX.out.below hb)
  have HB13 := Lib.hid (HB11.out.trans (hb.mono HB11.out.size))
  have HZ13 := Lib.hid hb.size
  clear hb c11_GD0 c11_GD1 HD11_D HOX HB11
  go_wp2_with fail
  clear eU12 eGX
  refine (Reads.impl U12 _ ts X1 HD13_X.out.dev k).mono ?_
  rw [KC5.out]
  rintro e u14 ⟨rfl, hb⟩
  obtain ⟨c15_GD0, c15_GD1⟩ := box_below hb c13_GD0 c13_GD1
  obtain ⟨c15_GX0, c15_GX1⟩ := box_below hb n120 n121
  have HD15_D := Lib.hid (HD13_D.out.below hb)
  have HD15_X := Lib.hid (HD13_X.out.below hb)
  have HB15 := Lib.hid (HB13.out.trans (hb.mono HB13.out.size))
  have HZ15 := Lib.hid hb.size
  clear hb c13_GD0 c13_GD1 n120 n121 HD13_D HD13_X HB13
  go_wp2_with fail
  refine (Syncs.impl u14 _ ts X1 HD15_X.out.dev).mono ?_
  rw [KS1.out, KS2.out, EXR.out]
  rintro e u16_ ⟨r16, rfl, ho, hb⟩
  have HOY := Lib.hid ho
  obtain ⟨aY, pY, bY, qY, rfl⟩ := form ho.dev
  clear ho
  obtain ⟨c17_GD0, c17_GD1⟩ := box_below hb c15_GD0 c15_GD1
  obtain ⟨c17_GX0, c17_GX1⟩ := box_below hb c15_GX0 c15_GX1
  have HD17_D := Lib.hid (HD15_D.out.below hb)
  have HD17_X := Lib.hid (HD15_X.out.below hb)
  have HB17 := Lib.hid (HB15.out.trans (hb.mono HB15.out.size))
  have HZ17 := Lib.hid hb.size
  clear hb c15_GD0 c15_GD1 c15_GX0 c15_GX1 HD15_D HD15_X HB15
  obtain ⟨U18, eU18, hb, hz, n180, n181⟩ := boxU u16_ 26 (.slice aY T.length pY) (.slice bY xr.length qY)
  obtain ⟨GY, eGY⟩ : ∃ GY, u16_.heap.size = GY := ⟨_, rfl⟩
  have HGY := Lib.hid eGY
  have HY18 := Lib.hid hz
  rw [eGY] at n180 n181
  clear hz
  obtain ⟨c19_GD0, c19_GD1⟩ := box_below hb c17_GD0 c17_GD1
  obtain ⟨c19_GX0, c19_GX1⟩ := box_below hb c17_GX0 c17_GX1
  have HD19_D := Lib.hid (HD17_D.out.below hb)
  have HD19_X := Lib.hid (HD17_X.out.below hb)
  have HD19_Y := Lib.hid (HOY.out.below hb)
  have HB19 := Lib.hid (HB17.out.trans (hb.mono HB17.out.size))
  have HZ19 := Lib.hid hb.size
  clear hb c17_GD0 c17_GD1 c17_GX0 c17_GX1 HD17_D HD17_X HOY HB17
  go_wp2_with fail
  clear eU18 eGY
  go_cut [14, 15] from 60 to 166 (fun v vc wx => ∃ (gg : Nat) (a_ b_ : Option Addr) (p_ q_ : Nat), v = .pointer (some ⟨gg, 0, none⟩) ∧ vc = .int .i64 0 ∧ (wx.cell? ⟨gg, 0, none⟩ = some (.slice a_ T.length p_) ∧ wx.cell? ⟨gg, 1, none⟩ = some (.slice b_ xr.length q_)) ∧ Hid (Dev wx (.agg #[.slice a_ T.length p_, .slice b_ xr.length q_]) T xr) ∧ Hid (Below U18.heap.size U18 wx))
  case first =>
    have lG := World.block_lt_of_cell? U18 _ n180
    simp only at lG
    have HROW := Lib.hid (DeviceOf.isRow_below H1.out HB19.out)
    clear c19_GD0 c19_GD1 c19_GX0 c19_GX1
    go_region_held3 (fun w' => w'.cell? ⟨GY, 0, none⟩ = some (.slice aY T.length pY) ∧ w'.cell? ⟨GY, 1, none⟩ = some (.slice bY xr.length qY))
      (first | exact ⟨n180, n181⟩ | exact ⟨e4, e5⟩ | exact ⟨e0, e1⟩ | exact ⟨by go_simp, by go_simp⟩)
      (first
      | (go_at_call 20; refine (SrcF.fatesOf _ a1 len1 cap1 z1 (DeviceOf.isRow_below HROW.out (by repeat (with_reducible (first | exact Below.refl _ _ | refine Below.setCell ?_ (by first | exact Nat.le_refl _ | omega | (simp; done) | (simp; omega)) _ | refine Below.alloc ?_ (by first | exact Nat.le_refl _ | omega | (simp; done) | (simp; omega)) _ | refine Below.drew ?_ | refine below_drewN ?_ _))))).mono ?_; rw [EFM.out]; rintro e y20 ⟨rr, rfl, ho, hb⟩; obtain ⟨hc1, hf1⟩ := DevW.bcell hb; have hz1 := hb.size; have HC1 := Lib.hid hb; have HEY : Hid (Below U18.heap.size U18 y20) := Lib.hid (by repeat (with_reducible (first | exact Below.refl _ _ | refine Below.setCell ?_ (by first | exact Nat.le_refl _ | omega | (simp; done) | (simp; omega)) _ | refine Below.alloc ?_ (by first | exact Nat.le_refl _ | omega | (simp; done) | (simp; omega)) _ | refine Below.drew ?_ | refine below_drewN ?_ _ | refine Below.trans ?_ (HC1.out.mono (by first | exact Nat.le_refl _ | omega | (simp; done) | (simp; omega)))))); have HOY := Lib.hid ho; obtain ⟨e0, e1⟩ := box_below HEY.out n180 n181; clear ho hb; (try simp only [World.size_drew] at hc1 hf1 hz1); (try simp only [World.size_alloc] at hc1 hf1 hz1); have lY : GY < y20.heap.size := (by omega); (try have l0 : U18.heap.size < y20.heap.size := (by omega)))
      | (go_at_call 19; refine (Crashes.impl _ _ _ T xr FM (HD19_Y.out.dev.below (by repeat (with_reducible (first | exact Below.refl _ _ | refine Below.setCell ?_ (by first | exact Nat.le_refl _ | omega | (simp; done) | (simp; omega)) _ | refine Below.alloc ?_ (by first | exact Nat.le_refl _ | omega | (simp; done) | (simp; omega)) _ | refine Below.drew ?_ | refine below_drewN ?_ _ | refine Below.trans ?_ (HEY.out.mono (by first | exact Nat.le_refl _ | omega | (simp; done) | (simp; omega))))))) (HOY.out.sl.below (by repeat (with_reducible (first | exact Below.refl _ _ | refine Below.setCell ?_ (by first | exact Nat.le_refl _ | omega | (simp; done) | (simp; omega)) _ | refine Below.alloc ?_ (by first | exact Nat.le_refl _ | omega | (simp; done) | (simp; omega)) _ | refine Below.drew ?_ | refine below_drewN ?_ _)))) (by have := HFM.out.1; omega)).mono ?_; rw [KF1.out, KF2.out, EXR.out]; rintro e z20 ⟨r20, rfl, ho, hb⟩; obtain ⟨hc2, hf2⟩ := DevW.bcell hb; have hz2 := hb.size; have HC2 := Lib.hid hb; have HEZ : Hid (Below U18.heap.size U18 z20) := Lib.hid (by repeat (with_reducible (first | exact Below.refl _ _ | refine Below.setCell ?_ (by first | exact Nat.le_refl _ | omega | (simp; done) | (simp; omega)) _ | refine Below.alloc ?_ (by first | exact Nat.le_refl _ | omega | (simp; done) | (simp; omega)) _ | refine Below.drew ?_ | refine below_drewN ?_ _ | refine Below.trans ?_ (HC2.out.mono (by first | exact Nat.le_refl _ | omega | (simp; done) | (simp; omega))) | refine Below.trans ?_ (HEY.out.mono (by first | exact Nat.le_refl _ | omega | (simp; done) | (simp; omega)))))); have HOZ := Lib.hid ho; obtain ⟨aZ, pZ, bZ, qZ, rfl⟩ := form ho.dev; obtain ⟨e4, e5⟩ := box_below HEZ.out n180 n181; clear ho hb; (try simp only [World.size_drew] at hc2 hf2 hz2); (try simp only [World.size_alloc] at hc2 hf2 hz2); have lZ : GY < z20.heap.size := (by omega); (try have l1 : U18.heap.size < z20.heap.size := (by omega)); (try have l2 : y20.heap.size < z20.heap.size := (by omega))))
    all_goals
      go_wp2_with fail
      go_meet
      refine ⟨_, aZ, bZ, pZ, qZ, rfl, rfl, ⟨?_, ?_⟩, Lib.hid ?_, Lib.hid ?_⟩
      · go_simp
      · go_simp
      · first
        | exact DevW.dev_stored HOZ.out (by first | exact Nat.le_refl _ | omega | (simp; done) | (simp; omega)) _ _
        | exact HOZ.out.dev.below (by repeat (with_reducible (first | exact Below.refl _ _ | refine Below.setCell ?_ (by first | exact Nat.le_refl _ | omega | (simp; done) | (simp; omega)) _ | refine Below.alloc ?_ (by first | exact Nat.le_refl _ | omega | (simp; done) | (simp; omega)) _ | refine Below.drew ?_ | refine below_drewN ?_ _)))
      · exact (by repeat (with_reducible (first | exact Below.refl _ _ | refine Below.setCell ?_ (by first | exact Nat.le_refl _ | omega | (simp; done) | (simp; omega)) _ | refine Below.alloc ?_ (by first | exact Nat.le_refl _ | omega | (simp; done) | (simp; omega)) _ | refine Below.drew ?_ | refine below_drewN ?_ _ | refine Below.trans ?_ (HEZ.out.mono (by first | exact Nat.le_refl _ | omega | (simp; done) | (simp; omega))))))
  case rest =>
  obtain ⟨GZ, aZ, bZ, pZ, qZ, rfl, rfl, ⟨n200, n201⟩, HOZ, HBC⟩ := hcut
  have hb := HBC.out
  clear HBC
  obtain ⟨c21_GD0, c21_GD1⟩ := box_below hb c19_GD0 c19_GD1
  obtain ⟨c21_GX0, c21_GX1⟩ := box_below hb c19_GX0 c19_GX1
  obtain ⟨c21_GY0, c21_GY1⟩ := box_below hb n180 n181
  have HD21_D := Lib.hid (HD19_D.out.below hb)
  have HD21_X := Lib.hid (HD19_X.out.below hb)
  have HD21_Y := Lib.hid (HD19_Y.out.below hb)
  have HB21 := Lib.hid (HB19.out.trans (hb.mono HB19.out.size))
  have HZ21 := Lib.hid hb.size
  clear hb c19_GD0 c19_GD1 c19_GX0 c19_GX1 n180 n181 HD19_D HD19_X HD19_Y HB19
  go_wp2_with fail
  refine (Reads.impl wc _ T xr HOZ.out k).mono ?_
  rw [KS4.out]
  rintro e u22 ⟨rfl, hb⟩
  obtain ⟨c23_GD0, c23_GD1⟩ := box_below hb c21_GD0 c21_GD1
  obtain ⟨c23_GX0, c23_GX1⟩ := box_below hb c21_GX0 c21_GX1
  obtain ⟨c23_GY0, c23_GY1⟩ := box_below hb c21_GY0 c21_GY1
  obtain ⟨c23_GZ0, c23_GZ1⟩ := box_below hb n200 n201
  have HD23_D := Lib.hid (HD21_D.out.below hb)
  have HD23_X := Lib.hid (HD21_X.out.below hb)
  have HD23_Y := Lib.hid (HD21_Y.out.below hb)
  have HD23_Z := Lib.hid (HOZ.out.below hb)
  have HB23 := Lib.hid (HB21.out.trans (hb.mono HB21.out.size))
  have HZ23 := Lib.hid hb.size
  clear hb c21_GD0 c21_GD1 c21_GX0 c21_GX1 c21_GY0 c21_GY1 n200 n201 HD21_D HD21_X HD21_Y HOZ HB21
  go_wp2_with fail
  refine (Crashes.impl _ _ _ ts X1 [] (HD23_X.out.dev.below ((Below.refl _ _).alloc (Nat.le_refl _) _)) (DevW.lit0 u22 3) (by simp)).mono ?_
  rw [KN1.out, KN2.out, EXR.out]
  rintro e u24_ ⟨r24, rfl, ho, hb0⟩
  have hb : Below u22.heap.size u22 u24_ := ((Below.refl _ _).alloc (Nat.le_refl _) _).trans (hb0.mono (by simp))
  have HON := Lib.hid (ho.base (base' := u22.heap.size) (by simp))
  obtain ⟨aN, pN, bN, qN, rfl⟩ := form ho.dev
  clear ho hb0
  obtain ⟨c25_GD0, c25_GD1⟩ := box_below hb c23_GD0 c23_GD1
  obtain ⟨c25_GX0, c25_GX1⟩ := box_below hb c23_GX0 c23_GX1
  obtain ⟨c25_GY0, c25_GY1⟩ := box_below hb c23_GY0 c23_GY1
  obtain ⟨c25_GZ0, c25_GZ1⟩ := box_below hb c23_GZ0 c23_GZ1
  have HD25_D := Lib.hid (HD23_D.out.below hb)
  have HD25_X := Lib.hid (HD23_X.out.below hb)
  have HD25_Y := Lib.hid (HD23_Y.out.below hb)
  have HD25_Z := Lib.hid (HD23_Z.out.below hb)
  have HB25 := Lib.hid (HB23.out.trans (hb.mono HB23.out.size))
  have HZ25 := Lib.hid hb.size
  clear hb c23_GD0 c23_GD1 c23_GX0 c23_GX1 c23_GY0 c23_GY1 c23_GZ0 c23_GZ1 HD23_D HD23_X HD23_Y HD23_Z HB23
  obtain ⟨U26, eU26, hb, hz, n260, n261⟩ := boxU u24_ 26 (.slice aN ts.length pN) (.slice bN xr.length qN)
  obtain ⟨GN, eGN⟩ : ∃ GN, u24_.heap.size = GN := ⟨_, rfl⟩
  have HGN := Lib.hid eGN
  have HY26 := Lib.hid hz
  rw [eGN] at n260 n261
  clear hz
  obtain ⟨c27_GD0, c27_GD1⟩ := box_below hb c25_GD0 c25_GD1
  obtain ⟨c27_GX0, c27_GX1⟩ := box_below hb c25_GX0 c25_GX1
  obtain ⟨c27_GY0, c27_GY1⟩ := box_below hb c25_GY0 c25_GY1
  obtain ⟨c27_GZ0, c27_GZ1⟩ := box_below hb c25_GZ0 c25_GZ1
  have HD27_D := Lib.hid (HD25_D.out.below hb)
  have HD27_X := Lib.hid (HD25_X.out.below hb)
  have HD27_Y := Lib.hid (HD25_Y.out.below hb)
  have HD27_Z := Lib.hid (HD25_Z.out.below hb)
  have HD27_N := Lib.hid (HON.out.below hb)
  have HB27 := Lib.hid (HB25.out.trans (hb.mono HB25.out.size))
  have HZ27 := Lib.hid hb.size
  clear hb c25_GD0 c25_GD1 c25_GX0 c25_GX1 c25_GY0 c25_GY1 c25_GZ0 c25_GZ1 HD25_D HD25_X HD25_Y HD25_Z HON HB25
  go_wp2_with fail
  clear eU26 eGN
  refine (Crashes.impl _ _ _ ts X1 [1] (HD27_X.out.dev.below ((Below.refl _ _).alloc (Nat.le_refl _) _)) (DevW.lit1 U26 3) (by simp)).mono ?_
  rw [KS5.out, KS6.out, EXR.out]
  rintro e u28_ ⟨r28, rfl, ho, hb0⟩
  have hb : Below U26.heap.size U26 u28_ := ((Below.refl _ _).alloc (Nat.le_refl _) _).trans (hb0.mono (by simp))
  have HOA := Lib.hid (ho.base (base' := U26.heap.size) (by simp))
  obtain ⟨aA, pA, bA, qA, rfl⟩ := form ho.dev
  clear ho hb0
  obtain ⟨c29_GD0, c29_GD1⟩ := box_below hb c27_GD0 c27_GD1
  obtain ⟨c29_GX0, c29_GX1⟩ := box_below hb c27_GX0 c27_GX1
  obtain ⟨c29_GY0, c29_GY1⟩ := box_below hb c27_GY0 c27_GY1
  obtain ⟨c29_GZ0, c29_GZ1⟩ := box_below hb c27_GZ0 c27_GZ1
  obtain ⟨c29_GN0, c29_GN1⟩ := box_below hb n260 n261
  have HD29_D := Lib.hid (HD27_D.out.below hb)
  have HD29_X := Lib.hid (HD27_X.out.below hb)
  have HD29_Y := Lib.hid (HD27_Y.out.below hb)
  have HD29_Z := Lib.hid (HD27_Z.out.below hb)
  have HD29_N := Lib.hid (HD27_N.out.below hb)
  have HB29 := Lib.hid (HB27.out.trans (hb.mono HB27.out.size))
  have HZ29 := Lib.hid hb.size
  clear hb c27_GD0 c27_GD1 c27_GX0 c27_GX1 c27_GY0 c27_GY1 c27_GZ0 c27_GZ1 n260 n261 HD27_D HD27_X HD27_Y HD27_Z HD27_N HB27
  obtain ⟨U30, eU30, hb, hz, n300, n301⟩ := boxU u28_ 26 (.slice aA T.length pA) (.slice bA xr.length qA)
  obtain ⟨GA, eGA⟩ : ∃ GA, u28_.heap.size = GA := ⟨_, rfl⟩
  have HGA := Lib.hid eGA
  have HY30 := Lib.hid hz
  rw [eGA] at n300 n301
  clear hz
  obtain ⟨c31_GD0, c31_GD1⟩ := box_below hb c29_GD0 c29_GD1
  obtain ⟨c31_GX0, c31_GX1⟩ := box_below hb c29_GX0 c29_GX1
  obtain ⟨c31_GY0, c31_GY1⟩ := box_below hb c29_GY0 c29_GY1
  obtain ⟨c31_GZ0, c31_GZ1⟩ := box_below hb c29_GZ0 c29_GZ1
  obtain ⟨c31_GN0, c31_GN1⟩ := box_below hb c29_GN0 c29_GN1
  have HD31_D := Lib.hid (HD29_D.out.below hb)
  have HD31_X := Lib.hid (HD29_X.out.below hb)
  have HD31_Y := Lib.hid (HD29_Y.out.below hb)
  have HD31_Z := Lib.hid (HD29_Z.out.below hb)
  have HD31_N := Lib.hid (HD29_N.out.below hb)
  have HD31_A := Lib.hid (HOA.out.below hb)
  have HB31 := Lib.hid (HB29.out.trans (hb.mono HB29.out.size))
  have HZ31 := Lib.hid hb.size
  clear hb c29_GD0 c29_GD1 c29_GX0 c29_GX1 c29_GY0 c29_GY1 c29_GZ0 c29_GZ1 c29_GN0 c29_GN1 HD29_D HD29_X HD29_Y HD29_Z HD29_N HOA HB29
  go_wp2_with fail
  clear eU30 eGA
  go_cut [22, 23] from 85 to 166 (fun v vc wx => ∃ (gg : Nat) (a_ b_ : Option Addr) (p_ q_ : Nat), v = .pointer (some ⟨gg, 0, none⟩) ∧ vc = .int .i64 0 ∧ (wx.cell? ⟨gg, 0, none⟩ = some (.slice a_ T2.length p_) ∧ wx.cell? ⟨gg, 1, none⟩ = some (.slice b_ xr.length q_)) ∧ Hid (Dev wx (.agg #[.slice a_ T2.length p_, .slice b_ xr.length q_]) T2 xr) ∧ Hid (Below U30.heap.size U30 wx))
  case first =>
    have lG := World.block_lt_of_cell? U30 _ c31_GX0
    simp only at lG
    have HROW := Lib.hid (DeviceOf.isRow_below H0.out HB31.out)
    clear c31_GD0 c31_GD1 c31_GY0 c31_GY1 c31_GZ0 c31_GZ1 c31_GN0 c31_GN1 n300 n301
    go_region_held3 (fun w' => w'.cell? ⟨GX, 0, none⟩ = some (.slice aX ts.length pX) ∧ w'.cell? ⟨GX, 1, none⟩ = some (.slice bX X1.length qX))
      (first | exact ⟨c31_GX0, c31_GX1⟩ | exact ⟨e4, e5⟩ | exact ⟨e0, e1⟩ | exact ⟨by go_simp, by go_simp⟩)
      (first
      | (go_at_call 20; refine (SrcF.fatesOf _ a0 len0 cap0 z0 (DeviceOf.isRow_below HROW.out (by repeat (with_reducible (first | exact Below.refl _ _ | refine Below.setCell ?_ (by first | exact Nat.le_refl _ | omega | (simp; done) | (simp; omega)) _ | refine Below.alloc ?_ (by first | exact Nat.le_refl _ | omega | (simp; done) | (simp; omega)) _ | refine Below.drew ?_ | refine below_drewN ?_ _))))).mono ?_; rw [EFC.out]; rintro e y32 ⟨rr, rfl, ho, hb⟩; obtain ⟨hc1, hf1⟩ := DevW.bcell hb; have hz1 := hb.size; have HC1 := Lib.hid hb; have HEY : Hid (Below U30.heap.size U30 y32) := Lib.hid (by repeat (with_reducible (first | exact Below.refl _ _ | refine Below.setCell ?_ (by first | exact Nat.le_refl _ | omega | (simp; done) | (simp; omega)) _ | refine Below.alloc ?_ (by first | exact Nat.le_refl _ | omega | (simp; done) | (simp; omega)) _ | refine Below.drew ?_ | refine below_drewN ?_ _ | refine Below.trans ?_ (HC1.out.mono (by first | exact Nat.le_refl _ | omega | (simp; done) | (simp; omega)))))); have HOY := Lib.hid ho; obtain ⟨e0, e1⟩ := box_below HEY.out c31_GX0 c31_GX1; clear ho hb; (try simp only [World.size_drew] at hc1 hf1 hz1); (try simp only [World.size_alloc] at hc1 hf1 hz1); have lY : GX < y32.heap.size := (by omega); (try have l0 : U30.heap.size < y32.heap.size := (by omega)))
      | (go_at_call 19; refine (Crashes.impl _ _ _ ts X1 FC (HD31_X.out.dev.below (by repeat (with_reducible (first | exact Below.refl _ _ | refine Below.setCell ?_ (by first | exact Nat.le_refl _ | omega | (simp; done) | (simp; omega)) _ | refine Below.alloc ?_ (by first | exact Nat.le_refl _ | omega | (simp; done) | (simp; omega)) _ | refine Below.drew ?_ | refine below_drewN ?_ _ | refine Below.trans ?_ (HEY.out.mono (by first | exact Nat.le_refl _ | omega | (simp; done) | (simp; omega))))))) (HOY.out.sl.below (by repeat (with_reducible (first | exact Below.refl _ _ | refine Below.setCell ?_ (by first | exact Nat.le_refl _ | omega | (simp; done) | (simp; omega)) _ | refine Below.alloc ?_ (by first | exact Nat.le_refl _ | omega | (simp; done) | (simp; omega)) _ | refine Below.drew ?_ | refine below_drewN ?_ _)))) (by have := HFC.out.1; omega)).mono ?_; rw [KT1.out, KT2.out, EXR.out]; rintro e z32 ⟨r32, rfl, ho, hb⟩; obtain ⟨hc2, hf2⟩ := DevW.bcell hb; have hz2 := hb.size; have HC2 := Lib.hid hb; have HEZ : Hid (Below U30.heap.size U30 z32) := Lib.hid (by repeat (with_reducible (first | exact Below.refl _ _ | refine Below.setCell ?_ (by first | exact Nat.le_refl _ | omega | (simp; done) | (simp; omega)) _ | refine Below.alloc ?_ (by first | exact Nat.le_refl _ | omega | (simp; done) | (simp; omega)) _ | refine Below.drew ?_ | refine below_drewN ?_ _ | refine Below.trans ?_ (HC2.out.mono (by first | exact Nat.le_refl _ | omega | (simp; done) | (simp; omega))) | refine Below.trans ?_ (HEY.out.mono (by first | exact Nat.le_refl _ | omega | (simp; done) | (simp; omega)))))); have HOR := Lib.hid ho; obtain ⟨aR, pR, bR, qR, rfl⟩ := form ho.dev; obtain ⟨e4, e5⟩ := box_below HEZ.out c31_GX0 c31_GX1; clear ho hb; (try simp only [World.size_drew] at hc2 hf2 hz2); (try simp only [World.size_alloc] at hc2 hf2 hz2); have lZ : GX < z32.heap.size := (by omega); (try have l1 : U30.heap.size < z32.heap.size := (by omega)); (try have l2 : y32.heap.size < z32.heap.size := (by omega))))
    all_goals
      go_wp2_with fail
      go_meet
      refine ⟨_, aR, bR, pR, qR, rfl, rfl, ⟨?_, ?_⟩, Lib.hid ?_, Lib.hid ?_⟩
      · go_simp
      · go_simp
      · first
        | exact DevW.dev_stored HOR.out (by first | exact Nat.le_refl _ | omega | (simp; done) | (simp; omega)) _ _
        | exact HOR.out.dev.below (by repeat (with_reducible (first | exact Below.refl _ _ | refine Below.setCell ?_ (by first | exact Nat.le_refl _ | omega | (simp; done) | (simp; omega)) _ | refine Below.alloc ?_ (by first | exact Nat.le_refl _ | omega | (simp; done) | (simp; omega)) _ | refine Below.drew ?_ | refine below_drewN ?_ _)))
      · exact (by repeat (with_reducible (first | exact Below.refl _ _ | refine Below.setCell ?_ (by first | exact Nat.le_refl _ | omega | (simp; done) | (simp; omega)) _ | refine Below.alloc ?_ (by first | exact Nat.le_refl _ | omega | (simp; done) | (simp; omega)) _ | refine Below.drew ?_ | refine below_drewN ?_ _ | refine Below.trans ?_ (HEZ.out.mono (by first | exact Nat.le_refl _ | omega | (simp; done) | (simp; omega))))))
  case rest =>
  obtain ⟨GR, aR, bR, pR, qR, rfl, rfl, ⟨n320, n321⟩, HOR, HBC⟩ := hcut
  have hb := HBC.out
  clear HBC
  obtain ⟨c33_GD0, c33_GD1⟩ := box_below hb c31_GD0 c31_GD1
  obtain ⟨c33_GX0, c33_GX1⟩ := box_below hb c31_GX0 c31_GX1
  obtain ⟨c33_GY0, c33_GY1⟩ := box_below hb c31_GY0 c31_GY1
  obtain ⟨c33_GZ0, c33_GZ1⟩ := box_below hb c31_GZ0 c31_GZ1
  obtain ⟨c33_GN0, c33_GN1⟩ := box_below hb c31_GN0 c31_GN1
  obtain ⟨c33_GA0, c33_GA1⟩ := box_below hb n300 n301
  have HD33_D := Lib.hid (HD31_D.out.below hb)
  have HD33_X := Lib.hid (HD31_X.out.below hb)
  have HD33_Y := Lib.hid (HD31_Y.out.below hb)
  have HD33_Z := Lib.hid (HD31_Z.out.below hb)
  have HD33_N := Lib.hid (HD31_N.out.below hb)
  have HD33_A := Lib.hid (HD31_A.out.below hb)
  have HB33 := Lib.hid (HB31.out.trans (hb.mono HB31.out.size))
  have HZ33 := Lib.hid hb.size
  clear hb c31_GD0 c31_GD1 c31_GX0 c31_GX1 c31_GY0 c31_GY1 c31_GZ0 c31_GZ1 c31_GN0 c31_GN1 n300 n301 HD31_D HD31_X HD31_Y HD31_Z HD31_N HD31_A HB31
  go_wp2_with fail
  have dX : ((xr.length : Int) == 0) = true := by rw [← EXR.out]; rfl
  go_cut [24, 25] from 92 to 166 (fun v vc wx => ∃ (gg : Nat) (a_ b_ : Option Addr) (p_ q_ : Nat), v = .pointer (some ⟨gg, 0, none⟩) ∧ vc = .int .i64 0 ∧ (wx.cell? ⟨gg, 0, none⟩ = some (.slice a_ T2.length p_) ∧ wx.cell? ⟨gg, 1, none⟩ = some (.slice b_ xr.length q_)) ∧ Hid (Dev wx (.agg #[.slice a_ T2.length p_, .slice b_ xr.length q_]) T2 xr) ∧ Hid (Below wc.heap.size wc wx))
  case first =>
    have lG := World.block_lt_of_cell? wc _ c33_GX0
    simp only at lG
    have HROW := Lib.hid (DeviceOf.isRow_below H0.out HB33.out)
    clear c33_GD0 c33_GD1 c33_GY0 c33_GY1 c33_GZ0 c33_GZ1 c33_GN0 c33_GN1 c33_GA0 c33_GA1 n320 n321
    go_region_held3 (fun w' => w'.cell? ⟨GX, 0, none⟩ = some (.slice aX ts.length pX) ∧ w'.cell? ⟨GX, 1, none⟩ = some (.slice bX X1.length qX))
      (first | exact ⟨c33_GX0, c33_GX1⟩ | exact ⟨e4, e5⟩ | exact ⟨e0, e1⟩ | exact ⟨by go_simp, by go_simp⟩)
      (first
      | (go_at_call 20; refine (SrcF.fatesOf _ a0 len0 cap0 z0 (DeviceOf.isRow_below HROW.out (by repeat (with_reducible (first | exact Below.refl _ _ | refine Below.setCell ?_ (by first | exact Nat.le_refl _ | omega | (simp; done) | (simp; omega)) _ | refine Below.alloc ?_ (by first | exact Nat.le_refl _ | omega | (simp; done) | (simp; omega)) _ | refine Below.drew ?_ | refine below_drewN ?_ _))))).mono ?_; rw [EFC.out]; rintro e y34 ⟨rr, rfl, ho, hb⟩; obtain ⟨hc1, hf1⟩ := DevW.bcell hb; have hz1 := hb.size; have HC1 := Lib.hid hb; have HEY : Hid (Below wc.heap.size wc y34) := Lib.hid (by repeat (with_reducible (first | exact Below.refl _ _ | refine Below.setCell ?_ (by first | exact Nat.le_refl _ | omega | (simp; done) | (simp; omega)) _ | refine Below.alloc ?_ (by first | exact Nat.le_refl _ | omega | (simp; done) | (simp; omega)) _ | refine Below.drew ?_ | refine below_drewN ?_ _ | refine Below.trans ?_ (HC1.out.mono (by first | exact Nat.le_refl _ | omega | (simp; done) | (simp; omega)))))); have HOY := Lib.hid ho; obtain ⟨e0, e1⟩ := box_below HEY.out c33_GX0 c33_GX1; clear ho hb; (try simp only [World.size_drew] at hc1 hf1 hz1); (try simp only [World.size_alloc] at hc1 hf1 hz1); have lY : GX < y34.heap.size := (by omega); (try have l0 : wc.heap.size < y34.heap.size := (by omega)))
      | (go_at_call 21; refine (Crashes.spec _ _ _ ts X1 FC (HD33_X.out.dev.below (by repeat (with_reducible (first | exact Below.refl _ _ | refine Below.setCell ?_ (by first | exact Nat.le_refl _ | omega | (simp; done) | (simp; omega)) _ | refine Below.alloc ?_ (by first | exact Nat.le_refl _ | omega | (simp; done) | (simp; omega)) _ | refine Below.drew ?_ | refine below_drewN ?_ _ | refine Below.trans ?_ (HEY.out.mono (by first | exact Nat.le_refl _ | omega | (simp; done) | (simp; omega))))))) (HOY.out.sl.below (by repeat (with_reducible (first | exact Below.refl _ _ | refine Below.setCell ?_ (by first | exact Nat.le_refl _ | omega | (simp; done) | (simp; omega)) _ | refine Below.alloc ?_ (by first | exact Nat.le_refl _ | omega | (simp; done) | (simp; omega)) _ | refine Below.drew ?_ | refine below_drewN ?_ _)))) (by have := HFC.out.1; omega)).mono ?_; rw [KT1.out, KT2.out, EXR.out]; rintro e z34 ⟨r34, rfl, ho, hb⟩; obtain ⟨hc2, hf2⟩ := DevW.bcell hb; have hz2 := hb.size; have HC2 := Lib.hid hb; have HEZ : Hid (Below wc.heap.size wc z34) := Lib.hid (by repeat (with_reducible (first | exact Below.refl _ _ | refine Below.setCell ?_ (by first | exact Nat.le_refl _ | omega | (simp; done) | (simp; omega)) _ | refine Below.alloc ?_ (by first | exact Nat.le_refl _ | omega | (simp; done) | (simp; omega)) _ | refine Below.drew ?_ | refine below_drewN ?_ _ | refine Below.trans ?_ (HC2.out.mono (by first | exact Nat.le_refl _ | omega | (simp; done) | (simp; omega))) | refine Below.trans ?_ (HEY.out.mono (by first | exact Nat.le_refl _ | omega | (simp; done) | (simp; omega)))))); have HOV := Lib.hid ho; obtain ⟨aV, pV, bV, qV, rfl⟩ := form ho.dev; obtain ⟨e4, e5⟩ := box_below HEZ.out c33_GX0 c33_GX1; clear ho hb; (try simp only [World.size_drew] at hc2 hf2 hz2); (try simp only [World.size_alloc] at hc2 hf2 hz2); have lZ : GX < z34.heap.size := (by omega); (try have l1 : wc.heap.size < z34.heap.size := (by omega)); (try have l2 : y34.heap.size < z34.heap.size := (by omega))))
    all_goals
      go_wp2_with fail
      go_meet
      refine ⟨_, aV, bV, pV, qV, rfl, rfl, ⟨?_, ?_⟩, Lib.hid ?_, Lib.hid ?_⟩
      · go_simp
      · go_simp
      · first
        | exact DevW.dev_stored HOV.out (by first | exact Nat.le_refl _ | omega | (simp; done) | (simp; omega)) _ _
        | exact HOV.out.dev.below (by repeat (with_reducible (first | exact Below.refl _ _ | refine Below.setCell ?_ (by first | exact Nat.le_refl _ | omega | (simp; done) | (simp; omega)) _ | refine Below.alloc ?_ (by first | exact Nat.le_refl _ | omega | (simp; done) | (simp; omega)) _ | refine Below.drew ?_ | refine below_drewN ?_ _)))
      · exact (by repeat (with_reducible (first | exact Below.refl _ _ | refine Below.setCell ?_ (by first | exact Nat.le_refl _ | omega | (simp; done) | (simp; omega)) _ | refine Below.alloc ?_ (by first | exact Nat.le_refl _ | omega | (simp; done) | (simp; omega)) _ | refine Below.drew ?_ | refine below_drewN ?_ _ | refine Below.trans ?_ (HEZ.out.mono (by first | exact Nat.le_refl _ | omega | (simp; done) | (simp; omega))))))
  case rest =>
  obtain ⟨GV, aV, bV, pV, qV, rfl, rfl, ⟨n340, n341⟩, HOV, HBC⟩ := hcut
  have hb := HBC.out
  clear HBC
  obtain ⟨c35_GD0, c35_GD1⟩ := box_below hb c33_GD0 c33_GD1
  obtain ⟨c35_GX0, c35_GX1⟩ := box_below hb c33_GX0 c33_GX1
  obtain ⟨c35_GY0, c35_GY1⟩ := box_below hb c33_GY0 c33_GY1
  obtain ⟨c35_GZ0, c35_GZ1⟩ := box_below hb c33_GZ0 c33_GZ1
  obtain ⟨c35_GN0, c35_GN1⟩ := box_below hb c33_GN0 c33_GN1
  obtain ⟨c35_GA0, c35_GA1⟩ := box_below hb c33_GA0 c33_GA1
  obtain ⟨c35_GR0, c35_GR1⟩ := box_below hb n320 n321
  have HD35_D := Lib.hid (HD33_D.out.below hb)
  have HD35_X := Lib.hid (HD33_X.out.below hb)
  have HD35_Y := Lib.hid (HD33_Y.out.below hb)
  have HD35_Z := Lib.hid (HD33_Z.out.below hb)
  have HD35_N := Lib.hid (HD33_N.out.below hb)
  have HD35_A := Lib.hid (HD33_A.out.below hb)
  have HD35_R := Lib.hid (HOR.out.below hb)
  have HB35 := Lib.hid (HB33.out.trans (hb.mono HB33.out.size))
  have HZ35 := Lib.hid hb.size
  clear hb c33_GD0 c33_GD1 c33_GX0 c33_GX1 c33_GY0 c33_GY1 c33_GZ0 c33_GZ1 c33_GN0 c33_GN1 c33_GA0 c33_GA1 n320 n321 HD33_D HD33_X HD33_Y HD33_Z HD33_N HD33_A HOR HB33
  go_wp2_with fail
  refine (SameL.sameTexts wc _ _ ts (DevW.sl_of HD35_N.out.dev) (DevW.sl_of HD35_D.out.dev)).mono ?_
  rintro e u36 ⟨rfl, hb⟩
  obtain ⟨c37_GD0, c37_GD1⟩ := box_below hb c35_GD0 c35_GD1
  obtain ⟨c37_GX0, c37_GX1⟩ := box_below hb c35_GX0 c35_GX1
  obtain ⟨c37_GY0, c37_GY1⟩ := box_below hb c35_GY0 c35_GY1
  obtain ⟨c37_GZ0, c37_GZ1⟩ := box_below hb c35_GZ0 c35_GZ1
  obtain ⟨c37_GN0, c37_GN1⟩ := box_below hb c35_GN0 c35_GN1
  obtain ⟨c37_GA0, c37_GA1⟩ := box_below hb c35_GA0 c35_GA1
  obtain ⟨c37_GR0, c37_GR1⟩ := box_below hb c35_GR0 c35_GR1
  obtain ⟨c37_GV0, c37_GV1⟩ := box_below hb n340 n341
  have HD37_D := Lib.hid (HD35_D.out.below hb)
  have HD37_X := Lib.hid (HD35_X.out.below hb)
  have HD37_Y := Lib.hid (HD35_Y.out.below hb)
  have HD37_Z := Lib.hid (HD35_Z.out.below hb)
  have HD37_N := Lib.hid (HD35_N.out.below hb)
  have HD37_A := Lib.hid (HD35_A.out.below hb)
  have HD37_R := Lib.hid (HD35_R.out.below hb)
  have HD37_V := Lib.hid (HOV.out.below hb)
  have HB37 := Lib.hid (HB35.out.trans (hb.mono HB35.out.size))
  have HZ37 := Lib.hid hb.size
  clear hb c35_GD0 c35_GD1 c35_GX0 c35_GX1 c35_GY0 c35_GY1 c35_GZ0 c35_GZ1 c35_GN0 c35_GN1 c35_GA0 c35_GA1 c35_GR0 c35_GR1 n340 n341 HD35_D HD35_X HD35_Y HD35_Z HD35_N HD35_A HD35_R HOV HB35
  go_wp2_with fail
  refine (SameL.sameDevice u36 _ _ T xr HD37_A.out.dev HD37_Y.out.dev).mono ?_
  rintro e u38 ⟨rfl, hb⟩
  obtain ⟨c39_GD0, c39_GD1⟩ := box_below hb c37_GD0 c37_GD1
  obtain ⟨c39_GX0, c39_GX1⟩ := box_below hb c37_GX0 c37_GX1
  obtain ⟨c39_GY0, c39_GY1⟩ := box_below hb c37_GY0 c37_GY1
  obtain ⟨c39_GZ0, c39_GZ1⟩ := box_below hb c37_GZ0 c37_GZ1
  obtain ⟨c39_GN0, c39_GN1⟩ := box_below hb c37_GN0 c37_GN1
  obtain ⟨c39_GA0, c39_GA1⟩ := box_below hb c37_GA0 c37_GA1
  obtain ⟨c39_GR0, c39_GR1⟩ := box_below hb c37_GR0 c37_GR1
  obtain ⟨c39_GV0, c39_GV1⟩ := box_below hb c37_GV0 c37_GV1
  have HD39_D := Lib.hid (HD37_D.out.below hb)
  have HD39_X := Lib.hid (HD37_X.out.below hb)
  have HD39_Y := Lib.hid (HD37_Y.out.below hb)
  have HD39_Z := Lib.hid (HD37_Z.out.below hb)
  have HD39_N := Lib.hid (HD37_N.out.below hb)
  have HD39_A := Lib.hid (HD37_A.out.below hb)
  have HD39_R := Lib.hid (HD37_R.out.below hb)
  have HD39_V := Lib.hid (HD37_V.out.below hb)
  have HB39 := Lib.hid (HB37.out.trans (hb.mono HB37.out.size))
  have HZ39 := Lib.hid hb.size
  clear hb c37_GD0 c37_GD1 c37_GX0 c37_GX1 c37_GY0 c37_GY1 c37_GZ0 c37_GZ1 c37_GN0 c37_GN1 c37_GA0 c37_GA1 c37_GR0 c37_GR1 c37_GV0 c37_GV1 HD37_D HD37_X HD37_Y HD37_Z HD37_N HD37_A HD37_R HD37_V HB37
  go_wp2_with fail
  refine (SameL.sameDevice u38 _ _ T2 xr HD39_R.out HD39_V.out).mono ?_
  rintro e u40 ⟨rfl, hb⟩
  obtain ⟨c41_GD0, c41_GD1⟩ := box_below hb c39_GD0 c39_GD1
  obtain ⟨c41_GX0, c41_GX1⟩ := box_below hb c39_GX0 c39_GX1
  obtain ⟨c41_GY0, c41_GY1⟩ := box_below hb c39_GY0 c39_GY1
  obtain ⟨c41_GZ0, c41_GZ1⟩ := box_below hb c39_GZ0 c39_GZ1
  obtain ⟨c41_GN0, c41_GN1⟩ := box_below hb c39_GN0 c39_GN1
  obtain ⟨c41_GA0, c41_GA1⟩ := box_below hb c39_GA0 c39_GA1
  obtain ⟨c41_GR0, c41_GR1⟩ := box_below hb c39_GR0 c39_GR1
  obtain ⟨c41_GV0, c41_GV1⟩ := box_below hb c39_GV0 c39_GV1
  have HD41_D := Lib.hid (HD39_D.out.below hb)
  have HD41_X := Lib.hid (HD39_X.out.below hb)
  have HD41_Y := Lib.hid (HD39_Y.out.below hb)
  have HD41_Z := Lib.hid (HD39_Z.out.below hb)
  have HD41_N := Lib.hid (HD39_N.out.below hb)
  have HD41_A := Lib.hid (HD39_A.out.below hb)
  have HD41_R := Lib.hid (HD39_R.out.below hb)
  have HD41_V := Lib.hid (HD39_V.out.below hb)
  have HB41 := Lib.hid (HB39.out.trans (hb.mono HB39.out.size))
  have HZ41 := Lib.hid hb.size
  clear hb c39_GD0 c39_GD1 c39_GX0 c39_GX1 c39_GY0 c39_GY1 c39_GZ0 c39_GZ1 c39_GN0 c39_GN1 c39_GA0 c39_GA1 c39_GR0 c39_GR1 c39_GV0 c39_GV1 HD39_D HD39_X HD39_Y HD39_Z HD39_N HD39_A HD39_R HD39_V HB39
  go_wp2_with fail
  refine (Right.implOK u40 _ T2 xr HD41_R.out).mono ?_
  rw [decide_eq_true KT3.out]
  rintro e u42 ⟨rfl, hb⟩
  obtain ⟨c43_GD0, c43_GD1⟩ := box_below hb c41_GD0 c41_GD1
  obtain ⟨c43_GX0, c43_GX1⟩ := box_below hb c41_GX0 c41_GX1
  obtain ⟨c43_GY0, c43_GY1⟩ := box_below hb c41_GY0 c41_GY1
  obtain ⟨c43_GZ0, c43_GZ1⟩ := box_below hb c41_GZ0 c41_GZ1
  obtain ⟨c43_GN0, c43_GN1⟩ := box_below hb c41_GN0 c41_GN1
  obtain ⟨c43_GA0, c43_GA1⟩ := box_below hb c41_GA0 c41_GA1
  obtain ⟨c43_GR0, c43_GR1⟩ := box_below hb c41_GR0 c41_GR1
  obtain ⟨c43_GV0, c43_GV1⟩ := box_below hb c41_GV0 c41_GV1
  have HD43_D := Lib.hid (HD41_D.out.below hb)
  have HD43_X := Lib.hid (HD41_X.out.below hb)
  have HD43_Y := Lib.hid (HD41_Y.out.below hb)
  have HD43_Z := Lib.hid (HD41_Z.out.below hb)
  have HD43_N := Lib.hid (HD41_N.out.below hb)
  have HD43_A := Lib.hid (HD41_A.out.below hb)
  have HD43_R := Lib.hid (HD41_R.out.below hb)
  have HD43_V := Lib.hid (HD41_V.out.below hb)
  have HB43 := Lib.hid (HB41.out.trans (hb.mono HB41.out.size))
  have HZ43 := Lib.hid hb.size
  clear hb c41_GD0 c41_GD1 c41_GX0 c41_GX1 c41_GY0 c41_GY1 c41_GZ0 c41_GZ1 c41_GN0 c41_GN1 c41_GA0 c41_GA1 c41_GR0 c41_GR1 c41_GV0 c41_GV1 HD41_D HD41_X HD41_Y HD41_Z HD41_N HD41_A HD41_R HD41_V HB41
  go_wp2_with fail
  go_ret
  exact ⟨rfl, HB43.out⟩
end Go.Proofs.Ytmgokpkogjdfhaa.FnDevice
