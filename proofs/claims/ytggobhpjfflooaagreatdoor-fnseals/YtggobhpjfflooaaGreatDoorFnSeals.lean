/-
  What is proved: the law on blocks (a block is opened in its place, its kind and its epoch; nonces of another place or epoch are others; numbers are read back from their bytes) returns true (the walk), where the package's errors and errors' own variable stand in their places.
-/
import Derived.Test.YtggobhpjfflooaaGreatDoorRows
import Derived.Test.YtggobhpjfflooaaGreatDoorSealsW
import Derived.Test.YtggobhpjfflooaaGreatDoorLeaves
import Derived.Test.YtggobhpjfflooaaGreatDoorSrcA
namespace Go.Proofs.YtggobhpjfflooaaGreatDoor.FnSeals
open Go.ChangeShapes Go.WideShapes Go.ChangeAt Go.RowKit
open Sl (Sl Own Off)
open OpenSl (tc nc pc)
open BoxErr (Two Three)
open BoxL (sealT sealT_size)
open As (Hnd)
open Nonce (Ok In nonT nonT_size)
open FnBox (isRow_below)
open Src (IsRow)
set_option linter.unusedVariables false

theorem list_ne {a b : ByteArray} (h : a ≠ b) : ¬ a.toList = b.toList := fun e => h (bytes_inj (by rw [← ByteArray.toList_eq, ← ByteArray.toList_eq]; exact e))
theorem non_nat (K P E : Nat) : SealAtL.non (K : Int) (P : Int) (E : Int) = nonT K P E := by
  unfold SealAtL.non
  rw [Int.toNat_natCast, Int.toNat_natCast, Int.toNat_natCast]

set_option maxRecDepth 100000 in
set_option maxHeartbeats 3200000 in
theorem walk (a0 : Option Addr) (len0 cap0 : Nat) (z0 : List Int) (a1 : Option Addr) (len1 cap1 : Nat) (z1 : List Int) (w : World) (h0 : IsRow .u8 w a0 len0 cap0 z0) (h1 : IsRow .u8 w a1 len1 cap1 z1) (e0 e1 e2 : Addr) (E : Three w e0 e1 e2) (HN : Hnd w) :
    Calls Tryz.prog 3 #[.slice a0 len0 cap0, .slice a1 len1 cap1] w fun e w' => e = .returned (.bool true) ∧ Below w.heap.size w w' := by
  have m0 := h0.code.1
  have m1 := h1.code.1
  unfold maxLen at m0 m1
  have H0 := Lib.hid h0
  have H1 := Lib.hid h1
  have HE := Lib.hid (And.intro E HN)
  clear h0 h1 E HN
  by_cases b0 : 1048576 < len0
  · go_enter Tryz.func3, Tryz.ntmps3
    go_wp2_with fail
    go_ret
    exact ⟨rfl, Below.refl _ _⟩
  by_cases b1 : 1048576 < len1
  · have d0 : decide (1048576 < (len0 : Int)) = false := decide_eq_false (by omega)
    go_enter Tryz.func3, Tryz.ntmps3
    go_wp2_with fail
    go_ret
    exact ⟨rfl, Below.refl _ _⟩
  have d0 : decide (1048576 < (len0 : Int)) = false := decide_eq_false (by omega)
  have d1 : decide (1048576 < (len1 : Int)) = false := decide_eq_false (by omega)
  have hl0 : len0 ≤ 1048576 := by omega
  have hl1 : len1 ≤ 1048576 := by omega
  clear b0 b1 m0 m1
  go_enter Tryz.func3, Tryz.ntmps3
  go_wp2_with fail
  clear d0 d1
  refine (SrcKeyT.keyOf w a0 len0 cap0 z0 H0.out).mono ?_
  rintro e w1 ⟨bs0, rfl, hs0, hb1⟩
  have HB1 := Lib.hid hb1
  clear hb1
  obtain ⟨key, ekey⟩ : ∃ t : ByteArray, (⟨bs0.toArray⟩ : ByteArray) = t := ⟨_, rfl⟩
  have HK := Lib.hid (show key.size = 32 by rw [← ekey]; exact List.size_toArray.trans hs0)
  rw [ekey]
  clear ekey hs0
  go_wp2_with fail
  refine (Src.textOf w1 a1 len1 cap1 z1 (isRow_below H1.out HB1.out)).mono ?_
  rintro e w2 ⟨bs3, rfl, hs3, hb2⟩
  have HB2 := Lib.hid (HB1.out.trans (hb2.mono HB1.out.size))
  clear hb2 HB1
  obtain ⟨t, et⟩ : ∃ t : ByteArray, (⟨bs3.toArray⟩ : ByteArray) = t := ⟨_, rfl⟩
  have HT := Lib.hid (show t.size ≤ 199 by rw [← et]; exact Nat.le_trans (Nat.le_of_eq List.size_toArray) hs3)
  rw [et]
  clear et hs3
  go_wp2_with fail
  refine (At.at_ w2 a1 len1 cap1 z1 (isRow_below H1.out HB2.out) hl1 0 (by omega) 0 rfl 3 (by omega)).mono ?_
  obtain ⟨i, ei⟩ : ∃ i : Nat, At.val z1 len1 0 3 = (i : Int) := ⟨_, (Int.toNat_of_nonneg (At.val_nonneg _ _ _ _)).symm⟩
  have hi : i < 3 := by have := At.val_lt z1 len1 0 3 (by omega); omega
  rw [ei]
  clear ei
  rintro e w3' ⟨rfl, n3, rfl⟩
  have HB3 := Lib.hid (below_drewN HB2.out n3)
  clear HB2
  generalize w2.drewN n3 = w3 at *
  obtain ⟨K, eK⟩ : ∃ K, 1 + i = K := ⟨_, rfl⟩
  have k1 : (1 : Int) + (i : Int) = (K : Int) := by omega
  have k2 : IntKind.i64.wrap (K : Int) = K := by rw [IntKind.wrap_i64]; omega
  have hK : K ≤ 3 ∧ 1 ≤ K := by omega
  have HKK := Lib.hid hK
  clear eK hi hK
  go_wp2_with fail
  refine (At.at_ w3 a1 len1 cap1 z1 (isRow_below H1.out HB3.out) hl1 1 (by omega) 1 rfl 39 (by omega)).mono ?_
  obtain ⟨P, eP⟩ : ∃ i : Nat, At.val z1 len1 1 39 = (i : Int) := ⟨_, (Int.toNat_of_nonneg (At.val_nonneg _ _ _ _)).symm⟩
  have hP : P < 39 := by have := At.val_lt z1 len1 1 39 (by omega); omega
  rw [eP]
  clear eP k1 k2
  rintro e w4' ⟨rfl, n4, rfl⟩
  have HB4 := Lib.hid (below_drewN HB3.out n4)
  clear HB3
  generalize w3.drewN n4 = w4 at *
  go_wp2_with fail
  refine (At.at_ w4 a1 len1 cap1 z1 (isRow_below H1.out HB4.out) hl1 2 (by omega) 2 rfl 5000 (by omega)).mono ?_
  obtain ⟨T, eT⟩ : ∃ i : Nat, At.val z1 len1 2 5000 = (i : Int) := ⟨_, (Int.toNat_of_nonneg (At.val_nonneg _ _ _ _)).symm⟩
  have hT : T < 5000 := by have := At.val_lt z1 len1 2 5000 (by omega); omega
  rw [eT]
  clear eT
  rintro e w5' ⟨rfl, n5, rfl⟩
  have HB5 := Lib.hid (below_drewN HB4.out n5)
  clear HB4
  generalize w4.drewN n5 = w5 at *
  have mk : key.size ≤ maxLen := by rw [HK.out]; unfold maxLen; omega
  have ht : t.size ≤ 199 := HT.out
  have mt : t.size ≤ maxLen := by unfold maxLen; omega
  obtain ⟨P1, eP1⟩ : ∃ x, P + 1 = x := ⟨_, rfl⟩
  obtain ⟨T1, eT1⟩ : ∃ x, T + 1 = x := ⟨_, rfl⟩
  have hKK := HKK.out
  have o1 : Ok (K : Int) (P : Int) (T : Int) := ⟨by omega, by omega, ⟨by omega, by omega⟩, by omega, by omega⟩
  have o2 : Ok (K : Int) (P1 : Int) (T : Int) := ⟨by omega, by omega, ⟨by omega, by omega⟩, by omega, by omega⟩
  have o3 : Ok (K : Int) (P : Int) (T1 : Int) := ⟨by omega, by omega, ⟨by omega, by omega⟩, by omega, by omega⟩
  have mX : (sealT key (SealAtL.non (K : Int) (P : Int) (T : Int)) SealAtL.bk t).size ≤ maxLen := by rw [sealT_size]; unfold maxLen; omega
  have C1 := Lib.hid (fun u (h : Three u e0 e1 e2 ∧ Hnd u) => SealAtL.impl key (K : Int) (P : Int) (T : Int) t mk mt e0 e1 u h.1.two h.2)
  have C2 := Lib.hid (SealAtL.spec key (K : Int) (P : Int) (T : Int) t mk mt)
  have C3 := Lib.hid (fun u (h : Three u e0 e1 e2 ∧ Hnd u) => OpenAtL.impl key (K : Int) (P : Int) (T : Int) (sealT key (SealAtL.non (K : Int) (P : Int) (T : Int)) SealAtL.bk t) mk mX e0 e1 e2 u h.1 h.2)
  have N1 := Lib.hid (fun u (h : Three u e0 e1 e2 ∧ Hnd u) => Nonce2.impl (K : Int) (P : Int) (T : Int) u h.2)
  have N2 := Lib.hid (fun u (h : Three u e0 e1 e2 ∧ Hnd u) => Nonce2.impl (K : Int) (P1 : Int) (T : Int) u h.2)
  have N3 := Lib.hid (fun u (h : Three u e0 e1 e2 ∧ Hnd u) => Nonce2.impl (K : Int) (P : Int) (T1 : Int) u h.2)
  rw [SealsW.seal_ok key _ _ _ t HK.out (by omega) o1] at C1 C2
  rw [SealsW.open_ok key _ _ _ t HK.out (by omega) o1] at C3
  rw [SealsW.res_ok _ _ _ o1] at N1
  rw [SealsW.res_ok _ _ _ o2] at N2
  rw [SealsW.res_ok _ _ _ o3] at N3
  have hns := SealAtL.non_size (K : Int) (P : Int) (T : Int)
  have x1 : SealAtL.non (K : Int) (P : Int) (T : Int) ≠ SealAtL.non (K : Int) (P1 : Int) (T : Int) := by rw [non_nat, non_nat]; exact SealsW.ne_place _ _ _ _ _ _ (by omega) (by omega) (by omega)
  have x2 : SealAtL.non (K : Int) (P : Int) (T : Int) ≠ SealAtL.non (K : Int) (P : Int) (T1 : Int) := by rw [non_nat, non_nat, ← eT1]; exact SealsW.ne_epoch _ _ _ _ _
  have x3 : SealAtL.non (K : Int) (P1 : Int) (T : Int) ≠ SealAtL.non (K : Int) (P : Int) (T1 : Int) := by rw [non_nat, non_nat]; exact SealsW.ne_place _ _ _ _ _ _ (by omega) (by omega) (by omega)
  have HX := Lib.hid (And.intro hns (And.intro x1 (And.intro x2 x3)))
  clear o1 o2 o3 mX mk mt hns x1 x2 x3 ht hKK
  generalize sealT key (SealAtL.non (K : Int) (P : Int) (T : Int)) SealAtL.bk t = X at *
  generalize SealAtL.non (K : Int) (P : Int) (T : Int) = NA at *
  generalize SealAtL.non (K : Int) (P1 : Int) (T : Int) = NB at *
  generalize SealAtL.non (K : Int) (P : Int) (T1 : Int) = NC at *
  have below2 := Lib.hid (fun u (hb : Below w.heap.size w u) => (And.intro (HE.out.1.below hb) (HE.out.2.below hb) : Three u e0 e1 e2 ∧ Hnd u))
  go_wp2_with fail
  refine (C1.out _ (below2.out _ HB5.out)).mono ?_
  rintro e w6 ⟨rfl, hb⟩
  have HB6 := Lib.hid (HB5.out.trans (hb.mono HB5.out.size))
  clear hb HB5
  go_wp2_with fail
  refine (C2.out _).mono ?_
  rintro e w7 ⟨rfl, hb⟩
  have HB7 := Lib.hid (HB6.out.trans (hb.mono HB6.out.size))
  clear hb HB6
  go_wp2_with fail
  refine (C3.out _ (below2.out _ HB7.out)).mono ?_
  rintro e w8 ⟨rfl, hb⟩
  have HB8 := Lib.hid (HB7.out.trans (hb.mono HB7.out.size))
  clear hb HB7 C1 C2 C3
  go_wp2_with fail
  refine (N1.out _ (below2.out _ HB8.out)).mono ?_
  rintro e w9 ⟨rfl, hb⟩
  have HB9 := Lib.hid (HB8.out.trans (hb.mono HB8.out.size))
  clear hb HB8 N1
  have p1 : (P : Int) + 1 = (P1 : Int) := by omega
  have p2 : IntKind.i64.wrap (P1 : Int) = P1 := by rw [IntKind.wrap_i64]; omega
  have p3 : (T : Int) + 1 = (T1 : Int) := by omega
  have p4 : IntKind.i64.wrap (T1 : Int) = T1 := by rw [IntKind.wrap_i64]; omega
  clear eP1 eT1
  go_wp2_with fail
  refine (N2.out _ (below2.out _ HB9.out)).mono ?_
  rintro e w10 ⟨rfl, hb⟩
  have HB10 := Lib.hid (HB9.out.trans (hb.mono HB9.out.size))
  clear hb HB9 N2
  go_wp2_with fail
  refine (N3.out _ (below2.out _ HB10.out)).mono ?_
  rintro e w11 ⟨rfl, hb⟩
  have HB11 := Lib.hid (HB10.out.trans (hb.mono HB10.out.size))
  clear hb HB10 N3 p1 p2 p3 p4 hP hT
  go_wp2_with fail
  refine (At.at_ w11 a1 len1 cap1 z1 (isRow_below H1.out HB11.out) hl1 3 (by omega) 3 rfl 9 (by omega)).mono ?_
  obtain ⟨n, en⟩ : ∃ i : Nat, At.val z1 len1 3 9 = (i : Int) := ⟨_, (Int.toNat_of_nonneg (At.val_nonneg _ _ _ _)).symm⟩
  have hn : n < 9 := by have := At.val_lt z1 len1 3 9 (by omega); omega
  rw [en]
  clear en
  rintro e w12' ⟨rfl, n12, rfl⟩
  have HB12 := Lib.hid (below_drewN HB11.out n12)
  clear HB11
  generalize w11.drewN n12 = w12 at *
  go_wp2_with fail
  refine (Leaves.drawsOf n (by omega) w12 a0 len0 cap0 z0 (isRow_below H0.out HB12.out)).mono ?_
  rintro e w13 ⟨v, fs, rfl, ⟨hfl, hfx⟩, ho, hb⟩
  have HB13 := Lib.hid (HB12.out.trans (hb.mono HB12.out.size))
  have hf9 : fs.length ≤ 100 := by omega
  have HSL := Lib.hid ho.sl
  have I1 := Lib.hid (fun u x hx (h : Three u e0 e1 e2 ∧ Hnd u) => Ints.impl u x fs hx h.2)
  have hts := SealsW.tx_size fs
  have I2 := Lib.hid (fun u (h : Three u e0 e1 e2 ∧ Hnd u) => Ints3.impl (SealsW.tx fs) (by rw [hts]; unfold maxLen; omega) u h.2)
  have I3 := Lib.hid (fun u (h : Three u e0 e1 e2 ∧ Hnd u) => Ints3.impl (SealsW.tx fs ++ { data := #[120] }) (by rw [ByteArray.size_append, hts]; show 4 * fs.length + 1 ≤ maxLen; unfold maxLen; omega) u h.2)
  rw [SealsW.ints_ok fs hf9 hfx] at I1
  rw [SealsW.code_tx fs hf9, SealsW.out_tx fs hf9 hfx] at I2
  rw [SealsW.code_more fs hf9] at I3
  have HS := Lib.hid (fun u x y hx hy => Leaves.sameInts u x y fs hx hy)
  clear ho hb HB12 hfx
  obtain ⟨va, vc, rfl, _⟩ := HSL.out
  generalize nc fs = NF at *
  generalize fs.length = m at *
  generalize SealsW.tx fs = TX at *
  have s1 : ¬ 9223372036854775807 < TX.size + 1 := by omega
  have HQ := Lib.hid hts
  have HM := Lib.hid hf9
  clear hts hfl hn hf9
  go_wp2_with fail
  refine (I1.out _ _ HSL.out (below2.out _ HB13.out)).mono ?_
  rintro e w14 ⟨rfl, hb⟩
  have HB14 := Lib.hid (HB13.out.trans (hb.mono HB13.out.size))
  have HSL2 := Lib.hid (HSL.out.below hb)
  clear hb HB13 I1 HSL
  go_wp2_with fail
  refine (I2.out _ (below2.out _ HB14.out)).mono ?_
  rintro e w15 ⟨r, rfl, ho, hb⟩
  have HB15 := Lib.hid (HB14.out.trans (hb.mono HB14.out.size))
  have HSL3 := Lib.hid (HSL2.out.below hb)
  have HO := Lib.hid ho
  clear hb HB14 I2 HSL2 ho
  go_wp2_with fail
  refine (I3.out _ (below2.out _ HB15.out)).mono ?_
  rintro e w16 ⟨r2, rfl, ho, hb⟩
  have HB16 := Lib.hid (HB15.out.trans (hb.mono HB15.out.size))
  have HSL4 := Lib.hid (HSL3.out.below hb)
  have HO2 := Lib.hid (HO.out.below hb)
  clear hb HB15 I3 HSL3 ho HO
  have y0 : ((NA.size : Int) == 12) = true := by rw [HX.out.1]; rfl
  have y1 := list_ne HX.out.2.1
  have y2 := list_ne HX.out.2.2.1
  have y3 := list_ne HX.out.2.2.2
  have v1 : (NA.toList == NB.toList) = false := beq_eq_false_iff_ne.2 y1
  have v2 : (NA.toList == NC.toList) = false := beq_eq_false_iff_ne.2 y2
  have v3 : (NB.toList == NC.toList) = false := beq_eq_false_iff_ne.2 y3
  have q1 : (TX.size : Int) = 4 * (m : Int) := by have := HQ.out; omega
  have q2 : ((TX.size : Int) == 4 * (m : Int)) = true := by rw [q1]; simp
  have q3 : IntKind.i64.wrap (4 * (m : Int)) = 4 * (m : Int) := by rw [IntKind.wrap_i64]; have := HM.out; omega
  clear q1
  go_wp2_with fail
  refine (HS.out _ _ _ HO2.out.sl HSL4.out).mono ?_
  rintro e w17 ⟨rfl, hb⟩
  have HB17 := Lib.hid (HB16.out.trans (hb.mono HB16.out.size))
  clear hb HB16
  go_wp2
  go_ret
  exact ⟨rfl, HB17.out⟩
end Go.Proofs.YtggobhpjfflooaaGreatDoor.FnSeals
