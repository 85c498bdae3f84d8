/-
  What is proved: the law FnExactProofOf of package laws, walked: it answers true and changes nothing that was there, where the package's table holds its words.
-/
import Derived.Test.YtemlmffoehclhaaDoorRows
import Derived.Test.YtemlmffoehclhaaDoorTree8
import Derived.Test.YtemlmffoehclhaaDoorMarks
import Derived.Test.YtemlmffoehclhaaDoorRootL
namespace Go.Proofs.YtemlmffoehclhaaDoor.ProofL
open Go.ChangeShapes Go.WideShapes Go.ChangeAt Go.RowKit
open Sl (Sl Own Off)
open OpenSl (tc nc pc)
open Dev
open MixBlock (Tab)
open Marks (mc)
open Tree6 Tree7 Tree8
set_option linter.unusedVariables false

theorem len_le (ts : List ByteArray) (z : Int) : (proofT ts z).length ≤ 4 := by
  unfold proofT
  split
  · exact Nat.le_refl _
  · exact Nat.zero_le _
theorem turns_one {w0 w w' : World} {v : Value} {n : Nat} {c : Nat → Value} (hb : Below w0.heap.size w0 w) (ho : Own w w0.heap.size 1 v n c) (ht : Turns [v] w w') : Below w0.heap.size w0 w' :=
  hb.trans (ht.below hb.size (by
    intro u hu k hk
    obtain rfl := List.mem_singleton.1 hu
    exact own_low ho k hk))
theorem own_one {w w' : World} {base : Nat} {u v : Value} {n : Nat} {c : Nat → Value} (h : Own w base 1 u n c) (ht : Turns [v] w w') (ha : Apart u v) : Own w' base 1 u n c :=
  own_turns h ht (by
    intro x hx
    obtain rfl := List.mem_singleton.1 hx
    exact ha)

set_option maxRecDepth 100000 in
set_option maxHeartbeats 3200000 in
theorem walk (w : World) (v : Value) (ts : List ByteArray) (z : Int) (h : Sl w 1 v ts.length (tc ts)) (hs : ∀ s ∈ ts, s.size ≤ maxLen) (T : Tab w) :
    Calls Tryd.prog 10 #[v, .int .i64 z] w fun e w' => e = .returned (.bool true) ∧ Below w.heap.size w w' := by
  have TT := Lib.hid T
  have HTL := Lib.hid T.lt
  have HZ := Lib.hid (LawS.szStringS w v ts h hs 1048576 (by omega))
  have HTO := Lib.hid (fun (u : World) (hb : Below w.heap.size w u) (hn : ts.length ≤ 1048576) => LawS.toStringS u v ts (h.below hb) hn)
  have HS := Lib.hid (fun u x (hx : Sl u 1 x ts.length (tc ts)) => proofSpec u x ts z hx hs)
  have HI := Lib.hid (fun u x (hx : Sl u 1 x ts.length (tc ts)) (T : Tab u) => proofImpl u x ts z hx hs T)
  have HQ := Lib.hid (fun u x y (hx : Sl u 1 x ts.length (tc ts)) (hy : Sl u 1 y ts.length (tc ts)) => LawS.eqStringS u x y ts hx hy)
  have HQ2 := Lib.hid (fun u x y (hx : Sl u 1 x (proofT ts z).length (tc (proofT ts z))) (hy : Sl u 1 y (proofT ts z).length (tc (proofT ts z))) => LawS.eqStringS u x y (proofT ts z) hx hy)
  have hm4 := len_le ts z
  obtain ⟨ad, cap, rfl, _, _⟩ := h.form
  clear h hs T
  generalize tc (proofT ts z) = D at *
  generalize (proofT ts z).length = m at *
  generalize proofC ts z = cd at *
  generalize tc ts = C at *
  have HM1 := Lib.hid (fun u base x c (h : Own u base 1 x ts.length c) (hn : ts.length ≤ 1048576) => Marks.markStringS u base x ts.length c h 1 (by omega))
  have HM2 := Lib.hid (fun u base x c (h : Own u base 1 x m c) => Marks.markStringS u base x m c h 1 (by omega))
  have HH := Lib.hid (fun u x (h : Sl u 1 x m (mc 1)) => Marks.heldStringS u x m 1 h (by omega))
  obtain ⟨n1, en1⟩ : ∃ n1, 1 + ts.length = n1 := ⟨_, rfl⟩
  rw [en1] at HM1
  obtain ⟨m1, em1⟩ : ∃ m1, 1 + m = m1 := ⟨_, rfl⟩
  rw [em1] at HM2 HH
  have p1 : ¬ (n1 : Int) < 0 := by omega
  have p2 : ¬ (m1 : Int) < 0 := by omega
  have b1 : ((m1 : Int) != (m1 : Int)) = false := by simp
  have b2 : (cd != cd) = false := by simp
  clear en1 em1 hm4
  go_enter Tryd.func10, Tryd.ntmps10
  go_wp2_with fail
  refine HZ.out.mono ?_
  rintro e w1 ⟨⟨r, rfl, hr⟩, rfl⟩
  rcases hr with rfl | ⟨R, rfl, hR, hn, _⟩
  · go_wp2
    go_ret
    exact ⟨rfl, Below.refl _ _⟩
  have HN := Lib.hid hn
  have dR : ¬ (R : Int) < 0 := by omega
  clear hn hR
  generalize ts.length = n at *
  go_wp2_with fail
  refine (HTO.out _ (Below.refl _ _) HN.out).mono ?_
  rintro e w2 ⟨x1, rfl, ho, hb⟩
  have HO1 := Lib.hid ho
  have HB1 := Lib.hid hb
  clear ho hb
  go_wp2_with fail
  refine (HS.out _ _ HO1.out.sl).mono ?_
  rintro e w3 ⟨r1, rfl, ho, hb⟩
  have HP0 := Lib.hid (ho.base (base' := w1.heap.size) HB1.out.size)
  have HB2 := Lib.hid (HB1.out.trans (hb.mono HB1.out.size))
  clear ho hb HB1 HO1
  go_wp2_with fail
  refine (HTO.out _ HB2.out HN.out).mono ?_
  rintro e w4 ⟨x2, rfl, ho, hb⟩
  have HA1 := Lib.hid (show Apart r1 x2 from apart_of HP0.out.sl (by omega) ho (Nat.le_refl _))
  have HX0 := Lib.hid (ho.base (base' := w1.heap.size) HB2.out.size)
  have HP1 := Lib.hid (HP0.out.below hb)
  have HB3 := Lib.hid (HB2.out.trans (hb.mono HB2.out.size))
  clear ho hb HB2 HP0
  go_wp2_with fail
  refine (HI.out _ _ HX0.out.sl (TT.out.below HB3.out HTL.out)).mono ?_
  rintro e w5 ⟨r2, rfl, ho, hb⟩
  have HA2 := Lib.hid (show Apart r1 r2 from apart_of HP1.out.sl (by omega) ho (Nat.le_refl _))
  have HA3 := Lib.hid (show Apart r2 x2 from (apart_of HX0.out.sl (by omega) ho (Nat.le_refl _)).symm)
  have HR0 := Lib.hid (ho.base (base' := w1.heap.size) HB3.out.size)
  have HX1 := Lib.hid (HX0.out.below hb)
  have HP2 := Lib.hid (HP1.out.below hb)
  have HB4 := Lib.hid (HB3.out.trans (hb.mono HB3.out.size))
  clear ho hb HB3 HP1 HX0
  go_wp2_with fail
  refine (HQ2.out _ _ _ HR0.out.sl HP2.out.sl).mono ?_
  rintro e w6 ⟨rfl, hb⟩
  have HR1 := Lib.hid (HR0.out.below hb)
  have HX2 := Lib.hid (HX1.out.below hb)
  have HP3 := Lib.hid (HP2.out.below hb)
  have HB5 := Lib.hid (HB4.out.trans (hb.mono HB4.out.size))
  clear hb HB4 HP2 HX1 HR0
  go_wp2_with fail
  refine (HTO.out _ HB5.out HN.out).mono ?_
  rintro e w7 ⟨x3, rfl, ho, hb⟩
  have HY := Lib.hid ho
  have HR2 := Lib.hid (HR1.out.below hb)
  have HX3 := Lib.hid (HX2.out.below hb)
  have HP4 := Lib.hid (HP3.out.below hb)
  have HB6 := Lib.hid (HB5.out.trans (hb.mono HB5.out.size))
  clear ho hb HB5 HP3 HX2 HR1
  go_wp2_with fail
  refine (HQ.out _ _ _ HX3.out.sl HY.out.sl).mono ?_
  rintro e w8 ⟨rfl, hb⟩
  have HR3 := Lib.hid (HR2.out.below hb)
  have HX4 := Lib.hid (HX3.out.below hb)
  have HP5 := Lib.hid (HP4.out.below hb)
  have HB7 := Lib.hid (HB6.out.trans (hb.mono HB6.out.size))
  clear hb HB6 HP4 HX3 HR2 HY
  go_wp2_with fail
  refine (HM1.out _ _ _ _ HX4.out HN.out).mono ?_
  rintro e w9 ⟨rfl, _, ht⟩
  have HR4 := Lib.hid (own_one HR3.out ht HA3.out)
  have HP6 := Lib.hid (own_one HP5.out ht HA1.out)
  have HB8 := Lib.hid (turns_one HB7.out HX4.out ht)
  clear ht HB7 HP5 HX4 HR3
  go_wp2_with fail
  refine (HQ2.out _ _ _ HR4.out.sl HP6.out.sl).mono ?_
  rintro e w10 ⟨rfl, hb⟩
  have HR5 := Lib.hid (HR4.out.below hb)
  have HP7 := Lib.hid (HP6.out.below hb)
  have HB9 := Lib.hid (HB8.out.trans (hb.mono HB8.out.size))
  clear hb HB8 HP6 HR4
  go_wp2_with fail
  refine (HM2.out _ _ _ _ HR5.out).mono ?_
  rintro e w11 ⟨rfl, ho, ht⟩
  have HR6 := Lib.hid ho
  have HP8 := Lib.hid (own_one HP7.out ht HA2.out)
  have HB10 := Lib.hid (turns_one HB9.out HR5.out ht)
  clear ho ht HB9 HP7 HR5
  go_wp2_with fail
  refine (HH.out _ _ HR6.out.sl).mono ?_
  rintro e w12 ⟨rfl, hb⟩
  have HR7 := Lib.hid (HR6.out.below hb)
  have HP9 := Lib.hid (HP8.out.below hb)
  have HB11 := Lib.hid (HB10.out.trans (hb.mono HB10.out.size))
  clear hb HB10 HP8 HR6
  go_wp2_with fail
  refine (HTO.out _ HB11.out HN.out).mono ?_
  rintro e w13 ⟨x4, rfl, ho, hb⟩
  have HY := Lib.hid ho
  have HR8 := Lib.hid (HR7.out.below hb)
  have HP10 := Lib.hid (HP9.out.below hb)
  have HB12 := Lib.hid (HB11.out.trans (hb.mono HB11.out.size))
  clear ho hb HB11 HP9 HR7
  go_wp2_with fail
  refine (HI.out _ _ HY.out.sl (TT.out.below HB12.out HTL.out)).mono ?_
  rintro e w14 ⟨r3, rfl, ho, hb⟩
  have HR9 := Lib.hid (HR8.out.below hb)
  have HP11 := Lib.hid (HP10.out.below hb)
  have HV := Lib.hid ho
  have HB13 := Lib.hid (HB12.out.trans (hb.mono HB12.out.size))
  clear ho hb HB12 HP10 HR8 HY
  go_wp2_with fail
  refine (HQ2.out _ _ _ HV.out.sl HP11.out.sl).mono ?_
  rintro e w15 ⟨rfl, hb⟩
  have HR10 := Lib.hid (HR9.out.below hb)
  have HB14 := Lib.hid (HB13.out.trans (hb.mono HB13.out.size))
  clear hb HB13 HP11 HR9 HV
  go_wp2_with fail
  refine (HH.out _ _ HR10.out.sl).mono ?_
  rintro e w16 ⟨rfl, hb⟩
  have HB15 := Lib.hid (HB14.out.trans (hb.mono HB14.out.size))
  clear hb HB14 HR10
  go_wp2
  go_ret
  exact ⟨rfl, HB15.out⟩

theorem walk_any {H : Type} {enc : TypeId × Value → H} {W : World} {base b0 : Nat} {spare : Nat → Bool} {held : Bool} {u : Value} {d : DataW H} {p : List MemPlace} (z : Int)
    (o : Value.okWide Tryd.prog W .any b0 36 u) (h : DataW.Trod enc Tryd.prog W base spare held 36 u d p) (hL : laidMetH Tryd.prog Rows.fnExactProofOfRow.laid W) :
    Calls Tryd.prog 10 #[u, .int .i64 z] W fun e w' => e = .returned (.bool true) ∧ Below W.heap.size W w' := by
  rw [RoundTab.proof_list] at hL
  obtain ⟨a, l, c, rfl⟩ := okWide_slice Tryd.underlying36 o
  obtain ⟨fuel, hf⟩ := h
  obtain ⟨ts, hts, hsz⟩ := OpenSl.strings Tryd.underlying36 Tryd.underlying9 RootL.cellsS hf
  exact walk W _ ts z hts hsz (RoundTab.tab_of hL)
end Go.Proofs.YtemlmffoehclhaaDoor.ProofL
