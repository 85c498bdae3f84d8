/-
  What is proved: the law FnExactRootOf of package laws, walked: it answers true and changes nothing that was there, where the package's table holds its words.
-/
import Derived.Test.YtemlmffoehclhaaDoorRows
import Derived.Test.YtemlmffoehclhaaDoorTree7
import Derived.Test.YtemlmffoehclhaaDoorLawS
import Derived.Test.YtemlmffoehclhaaDoorRoundTab
namespace Go.Proofs.YtemlmffoehclhaaDoor.RootL
open Go.ChangeShapes Go.WideShapes Go.ChangeAt Go.RowKit
open Sl (Sl Own Off)
open OpenSl (tc nc pc)
open Dev
open MixBlock (Tab)
open Tree6 Tree7
set_option linter.unusedVariables false

theorem cellsS : Tryd.prog.cellsOf 9 = 1 := by kernel_rfl

set_option maxRecDepth 100000 in
set_option maxHeartbeats 1600000 in
theorem walk (w : World) (v : Value) (ts : List ByteArray) (h : Sl w 1 v ts.length (tc ts)) (hs : ∀ s ∈ ts, s.size ≤ maxLen) (T : Tab w) :
    Calls Tryd.prog 9 #[v] w fun e w' => e = .returned (.bool true) ∧ Below w.heap.size w w' := by
  have TT := Lib.hid T
  have HTL := Lib.hid T.lt
  have HH := Lib.hid h
  have HZ := Lib.hid (LawS.szStringS w v ts h hs 1048576 (by omega))
  have HTO := Lib.hid (fun (u : World) (hb : Below w.heap.size w u) (hn : ts.length ≤ 1048576) => LawS.toStringS u v ts (h.below hb) hn)
  have HS := Lib.hid (fun u x (hx : Sl u 1 x ts.length (tc ts)) => rootSpec u x ts hx hs)
  have HI := Lib.hid (fun u x (hx : Sl u 1 x ts.length (tc ts)) (T : Tab u) => rootImpl u x ts hx hs T)
  have HQ := Lib.hid (fun u x y (hx : Sl u 1 x ts.length (tc ts)) (hy : Sl u 1 y ts.length (tc ts)) => LawS.eqStringS u x y ts hx hy)
  obtain ⟨ad, cap, rfl, _, _⟩ := h.form
  generalize rootR ts = r at *
  obtain ⟨o, oc⟩ := r
  simp only [] at HS HI
  clear h hs T
  generalize tc ts = C at *
  go_enter Tryd.func9, Tryd.ntmps9
  go_wp2_with fail
  refine HZ.out.mono ?_
  rintro e w1 ⟨⟨r, rfl, hr⟩, rfl⟩
  rcases hr with rfl | ⟨R, rfl, hR, hn, _⟩
  · go_wp2
    go_ret
    exact ⟨rfl, Below.refl _ _⟩
  have HN := Lib.hid hn
  have dR : ¬ (R : Int) < 0 := by omega
  clear hn hR
  generalize ts.length = n at *
  go_wp2_with fail
  refine (HTO.out _ (Below.refl _ _) HN.out).mono ?_
  rintro e w2 ⟨x1, rfl, ho, hb⟩
  have HO1 := Lib.hid ho
  have HB1 := Lib.hid hb
  clear ho hb
  go_wp2_with fail
  refine (HS.out _ _ HO1.out.sl).mono ?_
  rintro e w3 ⟨rfl, hb⟩
  have HB2 := Lib.hid (HB1.out.trans (hb.mono HB1.out.size))
  clear hb HB1 HO1
  go_wp2_with fail
  refine (HTO.out _ HB2.out HN.out).mono ?_
  rintro e w4 ⟨x2, rfl, ho, hb⟩
  have HO3 := Lib.hid ho
  have HB3 := Lib.hid (HB2.out.trans (hb.mono HB2.out.size))
  clear ho hb HB2
  go_wp2_with fail
  refine (HI.out _ _ HO3.out.sl (TT.out.below HB3.out HTL.out)).mono ?_
  rintro e w5 ⟨rfl, hb⟩
  have HB4 := Lib.hid (HB3.out.trans (hb.mono HB3.out.size))
  have HO4 := Lib.hid (HO3.out.below hb)
  clear hb HB3 HO3
  go_wp2_with fail
  refine (HTO.out _ HB4.out HN.out).mono ?_
  rintro e w6 ⟨x3, rfl, ho, hb⟩
  have HO5 := Lib.hid ho
  have HO6 := Lib.hid (HO4.out.below hb)
  have HB5 := Lib.hid (HB4.out.trans (hb.mono HB4.out.size))
  clear ho hb HB4 HO4
  go_wp2_with fail
  refine (HQ.out _ _ _ HO6.out.sl HO5.out.sl).mono ?_
  rintro e w7 ⟨rfl, hb⟩
  have HB6 := Lib.hid (HB5.out.trans (hb.mono HB5.out.size))
  clear hb HB5 HO5 HO6
  go_wp2
  go_ret
  exact ⟨rfl, HB6.out⟩

theorem walk_any {H : Type} {enc : TypeId × Value → H} {W : World} {base b0 : Nat} {spare : Nat → Bool} {held : Bool} {u : Value} {d : DataW H} {p : List MemPlace}
    (o : Value.okWide Tryd.prog W .any b0 36 u) (h : DataW.Trod enc Tryd.prog W base spare held 36 u d p) (hL : laidMetH Tryd.prog Rows.fnExactRootOfRow.laid W) :
    Calls Tryd.prog 9 #[u] W fun e w' => e = .returned (.bool true) ∧ Below W.heap.size W w' := by
  rw [RoundTab.root_list] at hL
  obtain ⟨a, l, c, rfl⟩ := okWide_slice Tryd.underlying36 o
  obtain ⟨fuel, hf⟩ := h
  obtain ⟨ts, hts, hsz⟩ := OpenSl.strings Tryd.underlying36 Tryd.underlying9 cellsS hf
  exact walk W _ ts hts hsz (RoundTab.tab_of hL)
end Go.Proofs.YtemlmffoehclhaaDoor.RootL
