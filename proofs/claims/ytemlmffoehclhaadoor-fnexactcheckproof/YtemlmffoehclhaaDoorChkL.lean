/-
  What is proved: the model's answer whether a proof leads from a text to a root; and the law FnExactCheckProof of package laws, walked: it answers true and changes nothing that was there, where the package's table holds its words.
-/
import Derived.Test.YtemlmffoehclhaaDoorRows
import Derived.Test.YtemlmffoehclhaaDoorChk
import Derived.Test.YtemlmffoehclhaaDoorRoundTab
import Derived.Test.YtemlmffoehclhaaDoorRootL
namespace Go.Proofs.YtemlmffoehclhaaDoor.ChkL
open Go.ChangeShapes Go.WideShapes Go.ChangeAt Go.RowKit
open Sl (Sl Own Off)
open OpenSl (tc nc pc)
open Dev
open MixBlock (Tab)
open Tree1 (leafT joinT leafT_size joinT_size)
open Tree2 (tx sc tc_sc)
open Tree4 (num8)
open Chk
set_option linter.unusedVariables false

theorem half_at (a k p : Nat) (h : p = a / 2 ^ k) : p / 2 = a / 2 ^ (k + 1) := by
  rw [h, Nat.div_div_eq_div_mul, Nat.pow_succ]

set_option maxRecDepth 100000 in
set_option maxHeartbeats 1600000 in
theorem spec (w : World) (root : ByteArray) (z : Int) (t : ByteArray) (v : Value) (ts : List ByteArray) (hr : root.size ≤ maxLen) (ht : t.size ≤ maxLen) (h : Sl w 1 v ts.length (tc ts)) (hs : ∀ s ∈ ts, s.size ≤ maxLen) :
    Calls Tryd.prog 41 #[.string root, .int .i64 z, .string t, v] w fun e w' => e = .returned (.tuple #[.bool (yes root z t ts), .int .i64 (code root z t ts)]) ∧ Below w.heap.size w w' := by
  obtain ⟨ad, cap, rfl, h1, h2, h3⟩ := h
  have HS := Lib.hid (show ∀ j, (tx ts j).size ≤ maxLen from LawS.size_le hs)
  rw [tc_sc] at h3
  have H3 := Lib.hid h3
  clear hs h3
  unfold maxLen at h2 HS hr ht
  by_cases g0 : 65536 < root.size ∨ 65536 < t.size ∨ 4096 < ts.length
  · have hc : code root z t ts = 2 := c_long g0
    rw [y_no (by rw [hc]; decide), hc]
    clear H3 HS hc
    generalize ts.length = n at *
    by_cases ga : 65536 < root.size
    · have d0 : decide (65536 < (root.size : Int)) = true := decide_eq_true (by omega)
      go_enter Tryd.func41, Tryd.ntmps41
      go_wp2
      go_ret2
      exact ⟨rfl, Below.refl _ _⟩
    have d0 : decide (65536 < (root.size : Int)) = false := decide_eq_false (by omega)
    by_cases gb : 65536 < t.size
    · have d1 : decide (65536 < (t.size : Int)) = true := decide_eq_true (by omega)
      go_enter Tryd.func41, Tryd.ntmps41
      go_wp2
      go_ret2
      exact ⟨rfl, Below.refl _ _⟩
    have d1 : decide (65536 < (t.size : Int)) = false := decide_eq_false (by omega)
    have d2 : decide (4096 < (n : Int)) = true := decide_eq_true (by omega)
    go_enter Tryd.func41, Tryd.ntmps41
    go_wp2
    go_ret2
    exact ⟨rfl, Below.refl _ _⟩
  have d0 : decide (65536 < (root.size : Int)) = false := decide_eq_false (by omega)
  have d1 : decide (65536 < (t.size : Int)) = false := decide_eq_false (by omega)
  have d2 : decide (4096 < (ts.length : Int)) = false := decide_eq_false (by omega)
  by_cases g1 : root.size = 32 ∧ ts.length = 4
  · have b0 : ((root.size : Int) != 32) = false := by rw [g1.1]; rfl
    have HI := Lib.hid (Tree1.l01In16 z)
    by_cases g2 : 0 ≤ z ∧ z < 16
    · rw [decide_eq_true g2] at HI
      have A0 := Lib.hid (fun j hj hs => (show yes root z t ts = false ∧ code root z t ts = 8 from ⟨y_no (by rw [c_bad g0 g1 g2 j hj hs]; decide), c_bad g0 g1 g2 j hj hs⟩))
      have A1 := Lib.hid (fun hs => (show yes root z t ts = ((up (tx ts) z.toNat (leafT z.toNat t) 4).toList == root.toList) ∧ code root z t ts = 0 from ⟨y_ok (c_ok g0 g1 g2 hs), c_ok g0 g1 g2 hs⟩))
      obtain ⟨a, rfl⟩ : ∃ a : Nat, z = a := ⟨z.toNat, by omega⟩
      generalize code root a t ts = c at *
      generalize yes root a t ts = Y at *
      rw [Int.toNat_natCast] at A1
      rw [g1.2] at H3 h1 d2 ⊢
      have HA := Lib.hid (show a < 16 by omega)
      have HLF := Lib.hid (fun u => Tree1.l07Leaf a (by omega) t (by omega) u)
      have HX := Lib.hid (leafT_size a t)
      generalize leafT a t = X at *
      generalize tx ts = f at *
      have HUL := Lib.hid (fun k => up_left f a X k)
      have HUR := Lib.hid (fun k => up_right f a X k)
      have HUS := Lib.hid (up_size f a X HX.out)
      have HU0 := Lib.hid (show up f a X 0 = X from rfl)
      generalize up f a X = U at *
      clear g0 g1 g2
      go_enter Tryd.func41, Tryd.ntmps41
      go_wp2_with fail
      refine (HI.out _).mono ?_
      rintro e w1 ⟨rfl, rfl⟩
      go_wp2_with fail
      refine (HLF.out _).mono ?_
      rintro e w2 ⟨rfl, hb⟩
      have HB2 := Lib.hid hb
      clear hb HLF HI
      go_wp2_with fail
      go_loopg [1, 10, 11] 4 (fun g s1 s10 s11 wz => ∃ (k p : Nat) (D : ByteArray) (wr : World), wr = wz ∧ k + g = 4 ∧ s1 = .int .i64 p ∧ s11 = .int .i64 k ∧ s10 = .string D ∧ Hid (p = a / 2 ^ k) ∧ Hid (D = U k) ∧ Hid (∀ j, j < k → (f j).size = 32) ∧ Hid (Below w1.heap.size w1 wr))
      case atStart => exact ⟨0, a, X, _, rfl, by omega, rfl, rfl, rfl, Lib.hid (by simp), Lib.hid HU0.out.symm, Lib.hid (fun j hj => by omega), HB2⟩
      case round =>
        clear HB2
        obtain ⟨k, p, D, wr, rfl, hkg, rfl, rfl, rfl, HP, HD, HJ, HB⟩ := hrel
        cases gk with
        | zero =>
          have hkz : ¬ ((k : Int) < 4) := by omega
          have HK := Lib.hid (show k = 4 by omega)
          have HDD := Lib.hid (show D = U 4 by have := HD.out; rw [HK.out] at this; exact this)
          have HC := Lib.hid (A1.out fun j hj => HJ.out j (by omega))
          clear hkg HD H3
          go_wp2
          go_ret2
          exact ⟨by rw [HC.out.1, HC.out.2, HDD.out]; rfl, HB.out⟩
        | succ g =>
          have hkz : (k : Int) < 4 := by omega
          have hk0 : (0 : Int) ≤ (k : Int) := by omega
          have hk4 : k < 4 := by omega
          have HKG := Lib.hid hkg
          have hp16 : p < 16 := by rw [HP.out]; exact num8 a HA.out k hk4
          have HL := Lib.hid (HUL.out k)
          have HR := Lib.hid (HUR.out k)
          have HBAD := Lib.hid (A0.out k hk4)
          have HDS := Lib.hid (show D.size = 32 by rw [HD.out]; exact HUS.out k)
          have HJ2 := Lib.hid (show (f k).size = 32 → ∀ j, j < k + 1 → (f j).size = 32 from fun hs j hj => by
            by_cases ej : j = k
            · rw [ej]; exact hs
            · exact HJ.out j (by omega))
          have HP2 := Lib.hid (half_at a k p HP.out)
          rw [← HD.out, ← HP.out] at HL HR
          have hsz := HS.out k
          obtain ⟨b, o, rfl, hc⟩ := H3.out (by omega)
          have c0 := hc k (by omega)
          rw [← HB.out.cell (World.block_lt_of_cell? w1 _ c0)] at c0
          unfold sc at c0
          clear hc hkg HD HJ HP
          generalize f k = s at *
          by_cases hb : s.size = 32
          · have b5 : ((s.size : Int) != 32) = false := by rw [hb]; rfl
            have HJ3 := Lib.hid (HJ2.out hb)
            have HFS := Lib.hid hb
            clear hb HBAD HJ2
            obtain ⟨r, er⟩ : ∃ r, p % 2 = r := ⟨_, rfl⟩
            have r1 : (p : Int) % 2 = (r : Int) := by omega
            have r2 : IntKind.i64.wrap (r : Int) = r := by rw [IntKind.wrap_i64]; omega
            by_cases he : p % 2 = 0
            · have r3 : ((r : Int) == 0) = true := by simp; omega
              have HU := Lib.hid (HL.out he)
              clear he HL HR er
              have HJN := Lib.hid (Tree1.l07Join D s HDS.out HFS.out wr)
              generalize joinT D s = D2 at *
              go_wp2_with fail
              refine HJN.out.mono ?_
              rintro e w4 ⟨rfl, hb⟩
              have HB4 := Lib.hid (HB.out.trans (hb.mono HB.out.size))
              clear hb c0 HJN HB
              go_wp2
              go_roundg g
              case measure => omega
              case rel => exact ⟨k + 1, p / 2, D2, _, rfl, by have := HKG.out; omega, by go_num, by go_num, rfl, HP2, Lib.hid HU.out.symm, HJ3, HB4⟩
            · have r3 : ((r : Int) == 0) = false := by simp; omega
              have HU := Lib.hid (HR.out he)
              clear he HL HR er
              have HJN := Lib.hid (Tree1.l07Join s D HFS.out HDS.out wr)
              generalize joinT s D = D2 at *
              go_wp2_with fail
              refine HJN.out.mono ?_
              rintro e w4 ⟨rfl, hb⟩
              have HB4 := Lib.hid (HB.out.trans (hb.mono HB.out.size))
              clear hb c0 HJN HB
              go_wp2
              go_roundg g
              case measure => omega
              case rel => exact ⟨k + 1, p / 2, D2, _, rfl, by have := HKG.out; omega, by go_num, by go_num, rfl, HP2, Lib.hid HU.out.symm, HJ3, HB4⟩
          · have HC := Lib.hid (HBAD.out hb)
            have b5 : ((s.size : Int) != 32) = true := by simp; omega
            clear hb HJ2 HL HR HBAD
            go_wp2
            go_ret2
            exact ⟨by rw [HC.out.1, HC.out.2]; rfl, HB.out⟩
    · have hc : code root z t ts = 4 := c_range g0 g1 g2
      rw [y_no (by rw [hc]; decide), hc]
      rw [decide_eq_false g2] at HI
      rw [g1.2] at h1 d2 ⊢
      clear g0 g1 g2 H3 HS hc
      go_enter Tryd.func41, Tryd.ntmps41
      go_wp2_with fail
      refine (HI.out _).mono ?_
      rintro e w1 ⟨rfl, rfl⟩
      go_wp2
      go_ret2
      exact ⟨rfl, Below.refl _ _⟩
  · have hc : code root z t ts = 8 := c_size g0 g1
    rw [y_no (by rw [hc]; decide), hc]
    clear H3 HS hc
    generalize ts.length = n at *
    by_cases ga : root.size = 32
    · have b0 : ((root.size : Int) != 32) = false := by rw [ga]; rfl
      have b1 : ((n : Int) != 4) = true := by simp; omega
      clear ga g0 g1
      go_enter Tryd.func41, Tryd.ntmps41
      go_wp2
      go_ret2
      exact ⟨rfl, Below.refl _ _⟩
    · have b0 : ((root.size : Int) != 32) = true := by simp; omega
      clear ga g0 g1
      go_enter Tryd.func41, Tryd.ntmps41
      go_wp2
      go_ret2
      exact ⟨rfl, Below.refl _ _⟩

set_option maxRecDepth 100000 in
set_option maxHeartbeats 1600000 in
theorem walk (w : World) (root : ByteArray) (z : Int) (t : ByteArray) (v : Value) (ts : List ByteArray) (hr : root.size ≤ maxLen) (ht : t.size ≤ maxLen) (h : Sl w 1 v ts.length (tc ts)) (hs : ∀ s ∈ ts, s.size ≤ maxLen) (T : Tab w) :
    Calls Tryd.prog 11 #[.string root, .int .i64 z, .string t, v] w fun e w' => e = .returned (.bool true) ∧ Below w.heap.size w w' := by
  have TT := Lib.hid T
  have HTL := Lib.hid T.lt
  have HZ := Lib.hid (LawS.szStringS w v ts h hs 1048576 (by omega))
  have HTO := Lib.hid (fun (u : World) (hb : Below w.heap.size w u) (hn : ts.length ≤ 1048576) => LawS.toStringS u v ts (h.below hb) hn)
  have HS := Lib.hid (fun u x (hx : Sl u 1 x ts.length (tc ts)) => spec u root z t x ts hr ht hx hs)
  have HI := Lib.hid (fun u x (hx : Sl u 1 x ts.length (tc ts)) (T : Tab u) => impl u root z t x ts hr ht hx hs T)
  have HQ := Lib.hid (fun u x y (hx : Sl u 1 x ts.length (tc ts)) (hy : Sl u 1 y ts.length (tc ts)) => LawS.eqStringS u x y ts hx hy)
  obtain ⟨ad, cap, rfl, _, _⟩ := h.form
  generalize yes root z t ts = o at *
  generalize code root z t ts = oc at *
  have b2 : (oc != oc) = false := by simp
  have b3 : (o != o) = false := by simp
  clear h hs T
  unfold maxLen at hr ht
  generalize tc ts = C at *
  by_cases l0 : 1048576 < root.size
  · have d0 : decide (1048576 < (root.size : Int)) = true := decide_eq_true (by omega)
    go_enter Tryd.func11, Tryd.ntmps11
    go_wp2_with fail
    go_ret
    exact ⟨rfl, Below.refl _ _⟩
  have d0 : decide (1048576 < (root.size : Int)) = false := decide_eq_false (by omega)
  by_cases l1 : 1048576 < t.size
  · have d1 : decide (1048576 < (t.size : Int)) = true := decide_eq_true (by omega)
    go_enter Tryd.func11, Tryd.ntmps11
    go_wp2_with fail
    go_ret
    exact ⟨rfl, Below.refl _ _⟩
  have d1 : decide (1048576 < (t.size : Int)) = false := decide_eq_false (by omega)
  clear l0 l1
  go_enter Tryd.func11, Tryd.ntmps11
  go_wp2_with fail
  refine HZ.out.mono ?_
  rintro e w1 ⟨⟨r, rfl, hr2⟩, rfl⟩
  rcases hr2 with rfl | ⟨R, rfl, hR, hn, _⟩
  · go_wp2
    go_ret
    exact ⟨rfl, Below.refl _ _⟩
  have HN := Lib.hid hn
  have dR : ¬ (R : Int) < 0 := by omega
  clear hn hR
  generalize ts.length = n at *
  go_wp2_with fail
  refine (HTO.out _ (Below.refl _ _) HN.out).mono ?_
  rintro e w2 ⟨x1, rfl, ho, hb⟩
  have HO1 := Lib.hid ho
  have HB1 := Lib.hid hb
  clear ho hb
  go_wp2_with fail
  refine (HS.out _ _ HO1.out.sl).mono ?_
  rintro e w3 ⟨rfl, hb⟩
  have HB2 := Lib.hid (HB1.out.trans (hb.mono HB1.out.size))
  clear hb HB1 HO1
  go_wp2_with fail
  refine (HTO.out _ HB2.out HN.out).mono ?_
  rintro e w4 ⟨x2, rfl, ho, hb⟩
  have HO3 := Lib.hid ho
  have HB3 := Lib.hid (HB2.out.trans (hb.mono HB2.out.size))
  clear ho hb HB2
  go_wp2_with fail
  refine (HI.out _ _ HO3.out.sl (TT.out.below HB3.out HTL.out)).mono ?_
  rintro e w5 ⟨rfl, hb⟩
  have HB4 := Lib.hid (HB3.out.trans (hb.mono HB3.out.size))
  have HO4 := Lib.hid (HO3.out.below hb)
  clear hb HB3 HO3
  go_wp2_with fail
  refine (HTO.out _ HB4.out HN.out).mono ?_
  rintro e w6 ⟨x3, rfl, ho, hb⟩
  have HO5 := Lib.hid ho
  have HO6 := Lib.hid (HO4.out.below hb)
  have HB5 := Lib.hid (HB4.out.trans (hb.mono HB4.out.size))
  clear ho hb HB4 HO4
  go_wp2_with fail
  refine (HQ.out _ _ _ HO6.out.sl HO5.out.sl).mono ?_
  rintro e w7 ⟨rfl, hb⟩
  have HB6 := Lib.hid (HB5.out.trans (hb.mono HB5.out.size))
  clear hb HB5 HO5 HO6
  go_wp2
  go_ret
  exact ⟨rfl, HB6.out⟩

theorem walk_any {H : Type} {enc : TypeId × Value → H} {W : World} {base b0 : Nat} {spare : Nat → Bool} {held : Bool} {u : Value} {d : DataW H} {p : List MemPlace} (root : ByteArray) (z : Int) (t : ByteArray) (hr : root.size ≤ maxLen) (ht : t.size ≤ maxLen)
    (o : Value.okWide Tryd.prog W .any b0 36 u) (h : DataW.Trod enc Tryd.prog W base spare held 36 u d p) (hL : laidMetH Tryd.prog Rows.fnExactCheckProofRow.laid W) :
    Calls Tryd.prog 11 #[.string root, .int .i64 z, .string t, u] W fun e w' => e = .returned (.bool true) ∧ Below W.heap.size W w' := by
  rw [RoundTab.check_list] at hL
  obtain ⟨a, l, c, rfl⟩ := okWide_slice Tryd.underlying36 o
  obtain ⟨fuel, hf⟩ := h
  obtain ⟨ts, hts, hsz⟩ := OpenSl.strings Tryd.underlying36 Tryd.underlying9 RootL.cellsS hf
  exact walk W root z t _ ts hr ht hts hsz (RoundTab.tab_of hL)
end Go.Proofs.YtemlmffoehclhaaDoor.ChkL
