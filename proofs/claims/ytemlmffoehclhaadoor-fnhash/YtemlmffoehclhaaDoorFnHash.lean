/-
  What is proved: the law that a digest does not hang on how a text comes in pieces returns true (the walk).
-/
import Derived.Test.YtemlmffoehclhaaDoorRows
import Derived.Test.YtemlmffoehclhaaDoorHashT
import Derived.Test.YtemlmffoehclhaaDoorRoundTab
import Derived.Test.YtemlmffoehclhaaDoorAt
import Derived.Deep.RegionHeld3
import Derived.Deep.CutRange
namespace Go.Proofs.YtemlmffoehclhaaDoor.FnHash
open Go.ChangeShapes Go.WideShapes Go.ChangeAt Go.RowKit
open MixBlock (Tab)
open HashOf (txt)
open HashT (hvT)
open Src (IsRow)
set_option linter.unusedVariables false

theorem isRow_below {k : IntKind} {w w' : World} {a : Option Addr} {len cap : Nat} {zs : List Int} (h : IsRow k w a len cap zs) (hb : Below w.heap.size w w') : IsRow k w' a len cap zs := by
  rcases h with h | ⟨x, h1, h2, h3, h4, h5, h6⟩
  · exact .inl h
  · refine .inr ⟨x, h1, h2, h3, h4, fun i hi => ?_, h6⟩
    have hc := h5 i hi
    exact (hb.cell (World.block_lt_of_cell? w _ hc)).trans hc
theorem isRow_drewN {k : IntKind} {w : World} {a : Option Addr} {len cap : Nat} {zs : List Int} (h : IsRow k w a len cap zs) (n : Nat) : IsRow k (w.drewN n) a len cap zs := h

set_option maxRecDepth 100000 in
set_option maxHeartbeats 6400000 in
theorem walk (a0 : Option Addr) (len0 cap0 : Nat) (z0 : List Int) (a1 : Option Addr) (len1 cap1 : Nat) (z1 : List Int) (w : World) (h0 : IsRow .u8 w a0 len0 cap0 z0) (h1 : IsRow .u8 w a1 len1 cap1 z1) (hL : laidMetH Tryd.prog Rows.fnHashRow.laid w) :
    Calls Tryd.prog 3 #[.slice a0 len0 cap0, .slice a1 len1 cap1] w fun e w' => e = .returned (.bool true) ∧ Below w.heap.size w w' := by
  rw [RoundTab.fn_list] at hL
  have T := RoundTab.tab_of hL
  clear hL
  have TT := Lib.hid T
  have HTL := Lib.hid T.lt
  clear T
  have m0 := h0.code.1
  have m1 := h1.code.1
  unfold maxLen at m0 m1
  have H0 := Lib.hid h0
  have H1 := Lib.hid h1
  clear h0 h1
  by_cases b0 : 1048576 < len0
  · go_enter Tryd.func3, Tryd.ntmps3
    go_wp2_with fail
    go_ret
    exact ⟨rfl, Below.refl _ _⟩
  by_cases b1 : 1048576 < len1
  · have d0 : decide (1048576 < (len0 : Int)) = false := decide_eq_false (by omega)
    go_enter Tryd.func3, Tryd.ntmps3
    go_wp2_with fail
    go_ret
    exact ⟨rfl, Below.refl _ _⟩
  have d0 : decide (1048576 < (len0 : Int)) = false := decide_eq_false (by omega)
  have d1 : decide (1048576 < (len1 : Int)) = false := decide_eq_false (by omega)
  have hl1 : len1 ≤ 1048576 := by omega
  clear b0 b1 m0 m1
  go_enter Tryd.func3, Tryd.ntmps3
  go_wp2_with fail
  clear d0 d1
  refine (Src.textOf w a0 len0 cap0 z0 H0.out).mono ?_
  rintro e w1 ⟨bs0, rfl, hs0, hb1⟩
  have HB1 := Lib.hid hb1
  clear hb1
  go_wp2_with fail
  refine (Src.textOf w1 a1 len1 cap1 z1 (isRow_below H1.out HB1.out)).mono ?_
  rintro e w2 ⟨bs1, rfl, hs1, hb2⟩
  have HB2 := Lib.hid (HB1.out.trans (hb2.mono HB1.out.size))
  clear hb2 HB1
  obtain ⟨t, et⟩ : ∃ t, (⟨bs0.toArray⟩ : ByteArray) ++ ⟨bs1.toArray⟩ = t := ⟨_, rfl⟩
  have hts : t.size ≤ 398 := by
    rw [← et, ByteArray.size_append]
    have q0 : (⟨bs0.toArray⟩ : ByteArray).size = bs0.length := List.size_toArray
    have q1 : (⟨bs1.toArray⟩ : ByteArray).size = bs1.length := List.size_toArray
    omega
  go_wp2_with fail
  have HO := Lib.hid (HashOf.resO_fine t (by omega))
  have HD := Lib.hid (show (txt t).size = 32 from Join.sum_size _ _ _)
  refine (HashOf.of_impl t (by omega) _ (TT.out.below HB2.out HTL.out)).mono ?_
  rw [HO.out]
  rintro e w3 ⟨rfl, hb3⟩
  have HB3 := Lib.hid (HB2.out.trans (hb3.mono HB2.out.size))
  clear hb3 HB2
  simp only []
  go_wp2_with fail
  refine (HashOf.of_spec t (by omega) _).mono ?_
  rw [HO.out]
  rintro e w4 ⟨rfl, hb4⟩
  have HB4 := Lib.hid (HB3.out.trans (hb4.mono HB3.out.size))
  clear hb4 HB3 HO
  simp only []
  go_wp2_with fail
  refine (At.at_ w4 a1 len1 cap1 z1 (isRow_below H1.out HB4.out) hl1 0 (by omega) 0 rfl _ (by omega)).mono ?_
  obtain ⟨i, ei⟩ : ∃ i : Nat, At.val z1 len1 0 ((t.size : Int) + 1) = (i : Int) := ⟨_, (Int.toNat_of_nonneg (At.val_nonneg _ _ _ _)).symm⟩
  have hi : i ≤ t.size := by have := At.val_lt z1 len1 0 ((t.size : Int) + 1) (by omega); omega
  rw [ei]
  clear ei
  rintro e w5 ⟨rfl, n5, rfl⟩
  go_wp2_with fail
  refine (At.at_ (w4.drewN n5) a1 len1 cap1 z1 (isRow_drewN (isRow_below H1.out HB4.out) n5) hl1 1 (by omega) 1 rfl _ (by omega)).mono ?_
  obtain ⟨j0, ej⟩ : ∃ j : Nat, At.val z1 len1 1 ((t.size : Int) - (i : Int) + 1) = (j : Int) := ⟨_, (Int.toNat_of_nonneg (At.val_nonneg _ _ _ _)).symm⟩
  have hj0 : j0 ≤ t.size - i := by have := At.val_lt z1 len1 1 ((t.size : Int) - (i : Int) + 1) (by omega); omega
  rw [ej]
  clear ej
  rintro e w6 ⟨rfl, n6, rfl⟩
  have HB6 := Lib.hid (below_drewN (below_drewN HB4.out n5) n6)
  clear HB4
  obtain ⟨j, hj⟩ : ∃ j, i + j0 = j := ⟨_, rfl⟩
  have hij : i ≤ j := by omega
  have hjt : j ≤ t.size := by omega
  have EJ := Lib.hid (show (i : Int) + (j0 : Int) = (j : Int) by omega)
  clear hj
  go_upto_region 8 with (fail)
  rw [EJ.out]
  clear hj0
  rw [World.drewN_drewN] at HB6
  generalize w4.drewN (n5 + n6) = W at *
  clear EJ
  have sz1 : (t.extract 0 i).size ≤ 398 := by rw [ByteArray.size_extract]; omega
  have sz2 : (t.extract i j).size ≤ 398 := by rw [ByteArray.size_extract]; omega
  have sz3 : (t.extract j t.size).size ≤ 398 := by rw [ByteArray.size_extract]; omega
  have HJ := Lib.hid (Join.extract_join t i j hij hjt)
  have hi2 : (i : Int) ≤ (t.size : Int) := by omega
  have hij2 : (i : Int) ≤ (j : Int) := by omega
  have hjt2 : (j : Int) ≤ (t.size : Int) := by omega
  obtain ⟨x0, x1, x2, x3, x4, x5, x6, x7, xb, hx⟩ := HashT.form (t.extract 0 i)
  have HX := Lib.hid hx
  obtain ⟨y0, y1, y2, y3, y4, y5, y6, y7, yb, hy⟩ := HashT.form (t.extract 0 i ++ t.extract i j)
  have HY := Lib.hid hy
  obtain ⟨v0, v1, v2, v3, v4, v5, v6, v7, vb, hv⟩ := HashT.form t
  have HV := Lib.hid hv
  clear hx hy hv
  have HM1 := Lib.hid (fun u (T : Tab u) => HashT.moreT ⟨#[]⟩ (t.extract 0 i) (by show 0 ≤ _; omega) (by omega) u T)
  rw [HashOf.nil_append, HX.out] at HM1
  have HM2 := Lib.hid (fun u (T : Tab u) => HashT.moreT (t.extract 0 i) (t.extract i j) (by omega) (by omega) u T)
  rw [HX.out, HY.out] at HM2
  have HM3 := Lib.hid (fun u (T : Tab u) => HashT.moreT (t.extract 0 i ++ t.extract i j) (t.extract j t.size) (by rw [ByteArray.size_append]; omega) (by omega) u T)
  rw [HJ.out, HY.out, HV.out] at HM3
  have HSS := Lib.hid (fun u (T : Tab u) => HashT.sumT t (by omega) u T)
  rw [HV.out] at HSS
  have HRR := Lib.hid (fun u => HashT.rightT t (by omega) u)
  rw [HV.out] at HRR
  obtain ⟨nx, enx⟩ : ∃ n : Int, ((t.extract 0 i).size : Int) = n := ⟨_, rfl⟩
  obtain ⟨ny, eny⟩ : ∃ n : Int, ((t.extract 0 i ++ t.extract i j).size : Int) = n := ⟨_, rfl⟩
  rw [enx] at HM1 HM2
  rw [eny] at HM2 HM3
  have HN := Lib.hid (HashT.newT)
  generalize hvT ⟨#[]⟩ = h00 at *
  clear enx eny HX HY HV HJ sz1 sz2 sz3
  generalize txt t = dg at *

  go_cut [12, 13] from 57 to 130 (fun v vc wc => ∃ gg : Nat, v = .pointer (some ⟨gg, 0, none⟩) ∧ vc = .int .i64 0 ∧ gg < wc.heap.size ∧ (wc.cell? ⟨gg, 0, none⟩ = some (.int .i64 x0) ∧ wc.cell? ⟨gg, 1, none⟩ = some (.int .i64 x1) ∧ wc.cell? ⟨gg, 2, none⟩ = some (.int .i64 x2) ∧ wc.cell? ⟨gg, 3, none⟩ = some (.int .i64 x3) ∧ wc.cell? ⟨gg, 4, none⟩ = some (.int .i64 x4) ∧ wc.cell? ⟨gg, 5, none⟩ = some (.int .i64 x5) ∧ wc.cell? ⟨gg, 6, none⟩ = some (.int .i64 x6) ∧ wc.cell? ⟨gg, 7, none⟩ = some (.int .i64 x7) ∧ wc.cell? ⟨gg, 8, none⟩ = some (.string xb) ∧ wc.cell? ⟨gg, 9, none⟩ = some (.int .i64 nx)) ∧ Hid (Below w.heap.size w wc))
  case first =>
    have hzW := HB6.out.size
    go_region_held3 (fun w' => True) (trivial)
      (first
       | (go_at_call 18
          refine (HN.out _).mono ?_
          rintro e' u1 ⟨rfl, hb1⟩
          obtain ⟨hc1, hf1⟩ := Eq8.bcell hb1
          have hz1 := hb1.size
          have HC1 := Lib.hid hb1
          clear hb1
          (try simp only [World.size_drew] at hc1 hf1 hz1)
          (try simp only [World.size_alloc] at hc1 hf1 hz1)
          (try have l0 : W.heap.size < u1.heap.size := (by omega)))
       | (go_at_call 17
          refine (HM1.out _ (TT.out.below (B := w.heap.size) (by repeat (with_reducible (first | exact HB6.out | refine Below.setCell ?_ (by first | omega | (simp; done) | (simp; omega)) _ | refine Below.alloc ?_ (by first | omega | (simp; done) | (simp; omega)) _ | refine Below.drew ?_ | refine Below.trans ?_ (HC1.out.mono (by first | omega | (simp; done) | (simp; omega)))))) HTL.out)).mono ?_
          rintro e' u2 ⟨rfl, hb2⟩
          obtain ⟨hc2, hf2⟩ := Eq8.bcell hb2
          have hz2 := hb2.size
          have HC2 := Lib.hid hb2
          clear hb2
          (try simp only [World.size_drew] at hc2 hf2 hz2)
          (try simp only [World.size_alloc] at hc2 hf2 hz2)
          (try have l1 : W.heap.size < u2.heap.size := (by omega))
          (try have l2 : u1.heap.size < u2.heap.size := (by omega))))
    all_goals
      go_wp2_with fail
      go_meet
      refine ⟨_, rfl, rfl, (by first | omega | (simp; done) | (simp; omega)), ⟨?_, ?_, ?_, ?_, ?_, ?_, ?_, ?_, ?_, ?_⟩, Lib.hid ?_⟩
      iterate 10 (rotate_left)
      · repeat (with_reducible (first | exact HB6.out | refine Below.setCell ?_ (by first | omega | (simp; done) | (simp; omega)) _ | refine Below.alloc ?_ (by first | omega | (simp; done) | (simp; omega)) _ | refine Below.drew ?_ | refine Below.trans ?_ (HC2.out.mono (by first | omega | (simp; done) | (simp; omega))) | refine Below.trans ?_ (HC1.out.mono (by first | omega | (simp; done) | (simp; omega)))))
      all_goals go_simp
  case rest =>
  obtain ⟨g12, rfl, rfl, hg12, ⟨c0, c1, c2, c3, c4, c5, c6, c7, c8, c9⟩, HB12⟩ := hcut
  have hzA := HB12.out.size
  clear HM1 HN
  go_upto_region 9 with (fail)
  go_cut [14, 15] from 65 to 130 (fun v vc wc => ∃ gg : Nat, v = .pointer (some ⟨gg, 0, none⟩) ∧ vc = .int .i64 0 ∧ gg < wc.heap.size ∧ (wc.cell? ⟨gg, 0, none⟩ = some (.int .i64 y0) ∧ wc.cell? ⟨gg, 1, none⟩ = some (.int .i64 y1) ∧ wc.cell? ⟨gg, 2, none⟩ = some (.int .i64 y2) ∧ wc.cell? ⟨gg, 3, none⟩ = some (.int .i64 y3) ∧ wc.cell? ⟨gg, 4, none⟩ = some (.int .i64 y4) ∧ wc.cell? ⟨gg, 5, none⟩ = some (.int .i64 y5) ∧ wc.cell? ⟨gg, 6, none⟩ = some (.int .i64 y6) ∧ wc.cell? ⟨gg, 7, none⟩ = some (.int .i64 y7) ∧ wc.cell? ⟨gg, 8, none⟩ = some (.string yb) ∧ wc.cell? ⟨gg, 9, none⟩ = some (.int .i64 ny)) ∧ Hid (Below w.heap.size w wc))
  case first =>
    have hzW := HB12.out.size
    go_region_with
      (first
       | (go_at_call 17
          refine (HM2.out _ (TT.out.below (B := w.heap.size) (by repeat (with_reducible (first | exact HB12.out | refine Below.setCell ?_ (by first | omega | (simp; done) | (simp; omega)) _ | refine Below.alloc ?_ (by first | omega | (simp; done) | (simp; omega)) _ | refine Below.drew ?_ | refine Below.trans ?_ (HC1.out.mono (by first | omega | (simp; done) | (simp; omega)))))) HTL.out)).mono ?_
          rintro e' u2 ⟨rfl, hb2⟩
          obtain ⟨hc2, hf2⟩ := Eq8.bcell hb2
          have hz2 := hb2.size
          have HC2 := Lib.hid hb2
          clear hb2
          (try simp only [World.size_drew] at hc2 hf2 hz2)
          (try simp only [World.size_alloc] at hc2 hf2 hz2)
          (try have l1 : wc.heap.size < u2.heap.size := (by omega))
          (try have l3 : g12 < u2.heap.size := (by omega))))
    all_goals
      go_wp2_with fail
      go_meet
      refine ⟨_, rfl, rfl, (by first | omega | (simp; done) | (simp; omega)), ⟨?_, ?_, ?_, ?_, ?_, ?_, ?_, ?_, ?_, ?_⟩, Lib.hid ?_⟩
      iterate 10 (rotate_left)
      · repeat (with_reducible (first | exact HB12.out | refine Below.setCell ?_ (by first | omega | (simp; done) | (simp; omega)) _ | refine Below.alloc ?_ (by first | omega | (simp; done) | (simp; omega)) _ | refine Below.drew ?_ | refine Below.trans ?_ (HC2.out.mono (by first | omega | (simp; done) | (simp; omega)))))
      all_goals go_simp
  case rest =>
  clear c0 c1 c2 c3 c4 c5 c6 c7 c8 c9
  obtain ⟨g14, rfl, rfl, hg14, ⟨c0, c1, c2, c3, c4, c5, c6, c7, c8, c9⟩, HB14⟩ := hcut
  clear HM2
  go_upto_region 10 with (fail)
  go_cut [16, 17] from 74 to 130 (fun v vc wc => ∃ gg : Nat, v = .pointer (some ⟨gg, 0, none⟩) ∧ vc = .int .i64 0 ∧ gg < wc.heap.size ∧ (wc.cell? ⟨gg, 0, none⟩ = some (.int .i64 v0) ∧ wc.cell? ⟨gg, 1, none⟩ = some (.int .i64 v1) ∧ wc.cell? ⟨gg, 2, none⟩ = some (.int .i64 v2) ∧ wc.cell? ⟨gg, 3, none⟩ = some (.int .i64 v3) ∧ wc.cell? ⟨gg, 4, none⟩ = some (.int .i64 v4) ∧ wc.cell? ⟨gg, 5, none⟩ = some (.int .i64 v5) ∧ wc.cell? ⟨gg, 6, none⟩ = some (.int .i64 v6) ∧ wc.cell? ⟨gg, 7, none⟩ = some (.int .i64 v7) ∧ wc.cell? ⟨gg, 8, none⟩ = some (.string vb) ∧ wc.cell? ⟨gg, 9, none⟩ = some (.int .i64 (t.size : Int))) ∧ Hid (Below w.heap.size w wc))
  case first =>
    have hzW := HB14.out.size
    go_region_with
      (first
       | (go_at_call 17
          refine (HM3.out _ (TT.out.below (B := w.heap.size) (by repeat (with_reducible (first | exact HB14.out | refine Below.setCell ?_ (by first | omega | (simp; done) | (simp; omega)) _ | refine Below.alloc ?_ (by first | omega | (simp; done) | (simp; omega)) _ | refine Below.drew ?_ | refine Below.trans ?_ (HC1.out.mono (by first | omega | (simp; done) | (simp; omega)))))) HTL.out)).mono ?_
          rintro e' u2 ⟨rfl, hb2⟩
          obtain ⟨hc2, hf2⟩ := Eq8.bcell hb2
          have hz2 := hb2.size
          have HC2 := Lib.hid hb2
          clear hb2
          (try simp only [World.size_drew] at hc2 hf2 hz2)
          (try simp only [World.size_alloc] at hc2 hf2 hz2)
          (try have l1 : wc.heap.size < u2.heap.size := (by omega))
          (try have l3 : g14 < u2.heap.size := (by omega))))
    all_goals
      go_wp2_with fail
      go_meet
      refine ⟨_, rfl, rfl, (by first | omega | (simp; done) | (simp; omega)), ⟨?_, ?_, ?_, ?_, ?_, ?_, ?_, ?_, ?_, ?_⟩, Lib.hid ?_⟩
      iterate 10 (rotate_left)
      · repeat (with_reducible (first | exact HB14.out | refine Below.setCell ?_ (by first | omega | (simp; done) | (simp; omega)) _ | refine Below.alloc ?_ (by first | omega | (simp; done) | (simp; omega)) _ | refine Below.drew ?_ | refine Below.trans ?_ (HC2.out.mono (by first | omega | (simp; done) | (simp; omega)))))
      all_goals go_simp
  case rest =>
  clear c0 c1 c2 c3 c4 c5 c6 c7 c8 c9
  obtain ⟨g16, rfl, rfl, hg16, ⟨c0, c1, c2, c3, c4, c5, c6, c7, c8, c9⟩, HB16⟩ := hcut
  clear HM3
  go_wp2_with fail
  refine (HSS.out _ (TT.out.below HB16.out HTL.out)).mono ?_
  rintro e' u1 ⟨rfl, hb1⟩
  obtain ⟨hc1, hf1⟩ := Eq8.bcell hb1
  have hz1 := hb1.size
  have HC1 := Lib.hid hb1
  clear hb1
  have hg1 : g16 < u1.heap.size := by omega
  have hds := HD.out
  go_wp2_with fail
  refine (HRR.out _).mono ?_
  rintro e' u2 ⟨rfl, hb2⟩
  obtain ⟨hc2, hf2⟩ := Eq8.bcell hb2
  have HC2 := Lib.hid hb2
  clear hb2
  go_wp2
  go_ret
  have hzz := HB16.out.size
  exact ⟨rfl, (HB16.out.trans (HC1.out.mono (by omega))).trans (HC2.out.mono (by omega))⟩
end Go.Proofs.YtemlmffoehclhaaDoor.FnHash