/-
  What is proved: the program gathers the values of a tree's blocks, where the tree is right, and says whether it is (contracts for the walks).
-/
import Derived.Test.YtealdpkgfmokpaaRows
import Derived.Test.YtealdpkgfmokpaaOkI2
namespace Go.Proofs.Ytealdpkgfmokpaa.OkV
open Go.ChangeShapes Go.WideShapes Go.ChangeAt Go.RowKit Go.Maps
open Sl (Sl Own Off)
open OpenSl (tc nc pc)
open Dev Orm Wy Box3 OkP OkI OkI2
open LawO (sm)
open SameO (below_drawn drewN_drewN)
set_option linter.unusedVariables false

theorem cell_grown {W w : World} {M : Nat} (hg : W.grownBy w (some M)) {b o : Nat} {x : Value} (c : W.cell? ⟨b, o, none⟩ = some x) (hne : b ≠ M) : w.cell? ⟨b, o, none⟩ = some x :=
  (World.cell?_of_block (w := W) (hg.block b (World.block_lt_of_cell? W _ c) (by simpa using hne))).trans c
theorem sl_grown {W w : World} {M sz n : Nat} {v : Value} {c : Nat → Value} (hg : W.grownBy w (some M)) (h : Sl W sz v n c) (hoff : Off v M) : Sl w sz v n c := h.grown hg hoff
theorem ask (P : Prop) : ∃ q : Bool, q = true ↔ P := by
  by_cases h : P
  · exact ⟨true, by simp only [true_iff]; exact h⟩
  · exact ⟨false, by simp only [Bool.false_eq_true, false_iff]; exact h⟩

/-- What the values' call answers. -/
def VPost (w : World) (o : Om) (q : Bool) (e : Ending) (w' : World) : Prop := Below w.heap.size w w' ∧ (q = false → e = .returned (.tuple #[.map none, .bool false])) ∧ (q = true → ∃ B n, e = .returned (.tuple #[.map (some B), .bool true]) ∧ w.heap.size ≤ B ∧ owns w' B n (mp (al o)))
set_option maxRecDepth 100000 in
set_option maxHeartbeats 3200000 in
theorem values (w : World) (v : Value) (o : Om) (h : Rd w v o) (hn : o.st.length ≤ 1048576) (q : Bool) (hq : q = true ↔ Ok o) :
    Calls Try.prog 100 #[v] w (VPost w o q) := by
  obtain ⟨qs, hqs⟩ := ask (Sh o)
  have HSH := Lib.hid (fun u x (hx : Rd u x o) => shaped u x o hx qs hqs)
  have HNO := Lib.hid (show ¬ Ok o → q = false from fun hn => by cases q with | false => rfl | true => exact absurd (hq.1 rfl) hn)
  have HYES := Lib.hid hq.2
  obtain ⟨p, s, b, rfl, h1, h2, h3⟩ := h
  obtain ⟨U, e1, hb, hz, X⟩ := box3 w 31 p s b
  obtain ⟨G, eG⟩ : ∃ G, w.heap.size = G := ⟨_, rfl⟩
  have HB := Lib.hid hb
  have HR := Lib.hid (show Rd U (.agg #[p, s, b]) o from ⟨p, s, b, rfl, h1.below hb, h2.below hb, h3.below hb⟩)
  have HW1 := Lib.hid h1
  have HW2 := Lib.hid h2
  obtain ⟨vs, hv, hi⟩ := h3
  have HWB := Lib.hid hv
  have HWI := Lib.hid hi
  rw [eG] at X
  have HX := Lib.hid X
  obtain ⟨c0, c1, c2, _, _, _⟩ := X
  have HZ := Lib.hid (show G < U.heap.size by omega)
  have HG := Lib.hid eG
  obtain ⟨pa, pp, ep, _, _⟩ := h1.form
  obtain ⟨sa, sp, es, _, es2⟩ := h2.form
  obtain ⟨ba, bp, eb, _, eb2⟩ := hv.form
  unfold maxLen at es2 eb2
  clear h1 h2 hv hi hb hz hq
  subst ep es eb
  cases qs with
  | false =>
    obtain rfl := HNO.out (fun hs => by have := hqs.2 (Ok.sh hs); cases this)
    clear hqs
    go_enter Try.func100, Try.ntmps100
    go_wp2_with fail
    refine (HSH.out _ _ HR.out).mono ?_
    rintro e w1 ⟨rfl, hb⟩
    have HB1 := Lib.hid (HB.out.trans (hb.mono HB.out.size))
    clear hb
    go_wp2_with fail
    go_ret2
    exact ⟨by first | exact HB1.out | (rw [← HG.out]; exact HB1.out), fun _ => rfl, (fun h => by cases h)⟩
  | true =>
  have HS := Lib.hid (hqs.1 rfl)
  have hl := HS.out.1
  have hl2 := HS.out.2.2.1
  have HL := Lib.hid hl
  have hmm := @run_makeMap Try.prog
  clear hqs hl
  rw [hl2] at HWB HWI HR HX c2 e1 ⊢
  clear hl2
  go_enter Try.func100, Try.ntmps100
  go_wp2_with fail
  clear e1 eG
  refine (HSH.out _ _ HR.out).mono ?_
  rintro e w1 ⟨rfl, hb⟩
  have HB1 := Lib.hid (HB.out.trans (hb.mono HB.out.size))
  have HX1 := Lib.hid (HX.out.below hb)
  have HZ1 := Lib.hid (Nat.lt_of_lt_of_le HZ.out hb.size)
  clear hb c0 c1 c2 HB HX HR HSH HZ
  obtain ⟨W, eW⟩ : ∃ W, w1.alloc (.map #[] 0) = W := ⟨_, rfl⟩
  obtain ⟨M, eM⟩ : ∃ M, w1.heap.size = M := ⟨_, rfl⟩
  have hb2 : Below w1.heap.size w1 W := by rw [← eW]; exact (Below.refl _ _).alloc (Nat.le_refl _) _
  have HBW := Lib.hid (HB1.out.trans (hb2.mono HB1.out.size))
  have HOW := Lib.hid (show owns W M 0 (mp []) from by rw [← eW, ← eM]; exact World.ownsMap_made w1 _ _ _)
  have HGM := Lib.hid (show G < M ∧ w.heap.size ≤ M ∧ M < W.heap.size from ⟨by rw [← eM]; exact HZ1.out, by rw [← eM]; exact HB1.out.size, by rw [← eM, ← eW]; simp⟩)
  have HXW := Lib.hid (HX1.out.below hb2)
  have HPW := Lib.hid (HW1.out.below HBW.out)
  have HOP := Lib.hid (HW1.out.off (by omega) M HGM.out.2.1)
  have HSW := Lib.hid (HW2.out.below HBW.out)
  have HOS := Lib.hid (HW2.out.off (by omega) M HGM.out.2.1)
  have HVW := Lib.hid (HWB.out.below HBW.out)
  have HOV := Lib.hid (HWB.out.off (by omega) M HGM.out.2.1)
  have HIW := Lib.hid (fun j hj => (HWI.out j hj).below HBW.out)
  have HOI := Lib.hid (fun j hj => (HWI.out j hj).off (by omega) M HGM.out.2.1)
  obtain ⟨c0, c1, c2, _, _, _⟩ := HXW.out
  clear hb2 HB1 HX1 HZ1 HW1 HW2 HWB HWI
  go_wp2_with fail
  clear eW eM c0 c1 c2
  generalize en : o.st.length = n at *
  have EN := Lib.hid en
  have HNN := Lib.hid hn
  clear en
  go_loopw [18] (fun i wz => ∃ (k : Nat) (wr : World), wr = wz ∧ k ≤ n ∧ i = .int .i64 k ∧ Hid (W.grownBy wr (some M) ∧ owns wr M k (mp (o.st.take k)) ∧ ∀ j, j < k → gd o.pos (o.st.take j) (o.st.getD j (0, 0, 0)))) (fun i _ => n - (intOf i).toNat)
  case atStart => exact ⟨0, _, rfl, by omega, rfl, Lib.hid ⟨⟨rfl, rfl, rfl, Nat.le_refl _, fun _ _ _ => rfl⟩, HOW.out, fun j hj => by omega⟩⟩
  case round =>
    obtain ⟨k, wr, rfl, hk, rfl, HJ⟩ := hrel
    by_cases hlt : k < n
    · obtain ⟨x0, x1, x2, _, _, _⟩ := HXW.out
      have c0 := cell_grown HJ.out.1 x0 (by have := HGM.out; omega)
      have c1 := cell_grown HJ.out.1 x1 (by have := HGM.out; omega)
      have c2 := cell_grown HJ.out.1 x2 (by have := HGM.out; omega)
      clear x0 x1 x2
      obtain ⟨b, ob, hsa, hc⟩ := (sl_grown HJ.out.1 HSW.out HOS.out).at (by omega)
      subst hsa
      have d0 := hc (k * 3) (by omega)
      have d1 := hc (k * 3 + 1) (by omega)
      have d2 := hc (k * 3 + 2) (by omega)
      rw [bc0] at d0
      rw [bc1, ← Nat.add_assoc] at d1
      rw [bc2, ← Nat.add_assoc] at d2
      have HNX := Lib.hid (take_next o.st (0, 0, 0) k (by rw [EN.out]; exact hlt))
      obtain ⟨q', hq'⟩ := ask (gd o.pos (o.st.take k) (o.st.getD k (0, 0, 0)))
      have HQ := Lib.hid hq'
      have HP2 := Lib.hid (sl_grown HJ.out.1 HPW.out HOP.out)
      have HN2 := Lib.hid (show q' = false → q = false from fun e => HNO.out fun hok => by
        have := hq'.2 (hok.stash k (by rw [EN.out]; exact hlt))
        rw [e] at this
        cases this)
      have HAA := Lib.hid (show q' = true → ∀ j, j < k + 1 → gd o.pos (o.st.take j) (o.st.getD j (0, 0, 0)) from fun e j hj => by
        by_cases ej : j = k
        · rw [ej]; exact hq'.1 e
        · exact HJ.out.2.2 j (by omega))
      clear hc hq'
      generalize o.st.getD k (0, 0, 0) = y at *
      obtain ⟨y0, y1, y2⟩ := y
      simp only at d0 d1 d2
      obtain ⟨V, eV, hbV, _, X4⟩ := box3 wr 110 (.int .i64 y0) (.int .i64 y1) (.int .i64 y2)
      have HBV := Lib.hid hbV
      have HNT := Lib.hid (note V (.slice pa o.pos.length pp) (.slice (some ⟨b, ob, none⟩) n sp) (.slice ba 15 bp) o.pos (HP2.out.below hbV) HL.out M k (o.st.take k) (owns_below HJ.out.2.1 hbV) (by have := HNN.out; omega) y0 y1 y2 q' HQ.out)
      obtain ⟨v0, v1, v2⟩ : V.cell? ⟨G, 0, none⟩ = _ ∧ V.cell? ⟨G, 1, none⟩ = _ ∧ V.cell? ⟨G, 2, none⟩ = _ := ⟨(hbV.cell (World.block_lt_of_cell? _ _ c0)).trans c0, (hbV.cell (World.block_lt_of_cell? _ _ c1)).trans c1, (hbV.cell (World.block_lt_of_cell? _ _ c2)).trans c2⟩
      obtain ⟨f0, f1, f2, _, _, _⟩ := X4
      clear hbV c0 c1 c2
      go_wp2_with fail
      clear eV
      refine (HNT.out).mono ?_
      rintro e w2 ⟨rfl, ho, hg⟩
      cases q' with
      | false =>
        obtain rfl := HN2.out rfl
        have HF := Lib.hid (show Below w.heap.size w w2 from (HBW.out.grown HJ.out.1 HBW.out.size (fun j hj => by cases hj; exact HGM.out.2.1)).trans ((HBV.out.mono (Nat.le_trans HBW.out.size HJ.out.1.size)).grown hg (Nat.le_trans (Nat.le_trans HBW.out.size HJ.out.1.size) HBV.out.size) (fun j hj => by cases hj; exact HGM.out.2.1)))
        clear ho hg
        go_wp2
        go_ret2
        exact ⟨HF.out, fun _ => rfl, (fun h => by cases h)⟩
      | true =>
        have HO2 := Lib.hid (show owns w2 M (k + 1) (mp (o.st.take (k + 1))) from by rw [HNX.out]; exact ho rfl)
        have HG2 := Lib.hid (show W.grownBy w2 (some M) from Src.grown_then (Src.grown_then HJ.out.1 (grown_below HBV.out M) (fun _ _ => .inr rfl)) hg (fun _ _ => .inr rfl))
        have HA2 := Lib.hid (HAA.out rfl)
        clear ho hg
        go_wp2
        go_roundw
        case rel => exact ⟨k + 1, _, rfl, by omega, by go_num, Lib.hid ⟨HG2.out, HO2.out, HA2.out⟩⟩
        case measure => simp [intOf]; omega
    · have HST := Lib.hid (show owns wr M n (mp (sb o 0 0)) ∧ ∀ j, j < n → gd o.pos (o.st.take j) (o.st.getD j (0, 0, 0)) from by
        obtain rfl : k = n := by omega
        refine ⟨?_, HJ.out.2.2⟩
        have := HJ.out.2.1
        rw [sb_start, ← EN.out, List.take_length] at *
        exact this)
      have HG1 := Lib.hid HJ.out.1
      obtain ⟨x0, x1, x2, _, _, _⟩ := HXW.out
      have c0 := cell_grown HG1.out x0 (by have := HGM.out; omega)
      have c1 := cell_grown HG1.out x1 (by have := HGM.out; omega)
      have c2 := cell_grown HG1.out x2 (by have := HGM.out; omega)
      clear x0 x1 x2 HJ
      go_wp2
      clear c0 c1 c2
      go_loopw [31] (fun i wz => ∃ (j : Nat) (wr : World), wr = wz ∧ j ≤ 15 ∧ i = .int .i64 j ∧ Hid (W.grownBy wr (some M) ∧ (∃ m, m ≤ 1048576 + 2 * j ∧ owns wr M m (mp (sb o j 0))) ∧ ∀ j', j' < j → ∀ k, k < (o.bk.getD j' []).length → gd o.pos (sb o j' k) ((o.bk.getD j' []).getD k (0, 0, 0)) ∧ On (j' : Int) ((o.bk.getD j' []).getD k (0, 0, 0)).2.1)) (fun i _ => 15 - (intOf i).toNat)
      case atStart => exact ⟨0, _, rfl, by omega, rfl, Lib.hid ⟨HG1.out, ⟨n, by have := HNN.out; omega, HST.out.1⟩, fun j hj => by omega⟩⟩
      case round =>
        clear hk hlt
        obtain ⟨j, wr2, rfl, hj, rfl, HJ⟩ := hrel
        by_cases hlt : j < 15
        · obtain ⟨x0, x1, x2, _, _, _⟩ := HXW.out
          have c0 := cell_grown HJ.out.1 x0 (by have := HGM.out; omega)
          have c1 := cell_grown HJ.out.1 x1 (by have := HGM.out; omega)
          have c2 := cell_grown HJ.out.1 x2 (by have := HGM.out; omega)
          clear x0 x1 x2
          obtain ⟨b, ob, hba, hc⟩ := (sl_grown HJ.out.1 HVW.out HOV.out).at (by omega)
          subst hba
          have d0 := hc j (by omega)
          have HIJ := Lib.hid (HIW.out j hlt)
          have HOJ := Lib.hid (HOI.out j hlt)
          have hroom := HS.out.2.2.2 j hlt
          obtain ⟨a2, cap2, ev, _, _⟩ := HIJ.out.form
          rw [ev] at d0 HIJ HOJ
          clear hc ev
          have HRW := Lib.hid (sb_row o j)
          obtain ⟨Lj, eL⟩ : ∃ Lj, (o.bk.getD j []).length = Lj := ⟨_, rfl⟩
          have EL := Lib.hid eL
          have dj : decide ((j : Int) < 15) = true := decide_eq_true (by omega)
          rw [eL] at d0 HIJ HOJ hroom
          clear eL
          go_wp2
          clear c0 c1 c2 d0
          go_loopw [38] (fun i wz => ∃ (k : Nat) (wr : World), wr = wz ∧ k ≤ Lj ∧ i = .int .i64 k ∧ Hid (W.grownBy wr (some M) ∧ (∃ m, m ≤ 1048576 + 2 * j + k ∧ owns wr M m (mp (sb o j k))) ∧ ∀ k', k' < k → gd o.pos (sb o j k') ((o.bk.getD j []).getD k' (0, 0, 0)) ∧ On (j : Int) ((o.bk.getD j []).getD k' (0, 0, 0)).2.1)) (fun i _ => Lj - (intOf i).toNat)
          case atStart => exact ⟨0, _, rfl, by omega, rfl, Lib.hid ⟨HJ.out.1, by simpa using HJ.out.2.1, fun k hk => by omega⟩⟩
          case round =>
            obtain ⟨k, wr3, rfl, hk, rfl, HK⟩ := hrel
            by_cases hlt3 : k < Lj
            · obtain ⟨x0, x1, x2, _, _, _⟩ := HXW.out
              have c0 := cell_grown HK.out.1 x0 (by have := HGM.out; omega)
              have c1 := cell_grown HK.out.1 x1 (by have := HGM.out; omega)
              have c2 := cell_grown HK.out.1 x2 (by have := HGM.out; omega)
              clear x0 x1 x2
              obtain ⟨b4, ob4, hba, hc⟩ := (sl_grown HK.out.1 HIJ.out HOJ.out).at (by omega)
              subst hba
              have d0 := hc (k * 3) (by omega)
              have d1 := hc (k * 3 + 1) (by omega)
              have d2 := hc (k * 3 + 2) (by omega)
              rw [bc0] at d0
              rw [bc1, ← Nat.add_assoc] at d1
              rw [bc2, ← Nat.add_assoc] at d2
              have HNX := Lib.hid (sb_next o j k (by rw [EL.out]; exact hlt3))
              obtain ⟨q', hq'⟩ := ask (gd o.pos (sb o j k) ((o.bk.getD j []).getD k (0, 0, 0)))
              have HQ := Lib.hid hq'
              have HP2 := Lib.hid (sl_grown HK.out.1 HPW.out HOP.out)
              have HN2 := Lib.hid (show q' = false → q = false from fun e => HNO.out fun hok => by
                have := hq'.2 (hok.tree j k hlt (by rw [EL.out]; exact hlt3)).1
                rw [e] at this
                cases this)
              have HN3 := Lib.hid (show ¬ On (j : Int) ((o.bk.getD j []).getD k (0, 0, 0)).2.1 → q = false from fun e => HNO.out fun hok => e (hok.tree j k hlt (by rw [EL.out]; exact hlt3)).2)
              have HLF := Lib.hid (show q' = true → P8 ((o.bk.getD j []).getD k (0, 0, 0)).2.1 from fun e => by
                have hg := (hq'.1 e).1
                rw [hg.2.1]
                have hlt12 : ((o.bk.getD j []).getD k (0, 0, 0)).1.toNat < o.pos.length := by rw [HL.out]; have := hg.1.1; have := hg.1.2; omega
                rw [List.getD_eq_getElem?_getD, List.getElem?_eq_getElem hlt12]
                exact HS.out.2.1 _ (List.getElem_mem _))
              have HAA := Lib.hid (show q' = true → On (j : Int) ((o.bk.getD j []).getD k (0, 0, 0)).2.1 → ∀ k', k' < k + 1 → gd o.pos (sb o j k') ((o.bk.getD j []).getD k' (0, 0, 0)) ∧ On (j : Int) ((o.bk.getD j []).getD k' (0, 0, 0)).2.1 from fun e e2 j' hj' => by
                by_cases ej : j' = k
                · rw [ej]; exact ⟨hq'.1 e, e2⟩
                · exact HK.out.2.2 j' (by omega))
              clear hc hq'
              generalize (o.bk.getD j []).getD k (0, 0, 0) = y at *
              obtain ⟨y0, y1, y2⟩ := y
              simp only at d0 d1 d2
              obtain ⟨m, hm, hom⟩ := HK.out.2.1
              have HOM := Lib.hid hom
              clear hom
              obtain ⟨V, eV, hbV, _, X4⟩ := box3 wr3 110 (.int .i64 y0) (.int .i64 y1) (.int .i64 y2)
              obtain ⟨G4, eG4⟩ : ∃ G4, wr3.heap.size = G4 := ⟨_, rfl⟩
              have HG4 := Lib.hid (show M < G4 by rw [← eG4]; exact Nat.lt_of_lt_of_le HGM.out.2.2 HK.out.1.size)
              rw [eG4] at X4
              have HX4 := Lib.hid X4
              have HBV := Lib.hid hbV
              have HNT := Lib.hid (note V (.slice pa o.pos.length pp) (.slice sa n sp) (.slice (some ⟨b, ob, none⟩) 15 bp) o.pos (HP2.out.below hbV) HL.out M m (sb o j k) (owns_below HOM.out hbV) (by omega) y0 y1 y2 q' HQ.out)
              have HF0 := Lib.hid (show Below w.heap.size w V from (HBW.out.grown HK.out.1 HBW.out.size (fun j hj => by cases hj; exact HGM.out.2.1)).trans (HBV.out.mono (Nat.le_trans HBW.out.size HK.out.1.size)))
              obtain ⟨v0, v1, v2⟩ : V.cell? ⟨G, 0, none⟩ = _ ∧ V.cell? ⟨G, 1, none⟩ = _ ∧ V.cell? ⟨G, 2, none⟩ = _ := ⟨(hbV.cell (World.block_lt_of_cell? _ _ c0)).trans c0, (hbV.cell (World.block_lt_of_cell? _ _ c1)).trans c1, (hbV.cell (World.block_lt_of_cell? _ _ c2)).trans c2⟩
              obtain ⟨f0, f1, f2, _, _, _⟩ := X4
              clear hbV c0 c1 c2
              go_wp2_with fail
              clear eV eG4 f0 f1 f2
              refine (HNT.out).mono ?_
              rintro e w2 ⟨rfl, ho, hg⟩
              have HF := Lib.hid (HF0.out.grown hg HF0.out.size (fun j hj => by cases hj; exact HGM.out.2.1))
              cases q' with
              | false =>
                obtain rfl := HN2.out rfl
                clear ho hg
                go_wp2
                go_ret2
                exact ⟨HF.out, fun _ => rfl, (fun h => by cases h)⟩
              | true =>
                have HO2 := Lib.hid (show owns w2 M (m + 1) (mp (sb o j (k + 1))) from by rw [HNX.out]; exact ho rfl)
                have HG2 := Lib.hid (show W.grownBy w2 (some M) from Src.grown_then (Src.grown_then HK.out.1 (grown_below HBV.out M) (fun _ _ => .inr rfl)) hg (fun _ _ => .inr rfl))
                have HX5 := Lib.hid (HX4.out.block (hg.block G4 HX4.out.lt (by have := HG4.out; simp; omega)))
                have hp8 := HLF.out (by trivial)
                clear ho hg
                obtain ⟨f0, f1, f2, _, _, _⟩ := HX5.out
                go_wp2_with fail
                refine (isOnWay (j : Int) y1 hp8 w2).mono ?_
                rintro e w3 ⟨rfl, hb⟩
                have HG3 := Lib.hid (Src.grown_then HG2.out (grown_below hb M) (fun _ _ => .inr rfl))
                have HO3 := Lib.hid (owns_below HO2.out hb)
                have HF3 := Lib.hid (HF.out.trans (hb.mono HF.out.size))
                clear hb f0 f1 f2
                by_cases hon : On (j : Int) y1
                · rw [decide_eq_true hon]
                  have HA2 := Lib.hid (HAA.out (by trivial) hon)
                  clear hon
                  go_wp2
                  go_roundw
                  case rel => exact ⟨k + 1, _, rfl, by omega, by go_num, Lib.hid ⟨HG3.out, ⟨m + 1, by omega, HO3.out⟩, HA2.out⟩⟩
                  case measure => simp [intOf]; omega
                · rw [decide_eq_false hon]
                  obtain rfl := HN3.out hon
                  clear hon
                  go_wp2
                  go_ret2
                  exact ⟨HF3.out, fun _ => rfl, (fun h => by cases h)⟩
            · have HN := Lib.hid (show (∃ m, m ≤ 1048576 + 2 * (j + 1) ∧ owns wr3 M m (mp (sb o (j + 1) 0))) ∧ ∀ j', j' < j + 1 → ∀ k, k < (o.bk.getD j' []).length → gd o.pos (sb o j' k) ((o.bk.getD j' []).getD k (0, 0, 0)) ∧ On (j' : Int) ((o.bk.getD j' []).getD k (0, 0, 0)).2.1 from by
                obtain rfl : k = Lj := by omega
                refine ⟨?_, fun j' hj' k' hk' => ?_⟩
                · obtain ⟨m, hm, ho⟩ := HK.out.2.1
                  exact ⟨m, by omega, by rw [HRW.out (by rw [HS.out.2.2.1]; exact hlt), EL.out]; exact ho⟩
                · by_cases ej : j' = j
                  · subst ej
                    exact HK.out.2.2 k' (by rw [← EL.out]; exact hk')
                  · exact HJ.out.2.2 j' (by omega) k' hk')
              have HGE := Lib.hid HK.out.1
              clear HK
              go_wp2
              go_roundw
              case rel => exact ⟨j + 1, _, rfl, by omega, by go_num, Lib.hid ⟨HGE.out, HN.out.1, HN.out.2⟩⟩
              case measure => simp [intOf]; omega
        · have HEND := Lib.hid (show Ok o ∧ ∃ m, owns wr2 M m (mp (al o)) from by
            obtain rfl : j = 15 := by omega
            refine ⟨⟨HL.out, HS.out.2.1, HS.out.2.2.1, HS.out.2.2.2, fun k hk => HST.out.2 k (by rw [← EN.out]; exact hk), fun j k hj hk => HJ.out.2.2 j hj k hk⟩, ?_⟩
            obtain ⟨m, _, ho⟩ := HJ.out.2.1
            rw [← HS.out.2.2.1, sb_end] at ho
            exact ⟨m, ho⟩)
          obtain rfl := HYES.out HEND.out.1
          have HF := Lib.hid (show Below w.heap.size w wr2 from HBW.out.grown HJ.out.1 HBW.out.size (fun j hj => by cases hj; exact HGM.out.2.1))
          clear HJ
          go_wp2
          go_ret2
          obtain ⟨m, ho⟩ := HEND.out.2
          exact ⟨HF.out, (fun h => by cases h), fun _ => ⟨M, m, rfl, HGM.out.2.1, ho⟩⟩
end Go.Proofs.Ytealdpkgfmokpaa.OkV
