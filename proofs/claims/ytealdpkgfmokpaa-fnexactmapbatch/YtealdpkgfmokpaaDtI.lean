/-
  What is proved: the program does a transaction on a map under way: all of it, or, behind a code, none (contracts for the walks).
-/
import Derived.Test.YtealdpkgfmokpaaRows
import Derived.Test.YtealdpkgfmokpaaDtP
import Derived.Test.YtealdpkgfmokpaaTxM
import Derived.Test.YtealdpkgfmokpaaUndoI
import Derived.Defers
namespace Go.Proofs.Ytealdpkgfmokpaa.DtI
open Go.ChangeShapes Go.WideShapes Go.ChangeAt Go.RowKit Go.Maps
open Sl (Sl Own Off)
open OpenSl (nc)
open Dev Orm LawE MapP MapOk OtB MapD MapW MapI MapU DoI DoA Box2 RsP TxP DtP
open OpB (Ok)
set_option linter.unusedVariables false

set_option maxRecDepth 100000 in
set_option maxHeartbeats 1600000 in
/-- The deferred closure, where there is no code. -/
theorem closure0 (w : World) (G2 G4 : Nat) (c0 : w.cell? ⟨G4, 0, none⟩ = some (.int .i64 0)) :
    CallsD Try.prog 126 #[.pointer (some ⟨G4, 0, none⟩), .pointer (some ⟨G2, 0, none⟩)] .returning w fun e u' w' => u' = .returning ∧ e = .returned (.tuple #[]) ∧ w' = w := by
  go_enter_d Try.func126, Try.ntmps126
  go_wp2
  go_end0
  exact ⟨rfl, rfl⟩
set_option maxRecDepth 100000 in
set_option maxHeartbeats 1600000 in
/-- .. where there is one: what was done is put back. -/
theorem closureC (w : World) (G2 G4 g : Nat) (C : Int) (hC : C ≠ 0) (c0 : w.cell? ⟨G4, 0, none⟩ = some (.int .i64 C)) (c2 : w.cell? ⟨G2, 0, none⟩ = some (.pointer (some ⟨g, 0, none⟩))) (T : World → Prop)
    (hU : Calls Try.prog 127 #[.pointer (some ⟨g, 0, none⟩)] w fun e w' => e = .returned (.tuple #[]) ∧ T w') :
    CallsD Try.prog 126 #[.pointer (some ⟨G4, 0, none⟩), .pointer (some ⟨G2, 0, none⟩)] .returning w fun e u' w' => u' = .returning ∧ e = .returned (.tuple #[]) ∧ T w' := by
  have HU := Lib.hid hU
  have g1 : (C != 0) = true := bne_iff_ne.2 hC
  clear hU hC
  go_enter_d Try.func126, Try.ntmps126
  go_wp2_with fail
  refine HU.out.mono ?_
  rintro e w1 ⟨rfl, ht⟩
  have HT := Lib.hid ht
  clear ht
  go_wp2
  go_end0
  exact ⟨rfl, HT.out⟩

set_option maxRecDepth 100000 in
set_option maxHeartbeats 3200000 in
theorem doTxn (W0 : World) (lo g B : Nat) (xs : List En) (pv0 : Value) (h : Wk W0 lo g B xs pv0) (hok : MOk xs) (u : Value) (os : List Bk) (hu : ∀ w, Below lo W0 w → Sl w 3 u os.length (bc os)) (hall : ∀ o ∈ os, Ok o) (hl4 : os.length ≤ 4) :
    Calls Try.prog 87 #[.pointer (some ⟨g, 0, none⟩), .agg #[u]] W0 fun e w' => TP W0 lo g B (tx xs xs [] os) w' e ∧ Below lo W0 w' := by
  have hmf : ∀ (fn : Fn) (first cap : Array Value) (w : World), (Instr.makeFunc fn first cap).run Try.prog w = .ok (.func fn first cap) w := fun _ _ _ _ => rfl
  have hlo : lo ≤ W0.heap.size := by have := h.lg; have := h.gt; omega
  obtain ⟨U1, e1, hb1, hz1, X1⟩ := TxM.box1 W0 123 (.pointer (some ⟨g, 0, none⟩))
  have T1 : Ty U1 W0.heap.size 123 := by rw [← e1]; exact boxed_ty W0 _ _
  obtain ⟨U2, e2, hb2, hz2, X2⟩ := TxM.box1 U1 55 u
  have T2 : Ty U2 U1.heap.size 55 := by rw [← e2]; exact boxed_ty U1 _ _
  obtain ⟨U3, e3, hb3, hz3, X3, T3⟩ := boxR U2 (.int .i64 0) (.slice none 0 0)
  obtain ⟨G2, eG2⟩ : ∃ G, W0.heap.size = G := ⟨_, rfl⟩
  obtain ⟨G3, eG3⟩ : ∃ G, U1.heap.size = G := ⟨_, rfl⟩
  obtain ⟨G4, eG4⟩ : ∃ G, U2.heap.size = G := ⟨_, rfl⟩
  have HOM := Lib.hid (show W0.heap.size = G2 ∧ G2 < G3 ∧ G3 < G4 ∧ G4 < U3.heap.size ∧ g < G2 ∧ B < G2 ∧ lo ≤ g ∧ lo ≤ B by have := h.gt; have := h.bt; have := h.lg; have := h.lb; omega)
  have hbb : Below W0.heap.size W0 U3 := hb1.trans ((hb2.mono hb1.size).trans (hb3.mono (by omega)))
  have hW3 := h.below hbb
  have E3 : Ev U3 G2 G3 g u := ⟨by rw [← eG2]; exact ((hb3.cell (World.block_lt_of_cell? _ _ ((hb2.cell (World.block_lt_of_cell? _ _ X1)).trans X1))).trans ((hb2.cell (World.block_lt_of_cell? _ _ X1)).trans X1)), by rw [← eG2]; exact (T1.below hb2).below hb3, by rw [← eG3]; exact (hb3.cell (World.block_lt_of_cell? _ _ X2)).trans X2, by rw [← eG3]; exact T2.below hb3⟩
  rw [eG4] at X3 T3
  obtain ⟨W, eW⟩ : ∃ W, U3.setCell ⟨g, 1, none⟩ (.slice none 0 0) = W := ⟨_, rfl⟩
  have hset : ∀ q, q ≠ g → W.heap[q]? = U3.heap[q]? := fun q hq => by rw [← eW]; exact Below.heap_setCell _ _ _ q hq
  have hsz : W.heap.size = U3.heap.size := by rw [← eW]; simp
  have hg4 : G4 ≠ g ∧ G2 ≠ g ∧ G3 ≠ g := by have := HOM.out; omega
  have HJ0 := Lib.hid (show Dt W0 lo g B G2 G3 G4 u xs os 0 W xs [] none 0 0 (.slice none 0 0) [] from by
    have hbl : Below lo W0 W := by rw [← eW]; exact (hbb.mono hlo).setCell (p := ⟨g, 1, none⟩) h.lg _
    refine ⟨Tj.zero hok os, rfl, Wp.none (by rw [← eW]; exact wk_set hW3 _), rfl, Nat.le_refl _, ⟨hbl, X3.block (hset G4 hg4.1), ty_block T3 (hset G4 hg4.1), ⟨rfl, .inl ⟨rfl, rfl⟩⟩, by have := HOM.out; omega, by omega⟩, E3.blocks (hset G2 hg4.2.1) (hset G3 hg4.2.2), fun q T ht hT hq => ?_, by omega, fun q hq => by cases hq⟩
    exact (hset q hq).trans (hbb.block q (ty_lt ht)))
  have HS := Lib.hid hu
  have HALL := Lib.hid (fun j (hj : j < os.length) => hall (os.getD j (0, 0, 0)) (by rw [List.getD_eq_getElem?_getD, List.getElem?_eq_getElem hj]; exact List.getElem_mem hj))
  obtain ⟨a, cap, rfl, _, hm⟩ := (hu W0 (Below.refl _ _)).form
  unfold maxLen at hm
  have HTX := Lib.hid (show ∀ j ys vs, Tj xs os j ys vs → (j = os.length → tx xs xs [] os = (ys, vs, 0)) ∧ (j < os.length → dc ys (os.getD j (0, 0, 0)) ≠ 0 → tx xs xs [] os = (xs, [], dc ys (os.getD j (0, 0, 0)))) from fun j ys vs ht => ⟨ht.fin, ht.fail⟩)
  have HBC := Lib.hid (And.intro (bc0 os) (And.intro (bc1 os) (bc2 os)))
  have HRI := Lib.hid hok.ri
  generalize tx xs xs [] os = TX at *
  obtain ⟨n, en⟩ : ∃ n, os.length = n := ⟨_, rfl⟩
  have HEN := Lib.hid en
  rw [en] at HS HALL HTX hl4 e2 E3 HJ0 ⊢
  obtain ⟨c2, _, c3, _⟩ := E3
  have k0 := hW3.c0
  have k1 := hW3.c1
  have kf := hW3.f1
  have q2 := HJ0.out.ev.c2
  have q3 := HJ0.out.ev.c3
  clear hz1 hz2 hz3 hb1 hb2 hb3 X1 X2 X3 T1 T2 T3 hbb hW3 hset hsz hg4 h hu hall en hlo hok
  go_enter_defers Try.func87, Try.ntmps87
  go_wp2
  clear e1 e2 e3 eW eG2 eG3 eG4 c2 c3 k0 k1 kf q2 q3
  go_loopw [16] (fun i wz => ∃ (j : Nat) (wr : World) (ys : List En) (vs : List Int) (b : Option Addr) (p cp : Nat) (pv : Value) (ps : List Pc), wr = wz ∧ j ≤ n ∧ i = .int .i64 j ∧ Hid (Dt W0 lo g B G2 G3 G4 (.slice a n cap) xs os j wr ys vs b p cp pv ps)) (fun i _ => n - (Go.RowKit.intOf i).toNat)
  case atStart => exact ⟨0, _, _, _, _, _, _, _, _, rfl, by omega, rfl, HJ0⟩
  case round =>
    obtain ⟨j, wr, ys, vs, b, p, cp, pv, ps, rfl, hj, rfl, HJ⟩ := hrel
    by_cases hlt : j < n
    · obtain ⟨b0, o0, e5, hc⟩ := (HS.out wr HJ.out.rs.bel).at (by omega)
      obtain rfl : a = some ⟨b0, o0, none⟩ := by simpa using e5
      have c0 := hc (j * 3) (by omega)
      have c1 := hc (j * 3 + 1) (by omega)
      have c2 := hc (j * 3 + 2) (by omega)
      rw [HBC.out.1] at c0
      rw [HBC.out.2.1, ← Nat.add_assoc] at c1
      rw [HBC.out.2.2, ← Nat.add_assoc] at c2
      have HO := Lib.hid (HALL.out j hlt)
      have HT := Lib.hid ((HTX.out j ys vs HJ.out.tj).2 hlt)
      have HN := Lib.hid (HJ.out.tj.next (by rw [HEN.out]; exact hlt) HO.out)
      have HVL := Lib.hid (dv_len ys HO.out)
      have HDK := Lib.hid (dx_ok HJ.out.tj.ok HO.out)
      clear hc e5
      generalize os.getD j (0, 0, 0) = o at *
      obtain ⟨k, z, y⟩ := o
      simp only at c0 c1 c2
      obtain ⟨U5, e5, hb5, hz5, X5⟩ := Box3.box3 wr 159 (.int .i64 k) (.int .i64 z) (.int .i64 y)
      have HD5 := Lib.hid (HJ.out.below hb5)
      have HPL := Lib.hid (show ps.length ≤ 3 by have := HJ.out.pl; omega)
      have HD := Lib.hid (iDo U5 lo g B ys pv ps HD5.out.wp HD5.out.tj.ok k z y HO.out (by have := HPL.out; omega))
      obtain ⟨G5, eG5⟩ : ∃ G5, wr.heap.size = G5 := ⟨_, rfl⟩
      rw [eG5] at X5
      obtain ⟨x0, x1, x2, _, _, _⟩ := X5
      have q2 := HD5.out.ev.c2
      generalize dx ys (k, z, y) = yx at *
      generalize dv ys (k, z, y) = yv at *
      generalize dc ys (k, z, y) = C at *
      clear hb5 hz5
      by_cases hc0 : C = 0
      · subst hc0
        go_wp2_with fail
        clear e5 eG5
        refine HD.out.mono ?_
        rintro e w6 ⟨⟨v6, rfl, hv6⟩, ⟨qs, hq1, hqu, pv6, hw6⟩, hbl⟩
        have HM6 := Lib.hid (HD5.out.op hbl)
        have HW6 := Lib.hid hw6
        have HQ := Lib.hid (And.intro hq1 hqu)
        obtain ⟨a6, cap6, rfl, _, _⟩ := hv6.sl.form
        obtain ⟨m, hm9⟩ : ∃ m, yv.length = m := ⟨_, rfl⟩
        have HYL := Lib.hid hm9
        have HO6 := Lib.hid (show Sl w6 1 (.slice a6 m cap6) m (nc yv) from by rw [← hm9]; exact hv6.sl)
        rw [hm9]
        have hp32 : p ≤ 24 := by have := HJ.out.len; have := HJ.out.tj.len; omega
        have hm8 : m ≤ 8 := by have := HVL.out; omega
        have hp1 : 0 < 1 := by omega
        have hm5 : p + m ≤ maxLen := by unfold maxLen; omega
        have hy5 : (p + m) * 8 ≤ 140737488355328 := by omega
        obtain ⟨_, d1, _, f1⟩ := HM6.out.rs.box
        clear hv6 hw6 hbl hq1 hqu c0 c1 c2 x0 x1 x2 q2 hm9
        go_wp2_with (at_builtin; go_loud (refine wpList_appAt _ rfl (.tmp 31) (.tmp 32) 22 rfl lo 3 1 8 (.int .i64 0) Try.underlying22 RsP.infoN rfl hp1 (.slice b p cp) (by simp [Act.eval]) p (RsP.zs vs) HM6.out.rs.row HM6.out.rs.lo (.slice a6 m cap6) (by simp [Act.eval]) m (nc yv) HO6.out (fun j _ => rfl) hm5 hy5 ?_; intro b7 cp7 w7 hr7 hg7 hq7; obtain ⟨x7, _⟩ := HM6.out.rs.mid hg7; obtain ⟨_, d2, _, f2⟩ := x7; have HA7 := Lib.hid (HM6.out.app HW6.out (show W0.heap.size ≤ G4 by have := HOM.out; omega) hg7 hr7 hq7 HYL.out); clear hr7 hg7 hq7))
        go_roundw
        case rel =>
          refine ⟨j + 1, _, yx, vs ++ yv, b7, p + m, cp7, pv6, ps ++ qs, rfl, by omega, by go_num, Lib.hid ⟨HN.out (by first | rfl | trivial), HA7.out.1.len, HA7.out.2, ?_, ?_, HA7.out.1.rs, HA7.out.1.ev, HA7.out.1.old, HA7.out.1.sz, HA7.out.1.fr⟩⟩
          · rw [und_app, HQ.out.2, HJ.out.un]
          · rw [List.length_append]; have := HJ.out.pl; have := HQ.out.1; omega
        case measure => simp [Go.RowKit.intOf]; omega
      · have HTE := Lib.hid (HT.out hc0)
        have HC0 := Lib.hid hc0
        have g1 : (C != 0) = true := bne_iff_ne.2 hc0
        clear hc0
        go_wp2_with fail
        clear e5 eG5
        refine HD.out.mono ?_
        rintro e w6 ⟨⟨v6, rfl, hv6⟩, ⟨qs, hq1, hqu, pv6, hw6⟩, hbl⟩
        have HM6 := Lib.hid (HD5.out.op hbl)
        have HW6 := Lib.hid hw6
        have HQ := Lib.hid (And.intro hq1 hqu)
        obtain ⟨a6, cap6, rfl, _, _⟩ := hv6.sl.form
        obtain ⟨W7, eW7, hx7, hb7, ho7⟩ := put2 w6 G4 _ _ (.int .i64 C) (.slice none 0 0) HM6.out.rs.box
        obtain ⟨d0, d1, f0, f1⟩ := HM6.out.rs.box
        have hn4 : g ≠ G4 ∧ B ≠ G4 := by have := HOM.out; omega
        have HW7 := Lib.hid (wp_blocks hw6 (ho7 g hn4.1) (ho7 B hn4.2) (fun q hq => ho7 q (ty_ne (row_ty hw6.row q hq) HM6.out.rs.ty ne_pr)))
        have HE7 := Lib.hid (HM6.out.ev.blocks (ho7 G2 (by have := HOM.out; omega)) (ho7 G3 (by have := HOM.out; omega)))
        have HO7 := Lib.hid (HM6.out.old.far (fun q hq => ho7 q (by have := HOM.out; omega)))
        have HB7 := Lib.hid (HM6.out.rs.bel.trans (hb7 lo (by have := HOM.out; omega)))
        have HX7 := Lib.hid hx7
        have HT7 := Lib.hid (show Ty W7 G4 49 from by rw [← eW7]; exact ty_set (ty_set HM6.out.rs.ty 0 _) 1 _)
        have HUN := Lib.hid (show und (ps ++ qs) yx = xs by rw [und_app, hqu, HJ.out.un])
        have HU := Lib.hid (UndoI.undo W7 lo g B yx _ (ps ++ qs) HW7.out HDK.out.ri (by have := HDK.out.1; omega) (by rw [List.length_append]; have := HPL.out; omega))
        have HNG := Lib.hid (show G4 ≠ g from fun e => hn4.1 e.symm)
        clear hv6 hw6 hbl hq1 hqu c0 c1 c2 x0 x1 x2 q2 hx7 hb7 ho7 hn4
        go_wp2
        refine leaves_cons (f := 126) (args := #[.pointer (some ⟨G4, 0, none⟩), .pointer (some ⟨G2, 0, none⟩)]) (by simp) (by simp [go_sem]) ?_
        refine (closureC W7 G2 G4 g C HC0.out HX7.out.c0 HE7.out.c2 (fun w' => Wp w' lo g B (und (ps ++ qs) yx) pv6 (ps ++ qs) ∧ Bl lo g B pv6 W7 w') HU.out).mono ?_
        rintro e u' w8 ⟨rfl, rfl, hwp8, hbl8⟩
        rw [HUN.out] at hwp8
        have hx8 := HX7.out.block (bl_keep HW7.out hbl8 HT7.out ne_rp HNG.out)
        obtain ⟨R0, R1, _, _⟩ := hx8
        refine ⟨.agg #[.int .i64 C, .slice none 0 0], by simp [results, Try.results87, go_sem, R0, R1], ?_, HB7.out.trans hbl8.bel⟩
        rw [HTE.out]
        exact ⟨_, rfl, Lib.hid ⟨none_own _ _, (fun q hq => by cases hq), ⟨pv6, hwp8.wk⟩, HO7.out.bl HW7.out hbl8⟩⟩
    · have hjn : j = n := by omega
      have HTE := Lib.hid ((HTX.out j ys vs HJ.out.tj).1 hjn)
      obtain ⟨d0, d1, f0, f1⟩ := HJ.out.rs.box
      obtain ⟨W7, eW7, hx7, hb7, ho7⟩ := put2 wr G4 _ _ (.int .i64 0) (.slice b p cp) HJ.out.rs.box
      have HX7 := Lib.hid hx7
      have HF := Lib.hid (show TP W0 lo g B (ys, vs, 0) W7 (.returned (.agg #[.int .i64 0, .slice b p cp])) ∧ Below lo W0 W7 from by
        have hn4 : g ≠ G4 ∧ B ≠ G4 := by have := HOM.out; omega
        have hap : ∀ q, (Value.slice b p cp).ownBlock = some q → q ≠ G4 := HJ.out.rs.apart
        have hrow := row_blocks HJ.out.rs.row (fun q hq => ho7 q (hap q hq))
        refine ⟨⟨_, rfl, Lib.hid ⟨TxM.zs_own' hrow HJ.out.len, fun q hq => ⟨HJ.out.fr q hq, row_ty hrow q hq⟩, ⟨pv, wk_blocks HJ.out.wp.wk (ho7 g hn4.1) (ho7 B hn4.2)⟩, HJ.out.old.far (fun q hq => ho7 q (by have := HOM.out; omega))⟩⟩, HJ.out.rs.bel.trans (hb7 lo (by have := HOM.out; omega))⟩)
      clear hjn hx7 hb7 ho7
      go_wp2
      refine leaves_cons (f := 126) (args := #[.pointer (some ⟨G4, 0, none⟩), .pointer (some ⟨G2, 0, none⟩)]) (by simp) (by simp [go_sem]) ?_
      refine (closure0 W7 G2 G4 HX7.out.c0).mono ?_
      rintro e u' w8 ⟨rfl, rfl, rfl⟩
      obtain ⟨R0, R1, _, _⟩ := HX7.out
      refine ⟨.agg #[.int .i64 0, .slice b p cp], by simp [results, Try.results87, go_sem, R0, R1], ?_, HF.out.2⟩
      rw [HTE.out]
      exact HF.out.1
end Go.Proofs.Ytealdpkgfmokpaa.DtI
