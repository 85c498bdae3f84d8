/-
  What is proved: the model's doing of a transaction on a map (a contract for the walks).
-/
import Derived.Test.YtealdpkgfmokpaaRows
import Derived.Test.YtealdpkgfmokpaaTxP
namespace Go.Proofs.Ytealdpkgfmokpaa.TxM
open Go.ChangeShapes Go.WideShapes Go.ChangeAt Go.RowKit Go.Maps
open Sl (Sl Own Off)
open OpenSl (nc)
open Dev Orm LawE MapP MapOk OtB MapD MapW EntI PutM DoM DoM4 DoA Box2 RsP TxP
open OpB (Ok)
set_option linter.unusedVariables false

/-- What the model answers of a transaction. -/
def TQ (base : Nat) (v : Value) (t : List En × List Int × Int) (w : World) (e : Ending) : Prop := ∃ x r, e = .returned (.tuple #[x, .agg #[.int .i64 t.2.2, r]]) ∧ Hid (Sl w 2 x t.1.length (ec t.1) ∧ Own w base 1 r t.2.1.length (nc t.2.1) ∧ ∀ q, q < base → Off v q → Off x q)
theorem box1 (w : World) (T : TypeId) (u : Value) : ∃ U, w.alloc (.cells #[u] T) = U ∧ Below w.heap.size w U ∧ U.heap.size = w.heap.size + 1 ∧ U.cell? ⟨w.heap.size, 0, none⟩ = some u :=
  ⟨_, rfl, (Below.refl _ w).alloc (Nat.le_refl _) _, by simp, by go_simp⟩
theorem zs_own' {w : World} {base n : Nat} {v : Value} {vs : List Int} (h : w.ownsRow base 3 1 v n (RsP.zs vs)) (hn : vs.length = n) : Own w base 1 v vs.length (nc vs) := by
  subst hn
  exact RsP.zs_own h
/-- What stands behind j operations. -/
structure Jt (w : World) (v : Value) (U2 : World) (G2 G3 G4 : Nat) (xs : List En) (os : List Bk) (j : Nat) (wr : World) (x : Value) (ys : List En) (vs : List Int) (b : Option Addr) (p cp : Nat) : Prop where
  tj : Tj xs os j ys vs
  len : vs.length = p
  map : Sl wr 2 x ys.length (ec ys)
  rs : Rs U2 G3 wr G4 0 b p cp vs
  offG : Off x G4
  off2 : Off x G2
  off : ∀ q, (Value.slice b p cp).ownBlock = some q → Off x q
  old : ∀ q, q < w.heap.size → Off v q → Off x q
theorem sl_set {w : World} {sz n : Nat} {v : Value} {c : Nat → Value} (h : Sl w sz v n c) {g : Nat} (hoff : Off v g) (o : Nat) (x : Value) : Sl (w.setCell ⟨g, o, none⟩ x) sz v n c := by
  obtain ⟨a, cap, rfl, h1, h2, h3⟩ := h
  refine ⟨a, cap, rfl, h1, h2, fun hn => ?_⟩
  obtain ⟨b, o', rfl, hc⟩ := h3 hn
  exact ⟨b, o', rfl, fun j hj => (World.cell?_of_block (w := w) (Below.heap_setCell w _ x b (fun e => hoff _ _ _ rfl hn e))).trans (hc j hj)⟩
theorem no_own (w : World) (base : Nat) (a : Option Addr) : Own w base 1 (.slice a 0 0) ([] : List Int).length (nc []) := ⟨a, 0, rfl, Nat.le_refl _, by unfold maxLen; omega, fun h => absurd h (by simp)⟩
set_option maxRecDepth 100000 in
set_option maxHeartbeats 3200000 in
theorem l10Txn (w : World) (v : Value) (xs : List En) (h : Sl w 2 v xs.length (ec xs)) (hok : MOk xs) (u : Value) (os : List Bk) (hs : Sl w 3 u os.length (bc os)) (hall : ∀ o ∈ os, Ok o) (hl4 : os.length ≤ 4) :
    Calls Try.prog 81 #[v, .agg #[u]] w fun e w' => TQ w.heap.size v (tx xs xs [] os) w' e ∧ Below w.heap.size w w' := by
  obtain ⟨U1, e1, hb1, hz1, X1⟩ := box1 w 55 u
  obtain ⟨U2, e2, hb2, hz2, X2, T2⟩ := boxR U1 (.int .i64 0) (.slice none 0 0)
  obtain ⟨U3, e3, hb3, R3⟩ := empty1 U2
  obtain ⟨U4, e4, hb4, hz4, X4, T4⟩ := boxR U3 (.int .i64 0) (.slice none 0 0)
  have H2 := Lib.hid (hb1.trans (hb2.mono hb1.size))
  have hs1 := hb1.size
  have hs2 := hb2.size
  have hs3 := hb3.size
  have hs4 := hb4.size
  have Y1 := (hb2.cell (World.block_lt_of_cell? _ _ X1)).trans X1
  have Y3 := Cop.row_below R3 hb4
  obtain ⟨G1, eG1⟩ : ∃ G, w.heap.size = G := ⟨_, rfl⟩
  obtain ⟨G2, eG2⟩ : ∃ G, U1.heap.size = G := ⟨_, rfl⟩
  obtain ⟨G3, eG3⟩ : ∃ G, U2.heap.size = G := ⟨_, rfl⟩
  obtain ⟨G4, eG4⟩ : ∃ G, U3.heap.size = G := ⟨_, rfl⟩
  have H34 := Lib.hid (show Below G3 U2 U4 from (eG3 ▸ hb3).trans (hb4.mono (by omega)))
  rw [eG1] at Y1
  rw [eG2] at X2
  rw [eG3] at Y3
  rw [eG4] at X4 T4
  obtain ⟨W, eW, hxW, hbW, hoW⟩ := put2 U4 G4 _ _ (.int .i64 0) (.slice (some ⟨G3, 0, none⟩) 0 0) X4
  have HOM := Lib.hid (show w.heap.size = G1 ∧ G1 < G2 ∧ G2 < G3 ∧ G3 < G4 ∧ G4 < U4.heap.size by
    have : U3.heap.size = U2.heap.size + 1 := by rw [← e3]; simp
    omega)
  have HY1 := Lib.hid Y1
  have HX2 := Lib.hid X2
  have HG3 := Lib.hid eG3
  have HRS := Lib.hid (show Rs U2 G3 W G4 0 (some ⟨G3, 0, none⟩) 0 0 [] from by
    have om := HOM.out
    refine ⟨H34.out.trans (hbW G3 (by omega)), hxW, by rw [← eW]; exact ty_set (ty_set T4 0 _) 1 _, ?_, by omega, by rw [← eW]; simp; omega⟩
    rw [← eW]
    have hne : ∀ q, (Value.slice (some ⟨G3, 0, none⟩) 0 0).ownBlock = some q → q ≠ G4 := fun q hq => by
      have : G3 = q := by simpa [Value.ownBlock] using hq
      omega
    exact Cop.row_set_ne (Cop.row_set_ne Y3 hne _ _) hne _ _)
  have HJ0 := Lib.hid (show Jt w v U2 G2 G3 G4 xs os 0 W v xs [] (some ⟨G3, 0, none⟩) 0 0 from
    ⟨Tj.zero hok os, rfl, h.below (H2.out.trans (HRS.out.bel.mono (by have := HOM.out; omega))), HRS.out, off_top h (by decide) (by have := HOM.out; omega), off_top h (by decide) (by have := HOM.out; omega), fun q hq => off_top h (by decide) (by
      have : G3 = q := by simpa [Value.ownBlock] using hq
      have := HOM.out
      omega), fun q _ hq => hq⟩)
  have HV := Lib.hid h
  have HS := Lib.hid hs
  have HALL := Lib.hid (fun j (hj : j < os.length) => hall (os.getD j (0, 0, 0)) (by rw [List.getD_eq_getElem?_getD, List.getElem?_eq_getElem hj]; exact List.getElem_mem hj))
  obtain ⟨a, cap, rfl, _, hm⟩ := hs.form
  unfold maxLen at hm
  obtain ⟨c0, c1, f0, f1⟩ := X4
  have HTX := Lib.hid (show ∀ j ys vs, Tj xs os j ys vs → (j = os.length → tx xs xs [] os = (ys, vs, 0)) ∧ (j < os.length → dc ys (os.getD j (0, 0, 0)) ≠ 0 → tx xs xs [] os = (xs, [], dc ys (os.getD j (0, 0, 0)))) from fun j ys vs ht => ⟨ht.fin, ht.fail⟩)
  have HBC := Lib.hid (And.intro (bc0 os) (And.intro (bc1 os) (bc2 os)))
  generalize tx xs xs [] os = TX at *
  obtain ⟨n, en⟩ : ∃ n, os.length = n := ⟨_, rfl⟩
  have HEN := Lib.hid en
  rw [en] at HS HALL HTX hl4 e1 HY1 ⊢
  clear hz1 hz2 hz4 hs1 hs2 hs3 hs4 hb1 hb2 hb3 hb4 X1 X2 T2 R3 Y1 Y3 T4 hbW hoW hxW HRS H34 h hs hall en
  go_enter Try.func81, Try.ntmps81
  go_wp2
  clear e1 e2 e3 e4 eW eG1 eG2 eG3 eG4 c0 c1 f0 f1
  go_loopw [6, 8, 9, 10, 11] (fun x i _ _ _ wz => ∃ (j : Nat) (wr : World) (ys : List En) (vs : List Int) (b : Option Addr) (p cp : Nat), wr = wz ∧ j ≤ n ∧ i = .int .i64 j ∧ Hid (Jt w v U2 G2 G3 G4 xs os j wr x ys vs b p cp)) (fun _ i _ _ _ _ => n - (Go.RowKit.intOf i).toNat)
  case atStart => exact ⟨0, _, _, _, _, _, _, rfl, by omega, rfl, HJ0⟩
  case round =>
    obtain ⟨j, wr, ys, vs, b, p, cp, rfl, hj, rfl, HJ⟩ := hrel
    have c9 := (HJ.out.rs.bel.cell (p := ⟨G1, 0, none⟩) (by have := HOM.out; show G1 < G3; omega)).trans HY1.out
    have HBw := Lib.hid (show Below w.heap.size w wr from H2.out.trans (HJ.out.rs.bel.mono (by have := HOM.out; omega)))
    have HXw := Lib.hid (HX2.out.below (show Below U2.heap.size U2 wr from by rw [HG3.out]; exact HJ.out.rs.bel))
    by_cases hlt : j < n
    · obtain ⟨b0, o0, e5, hc⟩ := (HS.out.below HBw.out).at (by omega)
      obtain rfl : a = some ⟨b0, o0, none⟩ := by simpa using e5
      have c0 := hc (j * 3) (by omega)
      have c1 := hc (j * 3 + 1) (by omega)
      have c2 := hc (j * 3 + 2) (by omega)
      rw [HBC.out.1] at c0
      rw [HBC.out.2.1, ← Nat.add_assoc] at c1
      rw [HBC.out.2.2, ← Nat.add_assoc] at c2
      have HO := Lib.hid (HALL.out j hlt)
      have HT := Lib.hid ((HTX.out j ys vs HJ.out.tj).2 hlt)
      have HN := Lib.hid (HJ.out.tj.next (by rw [HEN.out]; exact hlt) HO.out)
      have HVL := Lib.hid (dv_len ys HO.out)
      clear hc e5
      generalize os.getD j (0, 0, 0) = o at *
      obtain ⟨k, z, y⟩ := o
      simp only at c0 c1 c2
      have HD := Lib.hid (mDo wr _ ys HJ.out.map HJ.out.tj.ok k z y HO.out)
      generalize dx ys (k, z, y) = yx at *
      generalize dv ys (k, z, y) = yv at *
      generalize dc ys (k, z, y) = C at *
      by_cases hc0 : C = 0
      · subst hc0
        go_wp2_with fail
        refine HD.out.mono ?_
        rintro e w5 ⟨⟨x5, o5, rfl, hq⟩, hb⟩
        have HQ := Lib.hid hq.out
        have HRS5 := Lib.hid (HJ.out.rs.below hb)
        have HLT := Lib.hid (fun q (hq : (Value.slice b p cp).ownBlock = some q) => (World.ownsRow.lt HJ.out.rs.row q hq).2)
        have HGL := Lib.hid HJ.out.rs.box.lt
        obtain ⟨a5, cap5, rfl, _, _⟩ := hq.out.2.1.sl.form
        obtain ⟨m, hm9⟩ : ∃ m, yv.length = m := ⟨_, rfl⟩
        have HYL := Lib.hid hm9
        have HO5 := Lib.hid (show Sl w5 1 (.slice a5 m cap5) m (nc yv) from by rw [← hm9]; exact hq.out.2.1.sl)
        rw [hm9]
        have hp32 : p ≤ 24 := by have := HJ.out.len; have := HJ.out.tj.len; omega
        have hm8 : m ≤ 8 := by have := HVL.out; omega
        have hp1 : 0 < 1 := by omega
        have hm5 : p + m ≤ maxLen := by unfold maxLen; omega
        have hy5 : (p + m) * 8 ≤ 140737488355328 := by omega
        obtain ⟨_, d1, _, f1⟩ := HRS5.out.box
        clear hb hq c0 c1 c2 c9 hm9
        go_wp2_with (at_builtin; go_loud (refine wpList_appAt _ rfl (.tmp 41) (.tmp 42) 22 rfl G3 3 1 8 (.int .i64 0) Try.underlying22 RsP.infoN rfl hp1 (.slice b p cp) (by simp [Act.eval]) p (RsP.zs vs) HRS5.out.row HRS5.out.lo (.slice a5 m cap5) (by simp [Act.eval]) m (nc yv) HO5.out (fun j _ => rfl) hm5 hy5 ?_; intro b6 cp6 w6 hr6 hg6 hq6; obtain ⟨x6, _⟩ := HRS5.out.mid hg6; obtain ⟨_, d2, _, f2⟩ := x6; have HR6 := Lib.hid (app HRS5.out hg6 hr6 HYL.out); have HO6 := Lib.hid (fun q (hq : (Value.slice b p cp).ownBlock = some q) => HQ.out.2.2 q (HLT.out q hq) (HJ.out.off q hq)); have HM6 := Lib.hid (sl_grown HQ.out.1 hg6 HO6.out); have HF6 := Lib.hid (fun q (hq : (Value.slice b6 (p + m) cp6).ownBlock = some q) => (show Off x5 q from (hq6 q hq).elim (fun e => HO6.out q e) (fun e => off_top HQ.out.1 (by decide) (by omega)))); clear hr6 hg6 hq6))
        go_roundw
        case rel => exact ⟨j + 1, _, yx, vs ++ yv, b6, p + m, cp6, rfl, by omega, by go_num, Lib.hid ⟨HN.out (by first | rfl | trivial), by rw [List.length_append, HJ.out.len, HYL.out], sl_set HM6.out (HQ.out.2.2 G4 HGL.out HJ.out.offG) _ _, HR6.out, HQ.out.2.2 G4 HGL.out HJ.out.offG, HQ.out.2.2 G2 (by have := HOM.out; have := HGL.out; omega) HJ.out.off2, HF6.out, fun q hq ho => HQ.out.2.2 q (Nat.lt_of_lt_of_le hq HBw.out.size) (HJ.out.old q hq ho)⟩⟩
        case measure => simp [Go.RowKit.intOf]; omega
      · have HTE := Lib.hid (HT.out hc0)
        have g1 : (C != 0) = true := bne_iff_ne.2 hc0
        have g2 : decide (C ≠ 0) = true := decide_eq_true hc0
        clear hc0
        go_wp2_with fail
        refine HD.out.mono ?_
        rintro e w5 ⟨⟨x5, o5, rfl, hq⟩, hb⟩
        have HB5 := Lib.hid (HBw.out.trans (hb.mono HBw.out.size))
        obtain ⟨U6, e6, hb6, _⟩ := empty1 w5
        obtain ⟨W7, eW7, hx7, hb7, _⟩ := put2 U6 G2 _ _ (.int .i64 C) (.slice (some ⟨w5.heap.size, 0, none⟩) 0 0) ((HXw.out.below hb).below hb6)
        have HB7 := Lib.hid ((HB5.out.trans (hb6.mono HB5.out.size)).trans (hb7 w.heap.size (by have := HOM.out; omega)))
        obtain ⟨d0, d1, f0, f1⟩ := (HXw.out.below hb).below hb6
        obtain ⟨R0, R1, _, _⟩ := hx7
        have HVF := Lib.hid (HV.out.below HB7.out)
        clear hb hb6 hb7 hq c0 c1 c2 c9
        go_wp2_with fail
        refine bodyPost_ret (v := .tuple #[v, .agg #[.int .i64 C, .slice (some ⟨w5.heap.size, 0, none⟩) 0 0]]) (by simp [results, Try.results81, go_sem, R0, R1]) rfl ⟨?_, HB7.out⟩
        rw [HTE.out]
        exact ⟨_, _, rfl, Lib.hid ⟨HVF.out, no_own _ _ _, fun q _ h => h⟩⟩
    · have hjn : j = n := by omega
      have HTE := Lib.hid ((HTX.out j ys vs HJ.out.tj).1 hjn)
      obtain ⟨d0, d1, f0, f1⟩ := HJ.out.rs.box
      obtain ⟨k0, k1, g0, g1⟩ := HXw.out
      have hne : G2 ≠ G4 := by have := HOM.out; omega
      clear hjn
      go_wp2
      go_region
      obtain ⟨W7, eW7, hx7, hb7, _⟩ := put2 wr G2 _ _ (.int .i64 0) (.slice b p cp) HXw.out
      have HB7 := Lib.hid (below_drewN (HBw.out.trans (hb7 w.heap.size (by have := HOM.out; omega))) 1)
      obtain ⟨R0, R1, _, _⟩ := hx7
      have HO7 := Lib.hid (show Own W7.drew w.heap.size 1 (.slice b p cp) vs.length (nc vs) from by
        have h1 := zs_own' HJ.out.rs.row HJ.out.len
        have hl := own_low h1 G2 (by have := HOM.out; omega)
        have h2 := own_set_off (own_set_off h1 hl 0 (.int .i64 0)) hl 1 (.slice b p cp)
        rw [eW7] at h2
        exact (h2.base (by have := HOM.out; omega)).below (below_drewN (Below.refl _ _) 1))
      have HM7 := Lib.hid (show Sl W7.drew 2 u6 ys.length (ec ys) from by
        have h2 := sl_set (sl_set HJ.out.map HJ.out.off2 0 (.int .i64 0)) HJ.out.off2 1 (.slice b p cp)
        rw [eW7] at h2
        exact h2.below (below_drewN (Below.refl _ _) 1))
      rw [eW7]
      clear hb7
      go_wp2
      refine bodyPost_ret (v := .tuple #[u6, .agg #[.int .i64 0, .slice b p cp]]) (by simp [results, Try.results81, go_sem, R0, R1]) rfl ⟨?_, HB7.out⟩
      rw [HTE.out]
      exact ⟨_, _, rfl, Lib.hid ⟨HM7.out, HO7.out, HJ.out.old⟩⟩
end Go.Proofs.Ytealdpkgfmokpaa.TxM
