/-
  What is proved: the program's MapTxn answers the plain outcome of a transaction, in memory of its own (a contract for the walks).
-/
import Derived.Test.YtealdpkgfmokpaaRows
import Derived.Test.YtealdpkgfmokpaaDtI
import Derived.Test.YtealdpkgfmokpaaTxS
namespace Go.Proofs.Ytealdpkgfmokpaa.DtS
open Go.ChangeShapes Go.WideShapes Go.ChangeAt Go.RowKit Go.Maps
open Sl (Sl Own Off)
open OpenSl (nc)
open Dev Orm LawE MapP MapOk OtB MapGet MapD MapW MapI EntI DoA Box2 RsP TxP TxS DtP
open BatB (TOk)
set_option linter.unusedVariables false

/-- What MapTxn answers, in memory of its own. -/
def TA (base : Nat) (t : List En × List Int × Int) (k : Int) (w : World) (e : Ending) : Prop := ∃ x r, e = .returned (.tuple #[x, .agg #[.int .i64 t.2.2, r], .int .i64 k]) ∧ Hid (Sl.Own w base 2 x t.1.length (ec t.1) ∧ Sl.Own w base 1 r t.2.1.length (nc t.2.1) ∧ Apart x r)
set_option maxRecDepth 100000 in
set_option maxHeartbeats 3200000 in
theorem implTxn (w : World) (v : Value) (xs : List En) (h : Sl w 2 v xs.length (ec xs)) (u : Value) (os : List Bk) (hs : Sl w 3 u os.length (bc os)) :
    Calls Try.prog 24 #[v, .agg #[u]] w fun e w' => TA w.heap.size (tg xs os) (tk xs os) w' e ∧ Below w.heap.size w w' := by
  obtain ⟨U1, e1, hb1, hz1, X1⟩ := TxM.box1 w 55 u
  obtain ⟨U2, e2, hb2, hz2, X2⟩ := Box2.box2 U1 49 (.int .i64 0) (.slice none 0 0)
  have Y1 := (hb2.cell (World.block_lt_of_cell? _ _ X1)).trans X1
  have HB := Lib.hid (hb1.trans (hb2.mono hb1.size))
  obtain ⟨G1, eG1⟩ : ∃ G, w.heap.size = G := ⟨_, rfl⟩
  obtain ⟨G2, eG2⟩ : ∃ G, U1.heap.size = G := ⟨_, rfl⟩
  have HOM := Lib.hid (show w.heap.size = G1 ∧ G1 < G2 ∧ G2 < U2.heap.size by omega)
  rw [eG1] at Y1
  rw [eG2] at X2
  have HX2 := Lib.hid X2
  have HY1 := Lib.hid Y1
  have HV := Lib.hid (h.below HB.out)
  have HS := Lib.hid hs
  obtain ⟨p, hp⟩ : ∃ p, decide (TOk os) = p := ⟨_, rfl⟩
  obtain ⟨q, hq⟩ : ∃ q, decide (MOk xs) = q := ⟨_, rfl⟩
  have HTO := Lib.hid (fun t (ht : Sl t 3 u os.length (bc os)) => show Calls Try.prog 85 #[.agg #[u]] t fun e w' => e = .returned (.bool p) ∧ Below t.heap.size t w' from hp ▸ BatB.right t u os ht)
  have HMF := Lib.hid (fun t (ht : Sl t 2 v xs.length (ec xs)) => mapFault t v xs ht p q hq)
  obtain ⟨a, cap, rfl, _, hm⟩ := h.form
  unfold maxLen at hm
  by_cases hgood : ¬ 4096 < xs.length ∧ p = true ∧ q = true
  · obtain ⟨hl, rfl, rfl⟩ := hgood
    have hok : MOk xs := of_decide_eq_true hq
    have hop : TOk os := of_decide_eq_true hp
    have e1x : tg xs os = tx xs xs [] os := if_pos ⟨hok, hop⟩
    have e2x : tk xs os = 0 := by unfold tk; rw [if_neg hl, if_pos ⟨hok, hop⟩]
    have e4x : mf xs true true = 0 := by unfold mf; rw [if_neg hl]; simp
    rw [e1x, e2x]
    rw [e4x] at HMF
    have HW := Lib.hid (fun t x (hx : Sl t 2 x xs.length (ec xs)) => workOn t x xs hx hok)
    have HD := Lib.hid (fun (t : World) (lo g B : Nat) (pv : Value) (hw : Wk t lo g B xs pv) (hu : ∀ w, Below lo t w → Sl w 3 u os.length (bc os)) => DtI.doTxn t lo g B xs pv hw hok u os hu hop.2 hop.1.2)
    have HYL := Lib.hid (tx_ok hok os xs [] hop.2 hok)
    clear e1x e2x e4x hb1 hb2 hz1 hz2 h hs X1 X2 hq hp hok hop hl
    generalize tx xs xs [] os = t at *
    obtain ⟨ys, vs, C⟩ := t
    simp only at HYL
    have HEN := Lib.hid (fun (t : World) (lo g B : Nat) (pv : Value) (hw : Wk t lo g B ys pv) => entries t lo g B _ pv hw HYL.out.ri HYL.out.kv HYL.out.1)
    generalize xs.length = n at *
    go_enter Try.func24, Try.ntmps24
    go_wp2_with fail
    clear e1 e2 eG1 eG2
    refine (HTO.out _ (HS.out.below HB.out)).mono ?_
    rintro e w1 ⟨rfl, hb⟩
    have HB1 := Lib.hid (HB.out.trans (hb.mono HB.out.size))
    have HX3 := Lib.hid (HX2.out.below hb)
    have HV1 := Lib.hid (HV.out.below hb)
    have c9 := (hb.cell (World.block_lt_of_cell? _ _ HY1.out)).trans HY1.out
    clear hb Y1
    go_wp2_with fail
    refine (HMF.out _ HV1.out).mono ?_
    rintro e w2 ⟨rfl, hb⟩
    have HB2 := Lib.hid (HB1.out.trans (hb.mono HB1.out.size))
    have HX4 := Lib.hid (HX3.out.below hb)
    have HV2 := Lib.hid (HV1.out.below hb)
    have c8 := (hb.cell (World.block_lt_of_cell? _ _ c9)).trans c9
    clear hb c9
    go_wp2_with fail
    refine (HW.out _ _ HV2.out).mono ?_
    rintro e w3 ⟨g, B, rfl, hwk, hb⟩
    have HWK := Lib.hid hwk
    have HB3 := Lib.hid (HB2.out.trans (hb.mono HB2.out.size))
    have HX5 := Lib.hid (HX4.out.below hb)
    have HS3 := Lib.hid (show w.heap.size ≤ w2.heap.size from HB2.out.size)
    have HL3 := Lib.hid (show G2 < w2.heap.size from HX4.out.lt)
    have c7 := (hb.cell (World.block_lt_of_cell? _ _ c8)).trans c8
    clear hb c8 hwk
    go_wp2_with fail
    refine (HD.out _ _ _ _ _ HWK.out (fun w' hw' => (HS.out.below (HB3.out.trans (hw'.mono HS3.out))))).mono ?_
    rintro e w4 ⟨⟨r4, rfl, hq4⟩, hb⟩
    simp only at hq4
    obtain ⟨ho4, hf4, ⟨pv4, hw4⟩, _⟩ := hq4.out
    have HB4 := Lib.hid (HB3.out.trans (hb.mono HS3.out))
    have HX6 := Lib.hid (HX5.out.block (hb.block G2 (by have := HL3.out; omega)))
    have HO4 := Lib.hid ho4
    have HW4 := Lib.hid hw4
    obtain ⟨a4, cap4, rfl, _, _⟩ := ho4.sl.form
    obtain ⟨m, hm9⟩ : ∃ m, vs.length = m := ⟨_, rfl⟩
    have HM := Lib.hid hm9
    rw [hm9] at HO4 ⊢
    obtain ⟨V, e5, hb5, hz5, X5⟩ := Box2.box2 w4 49 (.int .i64 C) (.slice a4 m cap4)
    obtain ⟨G9, eG9⟩ : ∃ G, w4.heap.size = G := ⟨_, rfl⟩
    rw [eG9] at X5
    have HX9 := Lib.hid X5
    have HX7 := Lib.hid (HX6.out.below hb5)
    have HB5 := Lib.hid (HB4.out.trans (hb5.mono HB4.out.size))
    have HWN := Lib.hid (fun k => (HW4.out.below hb5).below (below_drewN (Below.refl V.heap.size V) k))
    have HCC := Lib.hid (fun (t : World) (ht : Below V.heap.size V t) => And.intro (HX9.out.below ht) (HX7.out.below ht))
    have HO5 := Lib.hid (HO4.out.below hb5)
    have HGV := Lib.hid (show G2 < V.heap.size ∧ w2.heap.size ≤ V.heap.size from ⟨HX7.out.lt, by have := HW4.out.gt; have := HW4.out.lg; omega⟩)
    have ne1 : ¬ G2 = G9 := by have := HX6.out.lt; omega
    have ne2 : ¬ G9 = G2 := fun e => ne1 e.symm
    obtain ⟨x0, x1, _, _⟩ := X5
    clear hb hq4 ho4 hf4 hw4 c7 hm9 hb5 hz5
    go_upto_region 6 with (fail)
    clear e5 eG9
    go_region_held3 (fun w' => w'.cell? ⟨G9, 0, none⟩ = some (.int .i64 C) ∧ w'.cell? ⟨G9, 1, none⟩ = some (.slice a4 m cap4))
      (first | exact ⟨x0, x1⟩ | exact ⟨y0, y1⟩ | (refine ⟨?_, ?_⟩ <;> go_simp))
      (first
        | (go_at_call 88; refine (HEN.out _ _ _ _ _ (HWN.out 1)).mono ?_; rintro e w5 ⟨r5, rfl, hrow, hb⟩; obtain ⟨a5, cap5, rfl⟩ := MapI.row_form hrow; have HR5 := Lib.hid hrow; have HB6 : Hid (Below V.heap.size V w5) := Lib.hid ((below_drewN (Below.refl V.heap.size V) 1).trans hb); obtain ⟨y0, y1, _, _⟩ := (HCC.out _ HB6.out).1; obtain ⟨z0, z1, f0, f1⟩ := (HCC.out _ HB6.out).2; clear hrow hb))
    obtain ⟨W9, eW9, hx9, hb9, ho9⟩ := put2 w5 G2 _ _ (.int .i64 C) (.slice a4 m cap4) ((HCC.out _ HB6.out).2)
    have HBF := Lib.hid ((HB5.out.trans (HB6.out.mono HB5.out.size)).trans (hb9 w.heap.size (by have := HOM.out; omega)))
    have HE5 := Lib.hid (es_own HR5.out)
    have HE9 := Lib.hid (show Sl.Own W9 w.heap.size 2 (.slice a5 ys.length cap5) ys.length (ec ys) from by
      have hlo := own_low HE5.out G2 HGV.out.1
      have h2 := own_set_off (own_set_off HE5.out hlo 0 (.int .i64 C)) hlo 1 (.slice a4 m cap4)
      rw [eW9] at h2
      exact h2.base HB5.out.size)
    have HR9 := Lib.hid (show Sl.Own W9 w.heap.size 1 (.slice a4 m cap4) m (nc vs) from by
      have h1 := HO5.out.below HB6.out
      have hlo := own_low h1 G2 HL3.out
      have h2 := own_set_off (own_set_off h1 hlo 0 (.int .i64 C)) hlo 1 (.slice a4 m cap4)
      rw [eW9] at h2
      exact h2.base HS3.out)
    have HAP := Lib.hid (apart_of HO5.out.sl (by decide) HE5.out (Nat.le_refl _)).symm
    obtain ⟨R0, R1, _, _⟩ := hx9
    rw [eW9]
    clear hb9 ho9
    go_wp2
    refine bodyPost_ret (v := .tuple #[.slice a5 ys.length cap5, .agg #[.int .i64 C, .slice a4 m cap4], .int .i64 0]) (by simp [results, Try.results24, go_sem, R0, R1]) rfl ⟨⟨_, _, rfl, Lib.hid ⟨HE9.out, by rw [HM.out]; exact HR9.out, HAP.out⟩⟩, HBF.out⟩
  · have hno : MOk xs ∧ TOk os → ¬ 4096 < xs.length → False := fun hh hl => hgood ⟨hl, by rw [← hp]; exact decide_eq_true hh.2, by rw [← hq]; exact decide_eq_true hh.1⟩
    have hno2 : ¬ (MOk xs ∧ TOk os) := fun hh => hno hh (by have := hh.1.1; omega)
    have e1x : tg xs os = ([], [], 0) := if_neg hno2
    obtain ⟨C, hC, e3x, e4x⟩ : ∃ C : Int, C ≠ 0 ∧ tk xs os = C ∧ mf xs p q = C := by
      unfold tk mf
      by_cases hl : 4096 < xs.length
      · exact ⟨2, by decide, by rw [if_pos hl], by rw [if_pos hl]⟩
      · refine ⟨1, by decide, ?_, ?_⟩
        · rw [if_neg hl, if_neg hno2]
        · rw [if_neg hl, if_neg (fun hh => hgood ⟨hl, hh⟩)]
    rw [e1x, e3x]
    rw [e4x] at HMF
    have b1 : (C != 0) = true := bne_iff_ne.2 hC
    have b2 : decide (C ≠ 0) = true := decide_eq_true hC
    clear e1x e3x e4x hb1 hb2 hz1 hz2 h hs X1 X2 hq hp hgood hC hno hno2
    generalize xs.length = n at *
    go_enter Try.func24, Try.ntmps24
    go_wp2_with fail
    clear e1 e2 eG1 eG2
    refine (HTO.out _ (HS.out.below HB.out)).mono ?_
    rintro e w1 ⟨rfl, hb⟩
    have HB1 := Lib.hid (HB.out.trans (hb.mono HB.out.size))
    have HX3 := Lib.hid (HX2.out.below hb)
    have HV1 := Lib.hid (HV.out.below hb)
    clear hb Y1
    go_wp2_with fail
    refine (HMF.out _ HV1.out).mono ?_
    rintro e w2 ⟨rfl, hb⟩
    have HB2 := Lib.hid (HB1.out.trans (hb.mono HB1.out.size))
    obtain ⟨W, eW, hx, hbW, _⟩ := put2 w2 G2 _ _ (.int .i64 0) (.slice none 0 0) (HX3.out.below hb)
    have HBW := Lib.hid (HB2.out.trans (hbW w.heap.size (by have := HOM.out; omega)))
    obtain ⟨c0, c1, f0, f1⟩ := HX3.out.below hb
    obtain ⟨R0, R1, _, _⟩ := hx
    clear hb hbW
    go_wp2_with fail
    refine bodyPost_ret (v := .tuple #[.slice none 0 0, .agg #[.int .i64 0, .slice none 0 0], .int .i64 C]) (by simp [results, Try.results24, go_sem, R0, R1]) rfl ⟨⟨_, _, rfl, Lib.hid ⟨no_map _ _, no_vals _ _, apart_empty _ _ _⟩⟩, HBW.out⟩
end Go.Proofs.Ytealdpkgfmokpaa.DtS
