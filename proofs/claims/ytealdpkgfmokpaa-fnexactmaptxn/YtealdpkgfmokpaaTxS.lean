/-
  What is proved: the model's MapTxn answers the plain outcome of a transaction (a contract for the walks).
-/
import Derived.Test.YtealdpkgfmokpaaRows
import Derived.Test.YtealdpkgfmokpaaTxM
import Derived.Test.YtealdpkgfmokpaaBatS
namespace Go.Proofs.Ytealdpkgfmokpaa.TxS
open Go.ChangeShapes Go.WideShapes Go.ChangeAt Go.RowKit Go.Maps
open Sl (Sl Own Off)
open OpenSl (nc)
open Dev Orm LawE MapP MapOk MapOkS OtB MapD MapW EntI PutM DoM DoM3 DoA Box2 TxP TxM
open BatB (TOk)
set_option linter.unusedVariables false

/-- What MapTxn answers: map, numbers and the result's code; and the call's code. -/
def tg (xs : List En) (os : List Bk) : List En × List Int × Int := if MOk xs ∧ TOk os then tx xs xs [] os else ([], [], 0)
def tk (xs : List En) (os : List Bk) : Int := if 4096 < xs.length then 2 else if MOk xs ∧ TOk os then 0 else 1
def TS (base : Nat) (t : List En × List Int × Int) (k : Int) (w : World) (e : Ending) : Prop := ∃ x r, e = .returned (.tuple #[x, .agg #[.int .i64 t.2.2, r], .int .i64 k]) ∧ Hid (Own w base 2 x t.1.length (ec t.1) ∧ Own w base 1 r t.2.1.length (nc t.2.1))
theorem nil_map (w : World) (base : Nat) (a : Option Addr) : Own w base 2 (.slice a 0 0) ([] : List En).length (ec []) := ⟨a, 0, rfl, Nat.le_refl _, by unfold maxLen; omega, fun h => absurd h (by simp)⟩
theorem nil_vals (w : World) (base : Nat) (a : Option Addr) : Own w base 1 (.slice a 0 0) ([] : List Int).length (nc []) := ⟨a, 0, rfl, Nat.le_refl _, by unfold maxLen; omega, fun h => absurd h (by simp)⟩
set_option maxRecDepth 100000 in
set_option maxHeartbeats 3200000 in
theorem specTxn (w : World) (v : Value) (xs : List En) (h : Sl w 2 v xs.length (ec xs)) (u : Value) (os : List Bk) (hs : Sl w 3 u os.length (bc os)) :
    Calls Try.prog 21 #[v, .agg #[u]] w fun e w' => TS w.heap.size (tg xs os) (tk xs os) w' e ∧ Below w.heap.size w w' := by
  obtain ⟨U1, e1, hb1, hz1, X1⟩ := TxM.box1 w 55 u
  obtain ⟨U2, e2, hb2, hz2, X2⟩ := Box2.box2 U1 49 (.int .i64 0) (.slice none 0 0)
  have Y1 := (hb2.cell (World.block_lt_of_cell? _ _ X1)).trans X1
  have HB := Lib.hid (hb1.trans (hb2.mono hb1.size))
  obtain ⟨G1, eG1⟩ : ∃ G, w.heap.size = G := ⟨_, rfl⟩
  obtain ⟨G2, eG2⟩ : ∃ G, U1.heap.size = G := ⟨_, rfl⟩
  have HOM := Lib.hid (show w.heap.size = G1 ∧ G1 < G2 ∧ G2 < U2.heap.size by omega)
  rw [eG1] at Y1
  rw [eG2] at X2
  have HX2 := Lib.hid X2
  have HY1 := Lib.hid Y1
  have HV := Lib.hid (h.below HB.out)
  have HS := Lib.hid (hs.below HB.out)
  obtain ⟨p, hp⟩ : ∃ p, decide (TOk os) = p := ⟨_, rfl⟩
  obtain ⟨q, hq⟩ : ∃ q, decide (MOk xs) = q := ⟨_, rfl⟩
  have HTO := Lib.hid (fun t (ht : Sl t 3 u os.length (bc os)) => show Calls Try.prog 80 #[.agg #[u]] t fun e w' => e = .returned (.bool p) ∧ Below t.heap.size t w' from hp ▸ BatS.l09Txn t u os ht)
  have HMO := Lib.hid (fun t (ht : Sl t 2 v xs.length (ec xs)) => MapOkS.specOk t v xs ht q hq)
  obtain ⟨a, cap, rfl, _, hm⟩ := h.form
  unfold maxLen at hm
  by_cases hl : 4096 < xs.length
  · have hno : ¬ (MOk xs ∧ TOk os) := fun hh => by have := hh.1.1; omega
    have e1x : tg xs os = ([], [], 0) := if_neg hno
    have e2x : tk xs os = 2 := by unfold tk; rw [if_pos hl]
    rw [e1x, e2x]
    obtain ⟨U3, e3, hb3, _⟩ := empty_row U2 117
    obtain ⟨W, eW, hx, hbW, _⟩ := put2 U3 G2 _ _ (.int .i64 0) (.slice none 0 0) (X2.below hb3)
    have HBW := Lib.hid ((HB.out.trans (hb3.mono HB.out.size)).trans (hbW w.heap.size (by have := HOM.out; omega)))
    obtain ⟨c0, c1, f0, f1⟩ := X2.below hb3
    obtain ⟨R0, R1, _, _⟩ := hx
    clear hno e1x e2x hb1 hb2 hb3 hbW hz1 hz2 h hs X1 X2 hq hp Y1
    generalize xs.length = n at *
    go_enter Try.func21, Try.ntmps21
    go_wp2
    refine bodyPost_ret (v := .tuple #[.slice (some ⟨U2.heap.size, 0, none⟩) 0 0, .agg #[.int .i64 0, .slice none 0 0], .int .i64 2]) (by simp [results, Try.results21, go_sem, R0, R1]) rfl ⟨⟨_, _, rfl, Lib.hid ⟨nil_map _ _ _, nil_vals _ _ _⟩⟩, HBW.out⟩
  by_cases hgood : q = true ∧ p = true
  · obtain ⟨rfl, rfl⟩ := hgood
    have hok : MOk xs := of_decide_eq_true hq
    have hop : TOk os := of_decide_eq_true hp
    have e1x : tg xs os = tx xs xs [] os := if_pos ⟨hok, hop⟩
    have e2x : tk xs os = 0 := by unfold tk; rw [if_neg hl, if_pos ⟨hok, hop⟩]
    rw [e1x, e2x]
    have HD := Lib.hid (fun t (ht : Sl t 2 (.slice a xs.length cap) xs.length (ec xs)) (hs : Sl t 3 u os.length (bc os)) => l10Txn t _ xs ht hok u os hs hop.2 hop.1.2)
    have HYL := Lib.hid (tx_ok hok os xs [] hop.2 hok).1
    clear e1x e2x hb1 hb2 hz1 hz2 h hs X1 X2 hq hp hok hop Y1
    generalize tx xs xs [] os = t at *
    obtain ⟨ys, vs, C⟩ := t
    simp only at HYL
    generalize xs.length = n at *
    go_enter Try.func21, Try.ntmps21
    go_wp2_with fail
    clear e1 e2 eG1 eG2
    refine (HMO.out _ HV.out).mono ?_
    rintro e w1 ⟨rfl, hb⟩
    have HB1 := Lib.hid (HB.out.trans (hb.mono HB.out.size))
    have HX3 := Lib.hid (HX2.out.below hb)
    have HV1 := Lib.hid (HV.out.below hb)
    have HS1 := Lib.hid (HS.out.below hb)
    have c9 := (hb.cell (World.block_lt_of_cell? _ _ HY1.out)).trans HY1.out
    clear hb
    go_wp2_with fail
    refine (HTO.out _ HS1.out).mono ?_
    rintro e w2 ⟨rfl, hb⟩
    have HB2 := Lib.hid (HB1.out.trans (hb.mono HB1.out.size))
    have HX4 := Lib.hid (HX3.out.below hb)
    have HV2 := Lib.hid (HV1.out.below hb)
    have HS2 := Lib.hid (HS1.out.below hb)
    have c8 := (hb.cell (World.block_lt_of_cell? _ _ c9)).trans c9
    clear hb c9
    go_wp2_with fail
    refine (HD.out _ HV2.out HS2.out).mono ?_
    rintro e w3 ⟨⟨x3, r3, rfl, hq3⟩, hb⟩
    simp only at hq3
    have HB3 := Lib.hid (HB2.out.trans (hb.mono HB2.out.size))
    have HX5 := Lib.hid (HX4.out.below hb)
    obtain ⟨b3, cap4, rfl, _, _⟩ := hq3.out.1.form
    obtain ⟨a3, cap3, rfl, _, _⟩ := hq3.out.2.1.sl.form
    have HOF3 := Lib.hid (own_low hq3.out.2.1 G2 HX4.out.lt)
    obtain ⟨l, hl9⟩ : ∃ l, ys.length = l := ⟨_, rfl⟩
    obtain ⟨lv, hv9⟩ : ∃ l, vs.length = l := ⟨_, rfl⟩
    have HLL := Lib.hid (And.intro hl9 hv9)
    have HM3 := Lib.hid hq3.out.1
    have HR3 := Lib.hid hq3.out.2.1
    have HB2S := Lib.hid HB2.out.size
    rw [hl9] at HM3 HYL ⊢
    rw [hv9] at HR3 HOF3 ⊢
    clear hl9 hv9
    obtain ⟨V, e4, hb4, hz4, X4⟩ := Box2.box2 w3 49 (.int .i64 0) (.slice none 0 0)
    obtain ⟨G8, eG8⟩ : ∃ G, w3.heap.size = G := ⟨_, rfl⟩
    rw [eG8] at X4
    obtain ⟨W5, eW5, hx5, hb5, hoW5⟩ := put2 V G8 _ _ (.int .i64 C) (.slice a3 lv cap3) X4
    have hbb := hb4.trans (hb5 w3.heap.size (by omega))
    have HX8 := Lib.hid hx5
    have HB5 := Lib.hid (HB3.out.trans (hbb.mono HB3.out.size))
    have HX6 := Lib.hid (HX5.out.below hbb)
    have HM5 := Lib.hid (HM3.out.below hbb)
    have HR5 := Lib.hid (HR3.out.below hbb)
    have HG8 := Lib.hid (show G2 < G8 by have := HX5.out.lt; omega)
    obtain ⟨c0, c1, f0, f1⟩ := X4
    clear hb hb4 hb5 hbb hq3 c8 hz4 hx5 hoW5
    go_upto_region 6 with (fail)
    clear e4 eW5 eG8 c0 c1 f0 f1
    obtain ⟨c0, c1, _, _⟩ := HX8.out
    obtain ⟨U6, e6, hb6, hrow⟩ := empty_row W5 117
    have HRN := Lib.hid (fun k => Cop.row_below hrow (below_drewN (Below.refl U6.heap.size U6) k))
    have HMN := Lib.hid (fun k => (HM5.out.below hb6).below (below_drewN (Below.refl U6.heap.size U6) k))
    have HBN := Lib.hid (fun k => below_drewN (hb6) k)
    have HSN := Lib.hid (fun (k : Nat) => show W5.heap.size ≤ (U6.drewN k).heap.size from hb6.size)
    have HCC := Lib.hid (fun (t : World) (ht : Below W5.heap.size W5 t) => And.intro (HX8.out.below ht) (And.intro (HX6.out.below ht) (HR5.out.below ht)))
    obtain ⟨d0, d1, _, _⟩ := HX8.out.below hb6
    have hp2 : 0 < 2 := by omega
    have hm3 : 0 + l ≤ maxLen := by have := HYL.out; unfold maxLen; omega
    have hy3 : (0 + l) * 16 ≤ 140737488355328 := by have := HYL.out; omega
    have ne1 : ¬ G2 = G8 := by have := HG8.out; omega
    have ne2 : ¬ G8 = G2 := by have := HG8.out; omega
    clear hb6 hrow
    go_region_held3 (fun w' => w'.cell? ⟨G8, 0, none⟩ = some (.int .i64 C) ∧ w'.cell? ⟨G8, 1, none⟩ = some (.slice a3 lv cap3))
      (first | exact ⟨c0, c1⟩ | exact ⟨d0, d1⟩ | exact ⟨g0, g1⟩ | (refine ⟨?_, ?_⟩ <;> go_simp))
      (first
        | (refine step_appR rfl (.tmp 30) (.tmp 31) 47 rfl W5.heap.size 117 2 16 (.agg #[.int .i64 0, .int .i64 0]) Try.underlying47 infoE rfl hp2 (.slice (some ⟨W5.heap.size, 0, none⟩) 0 0) rfl 0 [] ?_ ?_ (.slice b3 l cap4) rfl l (ec ys) ?_ (fun j _ => ec_one _ j) hm3 hy3 ?_; exact HRN.out 1; exact HSN.out 1; exact HMN.out 1; intro a7 cap7 w7 hr7 hg7; rw [Nat.zero_add, List.nil_append] at hr7; rw [Nat.zero_add]; have HR7 := Lib.hid hr7; have HB7 : Hid (Below W5.heap.size W5 w7) := Lib.hid (MapI.below_grown hg7 (fun q hq => (World.ownsRow.lt (HRN.out 1) q hq).1) (HSN.out 1) (HBN.out 1)); obtain ⟨g0, g1, _, _⟩ := (HCC.out _ HB7.out).1; obtain ⟨k0, k1, m0, m1⟩ := (HCC.out _ HB7.out).2.1; clear hr7 hg7))
    obtain ⟨W9, eW9, hx9, hb9, hoW9⟩ := put2 w7 G2 _ _ (.int .i64 C) (.slice a3 lv cap3) ((HCC.out _ HB7.out).2.1)
    have HBF := Lib.hid ((HB5.out.trans (HB7.out.mono HB5.out.size)).trans (hb9 w.heap.size (by have := HOM.out; omega)))
    have HM9 := Lib.hid (show Own W9 w.heap.size 2 (.slice a7 l cap7) l (ec ys) from by
      have h1 := Cop.row_own HR7.out
      have hlo := own_low h1 G2 (by have := HX6.out.lt; omega)
      have h2 := own_set_off (own_set_off h1 hlo 0 (.int .i64 C)) hlo 1 (.slice a3 lv cap3)
      rw [eW9] at h2
      exact h2.base HB5.out.size)
    have HR9 := Lib.hid (show Own W9 w.heap.size 1 (.slice a3 lv cap3) lv (nc vs) from by
      have h2 := own_set_off (own_set_off (HCC.out _ HB7.out).2.2 HOF3.out 0 (.int .i64 C)) HOF3.out 1 (.slice a3 lv cap3)
      rw [eW9] at h2
      exact h2.base HB2S.out)
    obtain ⟨R0, R1, _, _⟩ := hx9
    rw [eW9]
    clear hb9 hoW9
    go_wp2
    refine bodyPost_ret (v := .tuple #[.slice a7 l cap7, .agg #[.int .i64 C, .slice a3 lv cap3], .int .i64 0]) (by simp [results, Try.results21, go_sem, R0, R1]) rfl ⟨⟨_, _, rfl, Lib.hid ⟨by rw [HLL.out.1]; exact HM9.out, by rw [HLL.out.2]; exact HR9.out⟩⟩, HBF.out⟩
  have hno : ¬ (MOk xs ∧ TOk os) := fun hh => hgood ⟨by rw [← hq]; exact decide_eq_true hh.1, by rw [← hp]; exact decide_eq_true hh.2⟩
  have e1x : tg xs os = ([], [], 0) := if_neg hno
  have e2x : tk xs os = 1 := by unfold tk; rw [if_neg hl, if_neg hno]
  rw [e1x, e2x]
  clear hno e1x e2x hb1 hb2 hz1 hz2 h hs X1 X2 hq hp Y1
  generalize xs.length = n at *
  cases q with
  | false =>
    clear hgood
    go_enter Try.func21, Try.ntmps21
    go_wp2_with fail
    clear e1 e2 eG1 eG2
    refine (HMO.out _ HV.out).mono ?_
    rintro e w1 ⟨rfl, hb⟩
    have HB1 := Lib.hid (HB.out.trans (hb.mono HB.out.size))
    have HX3 := Lib.hid (HX2.out.below hb)
    have HV1 := Lib.hid (HV.out.below hb)
    have HS1 := Lib.hid (HS.out.below hb)
    have c9 := (hb.cell (World.block_lt_of_cell? _ _ HY1.out)).trans HY1.out
    clear hb
    obtain ⟨U3, e3, hb3, _⟩ := empty_row w1 117
    obtain ⟨W, eW, hx, hbW, _⟩ := put2 U3 G2 _ _ (.int .i64 0) (.slice none 0 0) (HX3.out.below hb3)
    have HBW := Lib.hid ((HB1.out.trans (hb3.mono HB1.out.size)).trans (hbW w.heap.size (by have := HOM.out; omega)))
    obtain ⟨c0, c1, f0, f1⟩ := HX3.out.below hb3
    obtain ⟨R0, R1, _, _⟩ := hx
    clear hb3 hbW
    go_wp2_with fail
    refine bodyPost_ret (v := .tuple #[.slice (some ⟨w1.heap.size, 0, none⟩) 0 0, .agg #[.int .i64 0, .slice none 0 0], .int .i64 1]) (by simp [results, Try.results21, go_sem, R0, R1]) rfl ⟨⟨_, _, rfl, Lib.hid ⟨nil_map _ _ _, nil_vals _ _ _⟩⟩, HBW.out⟩
  | true =>
    cases p with
    | true => exact absurd ⟨rfl, rfl⟩ hgood
    | false =>
      clear hgood
      go_enter Try.func21, Try.ntmps21
      go_wp2_with fail
      clear e1 e2 eG1 eG2
      refine (HMO.out _ HV.out).mono ?_
      rintro e w1 ⟨rfl, hb⟩
      have HB1 := Lib.hid (HB.out.trans (hb.mono HB.out.size))
      have HX3 := Lib.hid (HX2.out.below hb)
      have HV1 := Lib.hid (HV.out.below hb)
      have HS1 := Lib.hid (HS.out.below hb)
      have c9 := (hb.cell (World.block_lt_of_cell? _ _ HY1.out)).trans HY1.out
      clear hb
      go_wp2_with fail
      refine (HTO.out _ HS1.out).mono ?_
      rintro e w2 ⟨rfl, hb⟩
      have HB2 := Lib.hid (HB1.out.trans (hb.mono HB1.out.size))
      have HX4 := Lib.hid (HX3.out.below hb)
      have HV2 := Lib.hid (HV1.out.below hb)
      have HS2 := Lib.hid (HS1.out.below hb)
      have c8 := (hb.cell (World.block_lt_of_cell? _ _ c9)).trans c9
      clear hb c9
      obtain ⟨U3, e3, hb3, _⟩ := empty_row w2 117
      obtain ⟨W, eW, hx, hbW, _⟩ := put2 U3 G2 _ _ (.int .i64 0) (.slice none 0 0) (HX4.out.below hb3)
      have HBW := Lib.hid ((HB2.out.trans (hb3.mono HB2.out.size)).trans (hbW w.heap.size (by have := HOM.out; omega)))
      obtain ⟨c0, c1, f0, f1⟩ := HX4.out.below hb3
      obtain ⟨R0, R1, _, _⟩ := hx
      clear hb3 hbW
      go_wp2_with fail
      refine bodyPost_ret (v := .tuple #[.slice (some ⟨w2.heap.size, 0, none⟩) 0 0, .agg #[.int .i64 0, .slice none 0 0], .int .i64 1]) (by simp [results, Try.results21, go_sem, R0, R1]) rfl ⟨⟨_, _, rfl, Lib.hid ⟨nil_map _ _ _, nil_vals _ _ _⟩⟩, HBW.out⟩
end Go.Proofs.Ytealdpkgfmokpaa.TxS
