/-
  What is proved: the program's MapBatch answers the plain outcome of a batch, in memory of its own (a contract for the walks).
-/
import Derived.Test.YtealdpkgfmokpaaRows
import Derived.Test.YtealdpkgfmokpaaDtI
import Derived.Test.YtealdpkgfmokpaaBatD
import Derived.Test.YtealdpkgfmokpaaBatMS
namespace Go.Proofs.Ytealdpkgfmokpaa.BatIm
open Go.ChangeShapes Go.WideShapes Go.ChangeAt Go.RowKit Go.Maps
open Sl (Sl Own Off)
open OpenSl (nc)
open Dev Orm LawE MapP MapOk OtB MapGet MapD MapW MapI EntI DoA TxP DtP BatR BatD BatMS
open BatB (TOk BOk)
set_option linter.unusedVariables false

/-- What MapBatch answers, in memory of its own. -/
def BA (base : Nat) (t : List En × List Re) (k : Int) (w : World) (e : Ending) : Prop := ∃ x v us, e = .returned (.tuple #[x, v, .int .i64 k]) ∧ Hid (Sl.Own w base 2 x t.1.length (ec t.1) ∧ NrO w base v t.2 us ∧ Apart x v ∧ ∀ j, j < t.2.length → Apart x (us j))
theorem nil_apart (n cap : Nat) (v : Value) : Apart (.slice none n cap) v := fun a m cap e => by simp at e
theorem boxF (w : World) (T : TypeId) (a x : Value) (G : Nat) (hG : w.heap.size = G) : ∃ U, w.alloc (.cells #[a] T) = U ∧ ∃ W, U.setCell ⟨G, 0, none⟩ x = W ∧ U.cell? ⟨G, 0, none⟩ = some a ∧ U.frozen? ⟨G, 0, none⟩ = false ∧ W.cell? ⟨G, 0, none⟩ = some x ∧ Below w.heap.size w W := by
  subst hG
  exact ⟨_, rfl, _, rfl, by go_simp, by go_simp, by go_simp, ((Below.refl _ w).alloc (Nat.le_refl _) _).setCell (p := ⟨w.heap.size, 0, none⟩) (Nat.le_refl _) _⟩
set_option maxRecDepth 100000 in
set_option maxHeartbeats 3200000 in
theorem implBatch (w : World) (v : Value) (xs : List En) (h : Sl w 2 v xs.length (ec xs)) (u : Value) (bss : List (List Bk)) (hs : Ns w u bss) :
    Calls Try.prog 36 #[v, u] w fun e w' => BA w.heap.size (gb xs bss) (gk xs bss) w' e ∧ Below w.heap.size w w' := by
  have HV := Lib.hid h
  have HS := Lib.hid hs
  obtain ⟨p, hp⟩ : ∃ p, decide (BOk bss) = p := ⟨_, rfl⟩
  obtain ⟨q, hq⟩ : ∃ q, decide (MOk xs) = q := ⟨_, rfl⟩
  have HBO := Lib.hid (show Calls Try.prog 94 #[u] w fun e w' => e = .returned (.bool p) ∧ Below w.heap.size w w' from hp ▸ BatB.implOk w u bss hs)
  have HMF := Lib.hid (fun t (ht : Sl t 2 v xs.length (ec xs)) => mapFault t v xs ht p q hq)
  obtain ⟨a, cap, rfl, _, hm⟩ := h.form
  unfold maxLen at hm
  obtain ⟨ts, hu, hin⟩ := hs
  have HU := Lib.hid hu
  have HIN := Lib.hid hin
  obtain ⟨a2, cap2, rfl, _, hm2⟩ := hu.form
  unfold maxLen at hm2
  clear h hu hin
  by_cases hl2 : 4096 < bss.length
  · have e1x : gb xs bss = ([], []) := if_neg (fun hh => by have := hh.2.1.2; omega)
    have e2x : gk xs bss = 2 := by unfold gk; rw [if_pos (.inr hl2)]
    rw [e1x, e2x]
    clear e1x e2x hq hp
    generalize xs.length = n at *
    generalize bss.length = n2 at *
    have HB := Lib.hid (Below.refl w.heap.size w)
    go_enter Try.func36, Try.ntmps36
    go_wp2
    go_ret3
    exact ⟨⟨_, _, fun _ => undef, rfl, Lib.hid ⟨nil_map _ _ _, no_res _ _ _ _, nil_apart _ _ _, fun j hj => absurd hj (by simp)⟩⟩, HB.out⟩
  by_cases hgood : ¬ 4096 < xs.length ∧ p = true ∧ q = true
  · obtain ⟨hl, rfl, rfl⟩ := hgood
    have hok : MOk xs := of_decide_eq_true hq
    have hop : BOk bss := of_decide_eq_true hp
    have e1x : gb xs bss = bt xs bss := if_pos ⟨hok, hop⟩
    have e2x : gk xs bss = 0 := by unfold gk; rw [if_neg (fun hh => hh.elim hl hl2), if_pos ⟨hok, hop⟩]
    have e4x : mf xs true true = 0 := by unfold mf; rw [if_neg hl]; simp
    rw [e1x, e2x]
    rw [e4x] at HMF
    have HW := Lib.hid (fun t x (hx : Sl t 2 x xs.length (ec xs)) => workOn t x xs hx hok)
    have HALL := Lib.hid hop.2
    have hn2 := hop.1.2
    have HJOK := Lib.hid (fun j (hj : j ≤ bss.length) => bj_ok hok hop.2 j hj)
    have HJL := Lib.hid (fun j (hj : j ≤ bss.length) => bj_len xs bss j hj)
    have HJS := Lib.hid (fun j (hj : j < bss.length) => bj_step xs bss j hj)
    have HJA := Lib.hid (bj_all xs bss)
    have HJ0 := Lib.hid (bj_zero xs bss)
    rw [← HJA.out]
    generalize bj xs bss = BJ at *
    clear e1x e2x e4x hq hp hok hop hl hl2
    generalize xs.length = nx at *
    obtain ⟨n, en⟩ : ∃ n, bss.length = n := ⟨_, rfl⟩
    have HEN := Lib.hid en
    rw [en] at HU HIN HJOK HJL HJS hn2 HBO ⊢
    clear en
    go_enter Try.func36, Try.ntmps36
    go_wp2_with fail
    refine HBO.out.mono ?_
    rintro e w1 ⟨rfl, hb⟩
    have HB1 := Lib.hid hb
    clear hb
    go_wp2_with fail
    refine (HMF.out _ (HV.out.below HB1.out)).mono ?_
    rintro e w2 ⟨rfl, hb⟩
    have HB2 := Lib.hid (HB1.out.trans (hb.mono HB1.out.size))
    clear hb
    go_wp2_with fail
    refine (HW.out _ _ (HV.out.below HB2.out)).mono ?_
    rintro e w3 ⟨g, B, rfl, hwk, hb⟩
    obtain ⟨lo, elo⟩ : ∃ lo, w2.heap.size = lo := ⟨_, rfl⟩
    rw [elo] at hwk hb
    have HLO := Lib.hid (show w.heap.size ≤ lo from elo ▸ HB2.out.size)
    obtain ⟨R, o, w4, hmk, hown, hty, hR, hb4⟩ := madeT w3 n (by omega)
    have HI0 := Lib.hid (show It w2 lo g B R o n w4 xs [] (fun _ => undef) from
      have hsz : lo ≤ w3.heap.size := by have := hb.size; omega
      ⟨⟨_, hwk.below hb4⟩, (hown.base hsz).congr (fun j _ => by unfold rz; rw [if_neg (by simp)]), hty, Nat.le_trans hsz hR, fun j hj => absurd hj (by simp), fun j hj => absurd hj (by simp), fun i j hi => absurd hi (by simp), hb.trans (hb4.mono hsz), Nat.le_trans hsz hb4.size⟩)
    have HLO2 := Lib.hid elo
    clear elo hwk hb hown hty hR hb4
    go_wp2
    clear hmk
    go_loopw [29] (fun i wz => ∃ (j : Nat) (wr : World) (us : Nat → Value), wr = wz ∧ j ≤ n ∧ i = .int .i64 j ∧ Hid (It w2 lo g B R o n wr (BJ j).1 (BJ j).2 us)) (fun i _ => n - (Go.RowKit.intOf i).toNat)
    case atStart => exact ⟨0, _, fun _ => undef, rfl, by omega, rfl, Lib.hid (by rw [HJ0.out]; exact HI0.out)⟩
    case round =>
      obtain ⟨j, wr, us, rfl, hj, rfl, HJ⟩ := hrel
      have HBw := Lib.hid (show Below w.heap.size w wr from HB2.out.trans (HJ.out.bel.mono HLO.out))
      by_cases hlt : j < n
      · obtain ⟨b0, o0, e5, hc⟩ := (HU.out.below HBw.out).at (by omega)
        obtain rfl : a2 = some ⟨b0, o0, none⟩ := by simpa using e5
        have c0 := hc j (by omega)
        have HO := Lib.hid (HALL.out _ (getD_mem (show j < bss.length by rw [HEN.out]; exact hlt)))
        have HSJ := Lib.hid (HJS.out j hlt)
        have HL := Lib.hid (HJL.out j hj)
        obtain ⟨G1, eG1⟩ : ∃ G, wr.heap.size = G := ⟨_, rfl⟩
        obtain ⟨ta, tcap, etj, _, _⟩ := (HIN.out j hlt).form
        obtain ⟨U1, e1, W2, e2, x0, f0, y0, hbW⟩ := boxF wr 55 (.slice none 0 0) (.slice ta (bss.getD j []).length tcap) G1 eG1
        have HI2 := Lib.hid (HJ.out.below hbW)
        have HBW := Lib.hid (HBw.out.trans (hbW.mono HBw.out.size))
        obtain ⟨pv, hw2⟩ := HI2.out.wk
        have HT := Lib.hid (DtI.doTxn W2 lo g B (BJ j).1 pv hw2 (HJOK.out j hj) (ts j) (bss.getD j []) (fun t ht => (HIN.out j hlt).below (HBW.out.trans (ht.mono HLO.out))) HO.out.2 HO.out.1.2)
        obtain ⟨t, et⟩ : ∃ t, tx (BJ j).1 (BJ j).1 [] (bss.getD j []) = t := ⟨_, rfl⟩
        rw [et] at HSJ HT
        rw [etj] at HT c0
        clear et hc e5 HO hw2 hbW etj
        generalize (bss.getD j []).length = mt at *
        obtain ⟨zs, vs, C⟩ := t
        go_wp2_with fail
        clear e1 e2 eG1 x0 f0 y0
        refine HT.out.mono ?_
        rintro e w5 ⟨⟨r5, rfl, hq⟩, hb⟩
        simp only at hq ⊢
        have HQ := Lib.hid hq.out
        have HI5 := Lib.hid (HI2.out.txn HQ.out.2.2.1 HQ.out.2.2.2 hb)
        have HAP := Lib.hid (HI2.out.apart (fun q hq => (HQ.out.2.1 q hq).1))
        have HP := Lib.hid (HI5.out.put (c := C) (by rw [HL.out]; exact hlt) HQ.out.1 (fun q hq => (HQ.out.2.1 q hq).2) HAP.out)
        rw [HL.out] at HP
        obtain ⟨a5, cap5, rfl, _, _⟩ := hq.out.1.sl.form
        obtain ⟨b', o', e', hb', hc'⟩ := HI5.out.out.at (by omega)
        obtain ⟨rfl, rfl⟩ : R = b' ∧ o = o' := by simpa using e'
        obtain ⟨c3, f3⟩ := hc' (j * 2) (by omega)
        obtain ⟨c4, f4⟩ := hc' (j * 2 + 1) (by omega)
        rw [← Nat.add_assoc] at c4 f4
        generalize vs.length = m at *
        clear hb hq hb' hc' e' c0
        go_wp2
        go_roundw
        case rel => exact ⟨j + 1, _, su (BJ j).2 us (.slice a5 m cap5), rfl, by omega, by go_num, Lib.hid (by rw [HSJ.out]; exact HP.out)⟩
        case measure => simp [Go.RowKit.intOf]; omega
      · have HE := Lib.hid (show j = n by omega)
        have HF := Lib.hid (show It w2 lo g B R o n wr (BJ n).1 (BJ n).2 us from HE.out ▸ HJ.out)
        have HNR := Lib.hid (HF.out.res (HJL.out n (Nat.le_refl _)))
        obtain ⟨pv, hw2⟩ := HF.out.wk
        have hmk := HJOK.out n (Nat.le_refl _)
        have HEN2 := Lib.hid (entries wr lo g B _ pv hw2 hmk.ri hmk.kv hmk.1)
        clear hw2 hmk
        go_wp2_with fail
        refine HEN2.out.mono ?_
        rintro e w6 ⟨r6, rfl, hrow, hb⟩
        have HO6 := Lib.hid (es_own hrow)
        have HA1 := Lib.hid (apart_of HNR.out.out.sl (by decide) HO6.out (Nat.le_refl _)).symm
        have HA2 := Lib.hid (fun i (hi : i < (BJ n).2.length) => (apart_of (HNR.out.inn i hi).sl (by decide) HO6.out (Nat.le_refl _)).symm)
        have HN6 := Lib.hid ((HNR.out.below hb).base HLO.out)
        have HB6 := Lib.hid (HBw.out.trans (hb.mono HBw.out.size))
        clear hrow hb
        go_wp2
        go_ret3
        exact ⟨⟨_, _, us, rfl, Lib.hid ⟨HO6.out.base HBw.out.size, HN6.out, HA1.out, HA2.out⟩⟩, HB6.out⟩
  · have hno : MOk xs ∧ BOk bss → ¬ 4096 < xs.length → False := fun hh hl => hgood ⟨hl, by rw [← hp]; exact decide_eq_true hh.2, by rw [← hq]; exact decide_eq_true hh.1⟩
    have hno2 : ¬ (MOk xs ∧ BOk bss) := fun hh => hno hh (by have := hh.1.1; omega)
    have e1x : gb xs bss = ([], []) := if_neg hno2
    obtain ⟨C, hC, e3x, e4x⟩ : ∃ C : Int, C ≠ 0 ∧ gk xs bss = C ∧ mf xs p q = C := by
      unfold gk mf
      by_cases hl : 4096 < xs.length
      · exact ⟨2, by decide, by rw [if_pos (.inl hl)], by rw [if_pos hl]⟩
      · refine ⟨1, by decide, ?_, ?_⟩
        · rw [if_neg (fun hh => hh.elim hl hl2), if_neg hno2]
        · rw [if_neg hl, if_neg (fun hh => hgood ⟨hl, hh⟩)]
    rw [e1x, e3x]
    rw [e4x] at HMF
    have b1 : (C != 0) = true := bne_iff_ne.2 hC
    have b2 : decide (C ≠ 0) = true := decide_eq_true hC
    clear e1x e3x e4x hq hp hgood hC hno hno2
    generalize xs.length = n at *
    generalize bss.length = n2 at *
    go_enter Try.func36, Try.ntmps36
    go_wp2_with fail
    refine HBO.out.mono ?_
    rintro e w1 ⟨rfl, hb⟩
    have HB1 := Lib.hid hb
    clear hb
    go_wp2_with fail
    refine (HMF.out _ (HV.out.below HB1.out)).mono ?_
    rintro e w2 ⟨rfl, hb⟩
    have HB2 := Lib.hid (HB1.out.trans (hb.mono HB1.out.size))
    clear hb
    go_wp2_with fail
    go_ret3
    exact ⟨⟨_, _, fun _ => undef, rfl, Lib.hid ⟨nil_map _ _ _, no_res _ _ _ _, nil_apart _ _ _, fun j hj => absurd hj (by simp)⟩⟩, HB2.out⟩
end Go.Proofs.Ytealdpkgfmokpaa.BatIm
