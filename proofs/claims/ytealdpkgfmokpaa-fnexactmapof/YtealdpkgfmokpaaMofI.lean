/-
  What is proved: the program's MapOf answers the plain map that a hidden map hides, in memory of its own (a contract for the walks).
-/
import Derived.Test.YtealdpkgfmokpaaRows
import Derived.Test.YtealdpkgfmokpaaKeysF
import Derived.Test.YtealdpkgfmokpaaEntI
import Derived.Test.YtealdpkgfmokpaaVlW
namespace Go.Proofs.Ytealdpkgfmokpaa.MofI
open Go.ChangeShapes Go.WideShapes Go.ChangeAt Go.RowKit Go.Maps
open Sl (Sl Off)
open OpenSl (nc)
open Dev Orm LawE MapP MapOk MapW MapI EntI EncP EokE MofP
set_option linter.unusedVariables false

theorem take_snoc (S : List Int) (j : Nat) (h : j < S.length) : S.take (j + 1) = S.take j ++ [S.getD j 0] := by
  rw [List.take_add_one, List.getElem?_eq_getElem h, List.getD_eq_getElem?_getD, List.getElem?_eq_getElem h]
  rfl
theorem no_map (w : World) (base : Nat) (a : Option Addr) : Sl.Own w base 2 (.slice a 0 0) ([] : List En).length (ec []) := ⟨a, 0, rfl, Nat.le_refl _, by unfold maxLen; omega, fun h => absurd h (by simp)⟩

set_option maxRecDepth 100000 in
set_option maxHeartbeats 3200000 in
theorem impl (w : World) (v : Value) (m : Em) (h : RdE w v m) (hn : m.o.st.length ≤ 1048576) (q : Bool) (hq : q = true ↔ EOk m) :
    Calls Try.prog 55 #[v] w fun e w' => ∃ x, e = .returned (.tuple #[x, .int .i64 (mc q)]) ∧ Sl.Own w' w.heap.size 2 x (mo m q).length (ec (mo m q)) ∧ Below w.heap.size w w' := by
  obtain ⟨i0, hi0, hz0, hz1, hz2⟩ := info_parts infoE
  have HRD := Lib.hid h
  obtain ⟨k, p, s, b, rfl, h1, h2⟩ := h
  obtain ⟨U, e1, hb, hz, X⟩ := box4 w 77 k p s b
  obtain ⟨G, eG⟩ : ∃ G, w.heap.size = G := ⟨_, rfl⟩
  have HB := Lib.hid hb
  have HG := Lib.hid eG
  have HE := Lib.hid (EokE.impl U _ m (HRD.out.below hb) hn q hq)
  rw [eG] at X
  have HX := Lib.hid X
  obtain ⟨c0, c1, c2, c3, _, _, _, _⟩ := X
  obtain ⟨ka, kc, rfl, k1, k2⟩ := h1.form
  unfold maxLen at k2
  have HK := Lib.hid h1
  have HT := Lib.hid h2
  have HN := Lib.hid hn
  cases q with
  | false =>
    clear h1 h2 hb hz hq hn
    go_enter Try.func55, Try.ntmps55
    go_wp2_with fail
    clear e1 eG
    refine HE.out.mono ?_
    rintro e w1 ⟨rfl, hb⟩
    have HB1 := Lib.hid (HB.out.trans (hb.mono HB.out.size))
    clear hb
    go_wp2
    go_ret2
    exact ⟨_, rfl, no_map _ _ _, HB1.out⟩
  | true =>
    have hok := hq.1 rfl
    have HV := Lib.hid (fun u x (hx : Rd u x m.o) => OkV.values u x m.o hx HN.out true ⟨fun _ => hok.tree, fun _ => rfl⟩)
    have HKD := Lib.hid (kd_of hok)
    have HLN := Lib.hid hok.len
    have HAT := Lib.hid (fun z => OkP.at_mp hok.tree z)
    have HSF := Lib.hid (fun j (hj : j < (sf m.ks 1).length) => (sf_mem m.ks 1 ((sf m.ks 1).getD j 0)).1 (at_mem hj))
    have HTK := Lib.hid (take_snoc (sf m.ks 1))
    have HTL := Lib.hid (List.take_length (l := sf m.ks 1))
    have HFO := Lib.hid (fo_eq (kd_of hok) (fun i => OkP.vl m.o (i : Int)))
    have HMO := Lib.hid (show mo m true = fo m.ks (fun i => OkP.vl m.o (i : Int)) m.ks.length by unfold mo; rw [if_pos rfl, hok.len])
    have hlf : (sf m.ks 1).length ≤ 11 := by have := sf_len m.ks 1; rw [hok.len] at this; exact this
    have hkl : m.ks.length = 11 := hok.len
    rw [HMO.out]
    have HKF := Lib.hid (fun u x (hx : Sl u 1 x m.ks.length (nc m.ks)) => KeysF.keysFrom u x m.ks hx (by omega) (by omega) 1)
    have HIX := Lib.hid (fun u x z (hx : Sl u 1 x m.ks.length (nc m.ks)) => KeysF.index u x m.ks z hx)
    rw [hkl] at k1 c0 e1 HX
    have HK11 := Lib.hid (show Sl w 1 (.slice ka 11 kc) m.ks.length (nc m.ks) from by have := h1; rwa [hkl] at this ⊢)
    have HRD2 := Lib.hid hkl
    rw [hkl] at HE ⊢
    clear h1 h2 hb hz hq hn hok HRD HK HMO
    obtain ⟨F, eF⟩ : ∃ F, sf m.ks 1 = F := ⟨_, rfl⟩
    rw [eF] at HSF HTK HTL HFO hlf HKF
    clear eF
    obtain ⟨nF, enF⟩ : ∃ n, F.length = n := ⟨_, rfl⟩
    rw [enF] at HSF HTK HTL hlf HKF
    have HNF := Lib.hid enF
    clear enF
    go_enter Try.func55, Try.ntmps55
    go_wp2_with fail
    clear e1 eG
    refine HE.out.mono ?_
    rintro e w1 ⟨rfl, hb⟩
    have HB1 := Lib.hid (HB.out.trans (hb.mono HB.out.size))
    have HX1 := Lib.hid (HX.out.below hb)
    clear hb c0 c1 c2 c3
    obtain ⟨c0, c1, c2, c3, _, _, _, _⟩ := HX1.out
    go_wp2_with fail
    refine (HV.out _ _ (HT.out.below HB1.out)).mono ?_
    rintro e w2 ⟨hb, _, ht⟩
    obtain ⟨B, nB, rfl, hB, ho⟩ := ht rfl
    have HO2 := Lib.hid ho
    have HB2 := Lib.hid (HB1.out.trans (hb.mono HB1.out.size))
    have HX2 := Lib.hid (HX1.out.below hb)
    clear hb ht ho hB c0 c1 c2 c3
    obtain ⟨c0, c1, c2, c3, _, _, _, _⟩ := HX2.out
    go_wp2_with fail
    refine (HKF.out _ _ (HK11.out.below HB2.out)).mono ?_
    rintro e w3 ⟨r3, rfl, hr, hb⟩
    have HO3 := Lib.hid (owns_below HO2.out hb)
    have HB3 := Lib.hid (HB2.out.trans (hb.mono HB2.out.size))
    have HX3 := Lib.hid (HX2.out.below hb)
    have HF3 := Lib.hid hr.sl
    obtain ⟨fa, fc, rfl, f1, f2⟩ := hr.sl.form
    unfold maxLen at f2
    clear hb hr c0 c1 c2 c3
    obtain ⟨s0, es0⟩ : ∃ s0, w3.heap.size = s0 := ⟨_, rfl⟩
    have HS0 := Lib.hid es0
    have HR0 := Lib.hid (show w3.ownsRow s0 117 2 (.slice none 0 0) 0 (es []) from ⟨rfl, .inl ⟨rfl, rfl⟩⟩)
    clear es0
    generalize hD : OkP.mp (OkP.al m.o) = D at *
    go_wp2
    go_loopw [6, 22] (fun lv i wz => ∃ (j : Nat) (wr : World) (E : List En) (a : Option Addr) (cap : Nat), wr = wz ∧ j ≤ nF ∧ lv = .slice a j cap ∧ i = .int .i64 j ∧ Hid (wr.ownsRow s0 117 2 (.slice a j cap) j (es E) ∧ E.length = j ∧ E.map Prod.fst = F.take j ∧ (∀ x ∈ E, ∃ i, i < m.ks.length ∧ m.ks.getD i 0 = x.1 ∧ x.2 = OkP.vl m.o (i : Int)) ∧ Below w3.heap.size w3 wr)) (fun lv i _ => nF - (Go.RowKit.intOf i).toNat)
    case atStart => exact ⟨0, _, [], _, _, rfl, by omega, rfl, rfl, Lib.hid ⟨HR0.out, rfl, by simp, fun x hx => by simp at hx, Below.refl _ _⟩⟩
    case round =>
      obtain ⟨j, wr, E, a, cap, rfl, hj, rfl, rfl, HJ⟩ := hrel
      by_cases hlt : j < nF
      · obtain ⟨b1, o1, e1, hc⟩ := (HF3.out.below HJ.out.2.2.2.2).at (by omega)
        subst e1
        have d0 := hc j (by omega)
        unfold nc at d0
        obtain ⟨c0, c1, c2, c3, _, _, _, _⟩ := HX3.out.below HJ.out.2.2.2.2
        have HM := Lib.hid (HSF.out j hlt)
        have HTJ := Lib.hid (HTK.out j hlt)
        clear hc
        generalize F.getD j 0 = z at *
        have HI := Lib.hid (HIX.out wr _ z (HK11.out.below (HB3.out.trans (HJ.out.2.2.2.2.mono HB3.out.size))))
        go_wp2_with fail
        refine HI.out.mono ?_
        rintro e wq ⟨⟨r, rfl, hr⟩, rfl⟩
        obtain ⟨i, hi, rfl, hiz⟩ : ∃ i : Nat, i < m.ks.length ∧ r = i ∧ m.ks.getD i 0 = z := by
          rcases hr with ⟨_, hno⟩ | ⟨i, hi, e, hz⟩
          · exact absurd HM.out.1 hno
          · exact ⟨i, hi, e, hz⟩
        have hi11 : i < 11 := by rw [HLN.out] at hi; exact hi
        have HIZ := Lib.hid (And.intro hi hiz)
        clear hr hiz hi
        have HKEY := Lib.hid (keyOf_int_mk Try.underlying3 (show (Lit.int .i64 (i : Int)).wf = true from WalkArith.wf_i64 (by omega)))
        have HA := Lib.hid (HAT.out (i : Int))
        obtain ⟨y, ey⟩ : ∃ y, OkP.vl m.o (i : Int) = y := ⟨_, rfl⟩
        have HY := Lib.hid ey
        rw [ey] at HA
        clear ey
        have HOW := Lib.hid (owns_below HO3.out HJ.out.2.2.2.2)
        obtain ⟨U2, e1, hb, hz, x0, x1, _, _⟩ := box2 wq 117 (.int .i64 z) (.int .i64 y)
        obtain ⟨G2, eG2⟩ : ∃ G, wq.heap.size = G := ⟨_, rfl⟩
        rw [eG2] at x0 x1
        have HN2 := Lib.hid (show ∀ j v, ([Value.int .i64 z, .int .i64 y])[j]? = some v → U2.cell? ((⟨G2, 0, none⟩ : Addr).add j) = some v from fun j v hj => by
          match j, hj with
          | 0, hj => obtain rfl : Value.int .i64 z = v := by simpa using hj
                     exact x0
          | 1, hj => obtain rfl : Value.int .i64 y = v := by simpa using hj
                     exact x1
          | j + 2, hj => simp at hj)
        have HRU := Lib.hid (Cop.row_below HJ.out.1 hb)
        have HSU := Lib.hid (show s0 ≤ U2.heap.size from by have := HS0.out; have := HJ.out.2.2.2.2.size; have := hb.size; omega)
        have HBU2 := Lib.hid (HJ.out.2.2.2.2.trans (hb.mono HJ.out.2.2.2.2.size))
        have ho1 : ∀ v ∈ [Value.int .i64 z, .int .i64 y], v.oneCell' = true := by intro v hv; simp at hv; rcases hv with rfl | rfl <;> rfl
        have hm2 : j + 1 ≤ maxLen := by unfold maxLen; omega
        have hy2 : (j + 1) * 16 ≤ 140737488355328 := by omega
        clear hb hz x0 x1
        go_wp2_with (first
          | (at_lookup; refine wpList_lookup_own_int _ rfl _ _ 137 rfl 3 3 .i64 law3 Try.underlying137 Try.underlying3 (zero3 _) B nB D rfl HOW.out _ _ rfl HKEY.out ?_; intro c hat hwc; obtain rfl : y = c := (by have := HA.out.symm.trans hat; injection this with h1; injection h1); clear hat)
          | (at_builtin; refine wpList_append_own _ rfl (.tmp 26) (.tmp 35) 47 rfl s0 117 i0 _ 2 16 Try.underlying47 hi0 hz0 hz1 hz2 rfl (by omega) (.slice a j cap) j (es E) (by simp [Act.eval]) HRU.out ⟨G2, 0, none⟩ 1 1 _ (by simp [Act.eval]) rfl HN2.out ho1 hm2 hy2 HSU.out ?_; intro v' w' hrow hgr _; obtain ⟨a', cap', rfl⟩ := row_form hrow; have HR2 := Lib.hid hrow; have HG2 := Lib.hid hgr; clear hrow hgr))
        clear e1 eG2
        go_roundw
        case rel =>
          refine ⟨j + 1, _, E ++ [(z, y)], a', cap', rfl, by omega, by rfl, by go_num, Lib.hid ⟨by rw [es_snoc]; exact HR2.out, by rw [List.length_append, HJ.out.2.1]; rfl, by rw [List.map_append, HJ.out.2.2.1, HTJ.out]; rfl, fun x hx => ?_, ?_⟩⟩
          · rcases List.mem_append.1 hx with hx | hx
            · exact HJ.out.2.2.2.1 x hx
            · obtain rfl := List.mem_singleton.1 hx
              exact ⟨i, HIZ.out.1, HIZ.out.2, HY.out.symm⟩
          · exact below_grown HG2.out (fun q hq => by have := (World.ownsRow.lt HRU.out q hq).1; have := HS0.out; omega) (by have := HSU.out; have := HS0.out; omega) HBU2.out
        case measure => simp [Go.RowKit.intOf]; omega
      · have HEE := Lib.hid (show E = fo m.ks (fun i => OkP.vl m.o (i : Int)) m.ks.length from HFO.out E (by
          have e : j = nF := by omega
          have := HJ.out.2.2.1
          rw [e, HTL.out] at this
          exact this) HJ.out.2.2.2.1)
        have HFB := Lib.hid (HB3.out.trans (HJ.out.2.2.2.2.mono HB3.out.size))
        have HOE := Lib.hid (show Sl.Own wr w.heap.size 2 (.slice a j cap) E.length (ec E) from by
          have hr := HJ.out.1
          rw [← HJ.out.2.1] at hr ⊢
          exact (es_own hr).base (by have := HS0.out; have := HB3.out.size; omega))
        go_wp2
        go_ret2
        exact ⟨_, rfl, by have e := HEE.out; rw [HLN.out] at e; rw [← e]; exact HOE.out, HFB.out⟩
end Go.Proofs.Ytealdpkgfmokpaa.MofI
