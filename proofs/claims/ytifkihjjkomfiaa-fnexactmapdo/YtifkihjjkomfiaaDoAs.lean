/-
  What is proved: the model's MapDo answers the plain map, numbers and code (a contract for the walks).
-/
import Derived.Test.YtifkihjjkomfiaaRows
import Derived.Test.YtifkihjjkomfiaaDoA
namespace Go.Proofs.Ytifkihjjkomfiaa.DoAs
open Go.ChangeShapes Go.WideShapes Go.ChangeAt Go.RowKit Go.Maps
open Sl (Sl Own Off)
open OpenSl (nc)
open Dev Orm LawE MapP MapOk MapOkS OtB MapD MapGet MapW MapI EntI PutM DoI DoM DoM2 DoM3 DoM4 DoA
open OpB (Ok Bare Cell)
set_option linter.unusedVariables false

def SQ (ys : List En) (vs : List Int) (c : Int) (w : World) (e : Ending) : Prop := ∃ x o, e = .returned (.tuple #[x, o, .int .i64 c]) ∧ Hid (Sl w 2 x ys.length (ec ys) ∧ Sl w 1 o vs.length (nc vs))
theorem nil_map (w : World) (a : Option Addr) : Sl w 2 (.slice a 0 0) ([] : List En).length (ec []) := ⟨a, 0, rfl, Nat.le_refl _, by unfold maxLen; omega, fun h => absurd h (by simp)⟩
theorem nil_vals (w : World) (a : Option Addr) : Sl w 1 (.slice a 0 0) ([] : List Int).length (nc []) := ⟨a, 0, rfl, Nat.le_refl _, by unfold maxLen; omega, fun h => absurd h (by simp)⟩
set_option maxRecDepth 100000 in
set_option maxHeartbeats 1600000 in
theorem specDo (w : World) (v : Value) (xs : List En) (h : Sl w 2 v xs.length (ec xs)) (k z y : Int) :
    Calls Try.prog 30 #[v, .agg #[.int .i64 k, .int .i64 z, .int .i64 y]] w fun e w' => SQ (ax xs (k, z, y)) (av xs (k, z, y)) (ac xs (k, z, y)) w' e ∧ Below w.heap.size w w' := by
  obtain ⟨U, e1, hb, hsz, X⟩ := Box3.box3 w 30 (.int .i64 k) (.int .i64 z) (.int .i64 y)
  obtain ⟨M, eM⟩ : ∃ M, w.heap.size = M := ⟨_, rfl⟩
  rw [eM] at X
  have HX := Lib.hid X
  have HB := Lib.hid hb
  have HSZ := Lib.hid hb.size
  have HV := Lib.hid (h.below hb)
  obtain ⟨p, hp⟩ : ∃ p, decide (Ok (k, z, y)) = p := ⟨_, rfl⟩
  obtain ⟨q, hq⟩ : ∃ q, decide (MOk xs) = q := ⟨_, rfl⟩
  have HO := Lib.hid (fun u => show Calls Try.prog 90 #[.agg #[.int .i64 k, .int .i64 z, .int .i64 y]] u fun e w' => e = .returned (.bool p) ∧ Below u.heap.size u w' from hp ▸ OpB.specOk u k z y)
  have HMO := Lib.hid (fun u (hu : Sl u 2 v xs.length (ec xs)) => specOk u v xs hu q hq)
  obtain ⟨x0, x1, x2, _, _, _⟩ := X
  obtain ⟨a, cap, rfl, _, hm⟩ := h.form
  unfold maxLen at hm
  by_cases hl : 4096 < xs.length
  · have hno : ¬ (MOk xs ∧ Ok (k, z, y)) := fun hh => by have := hh.1.1; omega
    have e1x : ax xs (k, z, y) = [] := if_neg hno
    have e2x : av xs (k, z, y) = [] := if_neg hno
    have e3x : ac xs (k, z, y) = 2 := by unfold ac; rw [if_pos hl]
    rw [e1x, e2x, e3x]
    obtain ⟨U2, e2, hb2, _⟩ := empty_row U 37
    obtain ⟨U3, e3, hb3, _⟩ := empty1 U2
    have HB3 := Lib.hid ((HB.out.trans (hb2.mono HSZ.out)).trans (hb3.mono (Nat.le_trans HSZ.out hb2.size)))
    clear e1x e2x e3x hno hq hp h hb hsz hb2 hb3
    generalize xs.length = n at *
    go_enter Try.func30, Try.ntmps30
    go_wp2
    go_ret3
    exact ⟨⟨_, _, rfl, Lib.hid ⟨nil_map _ _, nil_vals _ _⟩⟩, HB3.out⟩
  by_cases hgood : q = true ∧ p = true
  · obtain ⟨rfl, rfl⟩ := hgood
    have hok : MOk xs := of_decide_eq_true hq
    have hop : Ok (k, z, y) := of_decide_eq_true hp
    have e1x : ax xs (k, z, y) = dx xs (k, z, y) := if_pos ⟨hok, hop⟩
    have e2x : av xs (k, z, y) = dv xs (k, z, y) := if_pos ⟨hok, hop⟩
    have e3x : ac xs (k, z, y) = dc xs (k, z, y) := by unfold ac; rw [if_neg hl, if_pos ⟨hok, hop⟩]
    rw [e1x, e2x, e3x]
    have HD := Lib.hid (fun (u : World) (hu : Sl u 2 (.slice a xs.length cap) xs.length (ec xs)) => mDo u _ xs hu hok k z y hop)
    have HYL := Lib.hid (dx_ok hok hop).1
    clear e1x e2x e3x hq hp hok hop h hb hsz
    generalize dx xs (k, z, y) = ys at *
    generalize dv xs (k, z, y) = vs at *
    generalize dc xs (k, z, y) = C at *
    generalize xs.length = n at *
    go_enter Try.func30, Try.ntmps30
    go_wp2_with fail
    clear eM e1
    refine (HMO.out _ HV.out).mono ?_
    rintro e w1 ⟨rfl, hb1⟩
    have HB1 := Lib.hid (HB.out.trans (hb1.mono HSZ.out))
    have HX1 := Lib.hid (HX.out.below hb1)
    have HV1 := Lib.hid (HV.out.below hb1)
    clear hb1 x0 x1 x2
    obtain ⟨x0, x1, x2, _, _, _⟩ := HX1.out
    go_wp2_with fail
    refine (HO.out _).mono ?_
    rintro e w2 ⟨rfl, hb2⟩
    have HB2 := Lib.hid (HB1.out.trans (hb2.mono HB1.out.size))
    have HX2 := Lib.hid (HX1.out.below hb2)
    have HV2 := Lib.hid (HV1.out.below hb2)
    clear hb2 x0 x1 x2
    obtain ⟨x0, x1, x2, _, _, _⟩ := HX2.out
    go_wp2_with fail
    refine (HD.out _ HV2.out).mono ?_
    rintro e w3 ⟨⟨r3, o3, rfl, hq3⟩, hb3⟩
    obtain ⟨a3, cap3, rfl, _, _⟩ := hq3.out.1.form
    obtain ⟨b3, cap4, rfl, _, _⟩ := hq3.out.2.sl.form
    have HB3 := Lib.hid (HB2.out.trans (hb3.mono HB2.out.size))
    obtain ⟨U4, e4, hb4, hrow⟩ := empty_row w3 37
    have HR4 := Lib.hid hrow
    have HB4 := Lib.hid (HB3.out.trans (hb4.mono HB3.out.size))
    have HS4 := Lib.hid (hq3.out.1.below hb4)
    have HO4 := Lib.hid (hq3.out.2.sl.below hb4)
    have HOB := Lib.hid (fun (u : World) (hu : Below w3.heap.size w3 u) => hq3.out.2.sl.below hu)
    have HBW := Lib.hid hb4
    have HL4 := Lib.hid (show w3.heap.size ≤ U4.heap.size from hb4.size)
    have HL3 := Lib.hid HB3.out.size
    obtain ⟨l, hl9⟩ : ∃ l, ys.length = l := ⟨_, rfl⟩
    have HLL := Lib.hid hl9
    rw [hl9] at HS4 HYL ⊢
    have hp2 : 0 < 2 := by omega
    have hm3 : 0 + l ≤ maxLen := by have := HYL.out; unfold maxLen; omega
    have hy3 : (0 + l) * 16 ≤ 140737488355328 := by have := HYL.out; omega
    clear hb3 hb4 hrow x0 x1 x2 hl9
    go_wp2_with (at_builtin; refine Cop.wpList_appR _ rfl (.tmp 32) (.tmp 33) 23 rfl w3.heap.size 37 2 16 (.agg #[.int .i64 0, .int .i64 0]) Try.underlying23 infoE rfl hp2 (.slice (some ⟨w3.heap.size, 0, none⟩) 0 0) (by simp [Act.eval]) 0 [] HR4.out HL4.out (.slice a3 l cap3) (by simp [Act.eval]) l (ec ys) HS4.out (fun j _ => ec_one _ j) hm3 hy3 ?_; intro a5 cap5 w5 hr5 hg5; rw [Nat.zero_add, List.nil_append] at hr5; rw [Nat.zero_add]; have HR5 := Lib.hid hr5; have HB5 : Hid (Below w.heap.size w w5) := Lib.hid (MapI.below_grown hg5 (fun q hq => Nat.le_trans HL3.out (World.ownsRow.lt HR4.out q hq).1) HB4.out.size HB4.out); have HO5 := Lib.hid (show Sl w5 1 (.slice b3 vs.length cap4) vs.length (nc vs) from HOB.out w5 (MapI.below_grown hg5 (fun q hq => (World.ownsRow.lt HR4.out q hq).1) HL4.out HBW.out)); clear hr5 hg5)
    go_ret3
    exact ⟨⟨_, _, rfl, Lib.hid ⟨by have h9 := (Cop.row_own HR5.out).sl; rw [HLL.out]; exact h9, HO5.out⟩⟩, HB5.out⟩
  have hno : ¬ (MOk xs ∧ Ok (k, z, y)) := fun hh => hgood ⟨by rw [← hq]; exact decide_eq_true hh.1, by rw [← hp]; exact decide_eq_true hh.2⟩
  have e1x : ax xs (k, z, y) = [] := if_neg hno
  have e2x : av xs (k, z, y) = [] := if_neg hno
  have e3x : ac xs (k, z, y) = 1 := by unfold ac; rw [if_neg hl, if_neg hno]
  rw [e1x, e2x, e3x]
  clear e1x e2x e3x hno hq hp h hb hsz
  generalize xs.length = n at *
  cases q with
  | false =>
    clear hgood
    go_enter Try.func30, Try.ntmps30
    go_wp2_with fail
    clear eM e1
    refine (HMO.out _ HV.out).mono ?_
    rintro e w1 ⟨rfl, hb1⟩
    have HB1 := Lib.hid (HB.out.trans (hb1.mono HSZ.out))
    obtain ⟨U2, e2, hb2, _⟩ := empty_row w1 37
    obtain ⟨U3, e3, hb3, _⟩ := empty1 U2
    have HB3 := Lib.hid ((HB1.out.trans (hb2.mono HB1.out.size)).trans (hb3.mono (Nat.le_trans HB1.out.size hb2.size)))
    clear hb1 x0 x1 x2 hb2 hb3
    go_wp2_with fail
    go_ret3
    exact ⟨⟨_, _, rfl, Lib.hid ⟨nil_map _ _, nil_vals _ _⟩⟩, HB3.out⟩
  | true =>
    cases p with
    | true => exact absurd ⟨rfl, rfl⟩ hgood
    | false =>
      clear hgood
      go_enter Try.func30, Try.ntmps30
      go_wp2_with fail
      clear eM e1
      refine (HMO.out _ HV.out).mono ?_
      rintro e w1 ⟨rfl, hb1⟩
      have HB1 := Lib.hid (HB.out.trans (hb1.mono HSZ.out))
      have HX1 := Lib.hid (HX.out.below hb1)
      clear hb1 x0 x1 x2
      obtain ⟨x0, x1, x2, _, _, _⟩ := HX1.out
      go_wp2_with fail
      refine (HO.out _).mono ?_
      rintro e w2 ⟨rfl, hb2⟩
      have HB2 := Lib.hid (HB1.out.trans (hb2.mono HB1.out.size))
      clear hb2 x0 x1 x2
      obtain ⟨U2, e2, hb2, _⟩ := empty_row w2 37
      obtain ⟨U3, e3, hb3, _⟩ := empty1 U2
      have HB3 := Lib.hid ((HB2.out.trans (hb2.mono HB2.out.size)).trans (hb3.mono (Nat.le_trans HB2.out.size hb2.size)))
      clear hb2 hb3
      go_wp2_with fail
      go_ret3
      exact ⟨⟨_, _, rfl, Lib.hid ⟨nil_map _ _, nil_vals _ _⟩⟩, HB3.out⟩
end Go.Proofs.Ytifkihjjkomfiaa.DoAs
