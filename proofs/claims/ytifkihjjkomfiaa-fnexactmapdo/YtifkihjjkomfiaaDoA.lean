/-
  What is proved: an operation that is right, done on a right map: both sides answer the plain map, numbers and code; both MapDo (contracts for the walks).
-/
import Derived.Test.YtifkihjjkomfiaaRows
import Derived.Test.YtifkihjjkomfiaaDoM2
import Derived.Test.YtifkihjjkomfiaaDoM3
import Derived.Test.YtifkihjjkomfiaaDoM4
namespace Go.Proofs.Ytifkihjjkomfiaa.DoA
open Go.ChangeShapes Go.WideShapes Go.ChangeAt Go.RowKit Go.Maps
open Sl (Sl Own Off)
open OpenSl (nc)
open Dev Orm LawE MapP MapOk MapOkS OtB MapD MapGet MapW MapI EntI PutM DoI DoM DoM2 DoM3 DoM4
open OpB (Ok Bare Cell)
set_option linter.unusedVariables false

theorem mDo (w : World) (v : Value) (xs : List En) (h : Sl w 2 v xs.length (ec xs)) (hok : MOk xs) (k z y : Int) (ho : Ok (k, z, y)) :
    Calls Try.prog 91 #[v, .agg #[.int .i64 k, .int .i64 z, .int .i64 y]] w fun e w' => MQ w.heap.size (dx xs (k, z, y)) (dv xs (k, z, y)) (dc xs (k, z, y)) w' e ∧ Below w.heap.size w w' := by
  obtain ⟨hz1, hz2, hk⟩ := ho
  simp only at hz1 hz2 hk
  rcases hk with ⟨hk, h0⟩ | ⟨hk, hy0, hy1⟩ | ⟨hk, hy0, hy1⟩
  · unfold Bare at hk
    rcases hk with rfl | rfl
    · exact mGet w v xs h z y
    · exact mDrop w v xs h z y hok.ri hok.1
  · unfold Cell at hk
    rcases hk with rfl | rfl | rfl
    · exact mPut w v xs h z y hok.ri hok.1
    · exact mCheck w v xs h z y
    · by_cases hs : (z ∈ ks xs ∨ xs.length ≠ 11) ∧ vl xs z + y ≤ 999999
      · have e1 : dx xs (5, z, y) = pu xs z (vl xs z + y) := by
          show (if (z ∈ ks xs ∨ xs.length ≠ 11) ∧ vl xs z + y ≤ 999999 then pu xs z (vl xs z + y) else xs) = _
          rw [if_pos hs]
        have e2 : dv xs (5, z, y) = [vl xs z + y] := by
          show (if (z ∈ ks xs ∨ xs.length ≠ 11) ∧ vl xs z + y ≤ 999999 then [vl xs z + y] else []) = _
          rw [if_pos hs]
        have e3 : dc xs (5, z, y) = 0 := by
          show (if z ∈ ks xs ∨ xs.length ≠ 11 then (if vl xs z + y ≤ 999999 then (0 : Int) else 4) else 7) = _
          rw [if_pos hs.1, if_pos hs.2]
        rw [e1, e2, e3]
        exact mAdd w v xs h z y hok.ri hok.kv hok.1 ⟨hy0, hy1⟩ hs.1 hs.2
      · have e1 : dx xs (5, z, y) = xs := by
          show (if (z ∈ ks xs ∨ xs.length ≠ 11) ∧ vl xs z + y ≤ 999999 then pu xs z (vl xs z + y) else xs) = _
          rw [if_neg hs]
        have e2 : dv xs (5, z, y) = [] := by
          show (if (z ∈ ks xs ∨ xs.length ≠ 11) ∧ vl xs z + y ≤ 999999 then [vl xs z + y] else []) = _
          rw [if_neg hs]
        have e3 : dc xs (5, z, y) = if z ∈ ks xs ∨ xs.length ≠ 11 then 4 else 7 := by
          show (if z ∈ ks xs ∨ xs.length ≠ 11 then (if vl xs z + y ≤ 999999 then (0 : Int) else 4) else 7) = _
          by_cases hf : z ∈ ks xs ∨ xs.length ≠ 11
          · rw [if_pos hf, if_pos hf, if_neg (fun h => hs ⟨hf, h⟩)]
          · rw [if_neg hf, if_neg hf]
        rw [e1, e2, e3]
        exact mAddNo w v xs h z y hok.kv ⟨hy0, hy1⟩ hs
  · subst hk
    obtain ⟨m, rfl⟩ : ∃ m : Nat, y = m := ⟨y.toNat, by omega⟩
    exact mScan w v xs h z m (by omega) hok.1
theorem iDo (w : World) (lo g B : Nat) (xs : List En) (pv : Value) (ps : List Pc) (h : Wp w lo g B xs pv ps) (hok : MOk xs) (k z y : Int) (ho : Ok (k, z, y)) (hp : ps.length ≤ 15) :
    Calls Try.prog 60 #[.pointer (some ⟨g, 0, none⟩), .agg #[.int .i64 k, .int .i64 z, .int .i64 y]] w fun e w' => VQ w.heap.size (dv xs (k, z, y)) (dc xs (k, z, y)) w' e ∧ DQ lo g B xs (dx xs (k, z, y)) ps w' ∧ Below lo w w' := by
  obtain ⟨hz1, hz2, hk⟩ := ho
  simp only at hz1 hz2 hk
  rcases hk with ⟨hk, h0⟩ | ⟨hk, hy0, hy1⟩ | ⟨hk, hy0, hy1⟩
  · unfold Bare at hk
    rcases hk with rfl | rfl
    · exact doGet w lo g B xs pv ps h z y ⟨hz1, hz2⟩
    · exact doDrop w lo g B xs pv ps h z y ⟨hz1, hz2⟩ hok.ri hp
  · unfold Cell at hk
    rcases hk with rfl | rfl | rfl
    · exact doPut w lo g B xs pv ps h z y ⟨hz1, hz2⟩ hok.ri hok.1 ⟨hy0, hy1⟩ hp
    · exact doCheck w lo g B xs pv ps h z y ⟨hz1, hz2⟩
    · exact doAdd w lo g B xs pv ps h z y ⟨hz1, hz2⟩ hok.ri hok.kv hok.1 ⟨hy0, hy1⟩ hp
  · subst hk
    exact doScan w lo g B xs pv ps h z y ⟨hz1, hz2⟩ hok.ri hok.kv hok.1 ⟨hy0, hy1⟩

/-- What MapDo answers. -/
def ax (xs : List En) (o : Bk) : List En := if MOk xs ∧ Ok o then dx xs o else []
def av (xs : List En) (o : Bk) : List Int := if MOk xs ∧ Ok o then dv xs o else []
def ac (xs : List En) (o : Bk) : Int := if 4096 < xs.length then 2 else if MOk xs ∧ Ok o then dc xs o else 1
/-- .. in memory of the call's own, the map apart from the numbers. -/
def AQ (base : Nat) (ys : List En) (vs : List Int) (c : Int) (w : World) (e : Ending) : Prop := ∃ x o, e = .returned (.tuple #[x, o, .int .i64 c]) ∧ Hid (Own w base 2 x ys.length (ec ys) ∧ Own w base 1 o vs.length (nc vs) ∧ Apart x o)
theorem no_map (w : World) (base : Nat) : Own w base 2 (.slice none 0 0) ([] : List En).length (ec []) := ⟨none, 0, rfl, Nat.le_refl _, by unfold maxLen; omega, fun h => absurd h (by simp)⟩
theorem no_vals (w : World) (base : Nat) : Own w base 1 (.slice none 0 0) ([] : List Int).length (nc []) := ⟨none, 0, rfl, Nat.le_refl _, by unfold maxLen; omega, fun h => absurd h (by simp)⟩

set_option maxRecDepth 100000 in
set_option maxHeartbeats 1600000 in
theorem implDo (w : World) (v : Value) (xs : List En) (h : Sl w 2 v xs.length (ec xs)) (k z y : Int) :
    Calls Try.prog 13 #[v, .agg #[.int .i64 k, .int .i64 z, .int .i64 y]] w fun e w' => AQ w.heap.size (ax xs (k, z, y)) (av xs (k, z, y)) (ac xs (k, z, y)) w' e ∧ Below w.heap.size w w' := by
  obtain ⟨U, e1, hb, hsz, X⟩ := Box3.box3 w 30 (.int .i64 k) (.int .i64 z) (.int .i64 y)
  obtain ⟨M, eM⟩ : ∃ M, w.heap.size = M := ⟨_, rfl⟩
  rw [eM] at X
  have HX := Lib.hid X
  have HB := Lib.hid hb
  have HSZ := Lib.hid hb.size
  have HV := Lib.hid (h.below hb)
  obtain ⟨p, hp⟩ : ∃ p, decide (Ok (k, z, y)) = p := ⟨_, rfl⟩
  obtain ⟨q, hq⟩ : ∃ q, decide (MOk xs) = q := ⟨_, rfl⟩
  have HO := Lib.hid (show Calls Try.prog 58 #[.agg #[.int .i64 k, .int .i64 z, .int .i64 y]] U fun e w' => e = .returned (.bool p) ∧ Below U.heap.size U w' from hp ▸ OpB.implOk U k z y)
  have HMF := Lib.hid (fun u (hu : Sl u 2 v xs.length (ec xs)) => mapFault u v xs hu p q hq)
  obtain ⟨x0, x1, x2, _, _, _⟩ := X
  obtain ⟨a, cap, rfl, _, _⟩ := h.form
  by_cases hgood : ¬ 4096 < xs.length ∧ p = true ∧ q = true
  · obtain ⟨hl, rfl, rfl⟩ := hgood
    have hok : MOk xs := of_decide_eq_true hq
    have hop : Ok (k, z, y) := of_decide_eq_true hp
    have e1x : ax xs (k, z, y) = dx xs (k, z, y) := if_pos ⟨hok, hop⟩
    have e2x : av xs (k, z, y) = dv xs (k, z, y) := if_pos ⟨hok, hop⟩
    have e3x : ac xs (k, z, y) = dc xs (k, z, y) := by unfold ac; rw [if_neg hl, if_pos ⟨hok, hop⟩]
    have e4x : mf xs true true = 0 := by unfold mf; rw [if_neg hl]; simp
    rw [e1x, e2x, e3x]
    rw [e4x] at HMF
    have HW := Lib.hid (fun u x (hx : Sl u 2 x xs.length (ec xs)) => workOn u x xs hx hok)
    have HD := Lib.hid (fun (u : World) (lo g B : Nat) (hw : Wk u lo g B xs (.slice none 0 0)) => iDo u lo g B xs (.slice none 0 0) [] (Wp.none hw) hok k z y hop (by simp))
    have HDO := Lib.hid (dx_ok hok hop)
    have HEN := Lib.hid (fun (u : World) (lo g B : Nat) (pv : Value) (hw : Wk u lo g B (dx xs (k, z, y)) pv) => entries u lo g B _ pv hw HDO.out.ri HDO.out.kv HDO.out.1)
    clear e1x e2x e3x e4x hl hq hp hok hop h hb hsz
    generalize dx xs (k, z, y) = ys at *
    generalize dv xs (k, z, y) = vs at *
    generalize dc xs (k, z, y) = C at *
    generalize xs.length = n at *
    go_enter Try.func13, Try.ntmps13
    go_wp2_with fail
    clear eM e1
    refine HO.out.mono ?_
    rintro e w1 ⟨rfl, hb1⟩
    have HB1 := Lib.hid (HB.out.trans (hb1.mono HSZ.out))
    have HX1 := Lib.hid (HX.out.below hb1)
    have HV1 := Lib.hid (HV.out.below hb1)
    clear hb1 x0 x1 x2
    go_wp2_with fail
    refine (HMF.out _ HV1.out).mono ?_
    rintro e w2 ⟨rfl, hb2⟩
    have HB2 := Lib.hid (HB1.out.trans (hb2.mono HB1.out.size))
    have HX2 := Lib.hid (HX1.out.below hb2)
    have HV2 := Lib.hid (HV1.out.below hb2)
    clear hb2
    go_wp2_with fail
    refine (HW.out _ _ HV2.out).mono ?_
    rintro e w3 ⟨g, B, rfl, hwk, hb3⟩
    have HWK := Lib.hid hwk
    have HB3 := Lib.hid (HB2.out.trans (hb3.mono HB2.out.size))
    have HX3 := Lib.hid (HX2.out.below hb3)
    have HS2 := Lib.hid HB2.out.size
    obtain ⟨x0, x1, x2, _, _, _⟩ := HX2.out.below hb3
    clear hb3 hwk
    go_wp2_with fail
    refine (HD.out _ _ _ _ HWK.out).mono ?_
    rintro e w4 ⟨⟨o, rfl, ho⟩, ⟨qs, _, _, pv, hwp⟩, hb4⟩
    have HO4 := Lib.hid ho
    have HW4 := Lib.hid hwp.wk
    have HB4 := Lib.hid (HB3.out.trans (hb4.mono HS2.out))
    obtain ⟨a4, cap4, rfl, _, _⟩ := ho.sl.form
    clear hb4 hwp ho x0 x1 x2
    go_wp2_with fail
    refine (HEN.out _ _ _ _ _ HW4.out).mono ?_
    rintro e w5 ⟨r5, rfl, hrow, hb5⟩
    have HO5 := Lib.hid (HO4.out.below hb5)
    have HE5 := Lib.hid (es_own hrow)
    have HB5 := Lib.hid (HB4.out.trans (hb5.mono HB4.out.size))
    have HAP := Lib.hid (apart_of HO4.out.sl (by decide) (es_own hrow) (Nat.le_refl _)).symm
    clear hb5 hrow
    go_wp2_with fail
    go_ret3
    exact ⟨⟨_, _, rfl, Lib.hid ⟨HE5.out.base HB4.out.size, HO5.out.base HB3.out.size, HAP⟩⟩, HB5.out⟩
  · have e1x : ax xs (k, z, y) = [] := if_neg (fun hh => hgood ⟨by have := hh.1.1; omega, by rw [← hp]; exact decide_eq_true hh.2, by rw [← hq]; exact decide_eq_true hh.1⟩)
    have e2x : av xs (k, z, y) = [] := if_neg (fun hh => hgood ⟨by have := hh.1.1; omega, by rw [← hp]; exact decide_eq_true hh.2, by rw [← hq]; exact decide_eq_true hh.1⟩)
    obtain ⟨C, hC, e3x, e4x⟩ : ∃ C : Int, C ≠ 0 ∧ ac xs (k, z, y) = C ∧ mf xs p q = C := by
      unfold ac mf
      by_cases hl : 4096 < xs.length
      · exact ⟨2, by decide, by rw [if_pos hl], by rw [if_pos hl]⟩
      · refine ⟨1, by decide, ?_, ?_⟩
        · rw [if_neg hl, if_neg (fun hh => hgood ⟨hl, by rw [← hp]; exact decide_eq_true hh.2, by rw [← hq]; exact decide_eq_true hh.1⟩)]
        · rw [if_neg hl, if_neg (fun hh => hgood ⟨hl, hh⟩)]
    rw [e1x, e2x, e3x]
    rw [e4x] at HMF
    have b1 : (C != 0) = true := bne_iff_ne.2 hC
    have b2 : decide (C ≠ 0) = true := decide_eq_true hC
    clear e1x e2x e3x e4x hq hp h hb hsz hgood hC
    generalize xs.length = n at *
    go_enter Try.func13, Try.ntmps13
    go_wp2_with fail
    clear eM e1
    refine HO.out.mono ?_
    rintro e w1 ⟨rfl, hb1⟩
    have HB1 := Lib.hid (HB.out.trans (hb1.mono HSZ.out))
    have HV1 := Lib.hid (HV.out.below hb1)
    clear hb1 x0 x1 x2
    go_wp2_with fail
    refine (HMF.out _ HV1.out).mono ?_
    rintro e w2 ⟨rfl, hb2⟩
    have HB2 := Lib.hid (HB1.out.trans (hb2.mono HB1.out.size))
    clear hb2
    go_wp2_with fail
    go_ret3
    exact ⟨⟨_, _, rfl, Lib.hid ⟨no_map _ _, no_vals _ _, apart_empty _ _ _⟩⟩, HB2.out⟩
end Go.Proofs.Ytifkihjjkomfiaa.DoA
