/-
  What is proved: the program's and the model's word on whether a hidden map is right are the plain one (contracts for the walks).
-/
import Derived.Test.YtealdpkgfmokpaaRows
import Derived.Test.YtealdpkgfmokpaaEncP
import Derived.Test.YtealdpkgfmokpaaOkS2
import Derived.BigQuiet
namespace Go.Proofs.Ytealdpkgfmokpaa.EokE
open Go.ChangeShapes Go.WideShapes Go.ChangeAt Go.RowKit
open Sl (Sl Own Off)
open OpenSl (tc nc pc)
open Dev Orm Wy Box3 OkP EncP
set_option linter.unusedVariables false

/-- Key i is nought, or one that does not stand ahead of it. -/
def kg (zs : List Int) (i : Nat) : Prop := 0 ≤ zs.getD i 0 ∧ zs.getD i 0 ≤ 9999 ∧ (0 < zs.getD i 0 → zs.getD i 0 ∉ zs.take i)
/-- A hidden map. -/
structure EOk (m : Em) : Prop where
  len : m.ks.length = 11
  tree : OkP.Ok m.o
  key : ∀ i, i < 11 → kg m.ks i
theorem sl_takeN {w : World} {a : Option Addr} {n cap : Nat} {xs : List Int} (h : Sl w 1 (.slice a n cap) n (nc xs)) (k : Nat) (hk : k ≤ n) (hx : xs.length = n) : Sl w 1 (.slice a k cap) (xs.take k).length (nc (xs.take k)) := by
  obtain ⟨a', cap', e, h1, h2, h3⟩ := h
  obtain ⟨rfl, rfl⟩ : a = a' ∧ cap = cap' := by simpa using e
  rw [List.length_take, Nat.min_eq_left (by omega)]
  refine ⟨a, cap, rfl, by omega, h2, fun hn => ?_⟩
  obtain ⟨b, o, ha, hc⟩ := h3 (by omega)
  refine ⟨b, o, ha, fun j hj => ?_⟩
  rw [hc j (by omega)]
  unfold nc
  rw [List.getD_eq_getElem?_getD, List.getD_eq_getElem?_getD, List.getElem?_take_of_lt (by omega)]

set_option maxRecDepth 100000 in
set_option maxHeartbeats 1600000 in
theorem impl (w : World) (v : Value) (m : Em) (h : RdE w v m) (hn : m.o.st.length ≤ 1048576) (q : Bool) (hq : q = true ↔ EOk m) :
    Calls Try.prog 53 #[v] w fun e w' => e = .returned (.bool q) ∧ Below w.heap.size w w' := by
  obtain ⟨q1, hq1⟩ := OkV.ask (OkP.Ok m.o)
  have HNO := Lib.hid (show ¬ EOk m → q = false from fun hn => by cases q with | false => rfl | true => exact absurd (hq.1 rfl) hn)
  have HYES := Lib.hid hq.2
  obtain ⟨k, p, s, b, rfl, h1, h2⟩ := h
  obtain ⟨U, e1, hb, hz, X⟩ := box4 w 77 k p s b
  obtain ⟨G, eG⟩ : ∃ G, w.heap.size = G := ⟨_, rfl⟩
  have HB := Lib.hid hb
  have HG := Lib.hid eG
  have HV := Lib.hid (fun u x (hx : Rd u x m.o) => OkS2.impl u x m.o hx hn q1 hq1)
  have HK := Lib.hid (h1.below hb)
  have HR := Lib.hid (h2.below hb)
  rw [eG] at X
  have HX := Lib.hid X
  obtain ⟨c0, c1, c2, c3, _, _, _, _⟩ := X
  obtain ⟨ka, kc, rfl, k1, k2⟩ := h1.form
  unfold maxLen at k2
  clear h1 h2 hb hz hq
  by_cases hl : m.ks.length = 11
  case neg =>
    obtain rfl := HNO.out (fun hh => hl hh.len)
    have d1 : ((m.ks.length : Int) != 11) = true := bne_iff_ne.2 (by omega)
    clear hq1 hl
    go_enter Try.func53, Try.ntmps53
    go_wp2_with fail
    go_ret
    exact ⟨rfl, by first | exact HB.out | (rw [← HG.out]; exact HB.out)⟩
  have HL := Lib.hid hl
  have HLT := Lib.hid (fun j (hj : j ≤ 11) => show (m.ks.take j).length = j by rw [List.length_take]; omega)
  rw [hl] at k1 c0 e1 HX HK ⊢
  cases q1 with
  | false =>
    obtain rfl := HNO.out (fun hh => by have := hq1.2 hh.tree; cases this)
    clear hq1 hl
    go_enter Try.func53, Try.ntmps53
    go_wp2_with fail
    clear e1 eG
    refine (HV.out _ _ HR.out).mono ?_
    rintro e w1 ⟨rfl, hb⟩
    have HB1 := Lib.hid (HB.out.trans (hb.mono HB.out.size))
    clear hb
    go_wp2_with fail
    go_ret
    exact ⟨rfl, HB1.out⟩
  | true =>
    have HOK := Lib.hid (hq1.1 rfl)
    clear hq1 hl
    go_enter Try.func53, Try.ntmps53
    go_wp2_with fail
    clear e1 eG
    refine (HV.out _ _ HR.out).mono ?_
    rintro e w1 ⟨rfl, hb⟩
    have HB1 := Lib.hid hb
    have HX1 := Lib.hid (HX.out.below hb)
    clear hb c0 c1 c2 c3
    obtain ⟨c0, c1, c2, c3, _, _, _, _⟩ := HX1.out
    go_wp2_with fail
    go_loopw [18] (fun i wz => ∃ j : Nat, j ≤ 11 ∧ i = .int .i64 j ∧ w1 = wz ∧ Hid (∀ i, i < j → kg m.ks i)) (fun i _ => 11 - (intOf i).toNat)
    case atStart => exact ⟨0, by omega, rfl, rfl, Lib.hid fun i hi => by omega⟩
    case round =>
      obtain ⟨j, hj, rfl, rfl, HJ⟩ := hrel
      by_cases hlt : j < 11
      · obtain ⟨b1, o1, hka, hc⟩ := (HK.out.below HB1.out).at (by omega)
        subst hka
        have e0 := hc j (by omega)
        unfold nc at e0
        have HT := Lib.hid (contains w1 _ (m.ks.take j) (m.ks.getD j 0) (sl_takeN (HK.out.below HB1.out) j (by omega) HL.out))
        have HBAD := Lib.hid (show ¬ kg m.ks j → q = false from fun hb => HNO.out fun hh => hb (hh.key j hlt))
        have HNX := Lib.hid (show kg m.ks j → ∀ i, i < j + 1 → kg m.ks i from fun hg i hi => by
          by_cases e : i = j
          · rw [e]; exact hg
          · exact HJ.out i (by omega))
        unfold kg at HBAD HNX
        clear hc
        generalize m.ks.getD j 0 = z at *
        by_cases hz : z = 0
        · subst hz
          have HN2 := Lib.hid (HNX.out ⟨by omega, by omega, fun h => by omega⟩)
          go_wp2
          go_roundw
          case rel => exact ⟨j + 1, by omega, by go_num, by trivial, Lib.hid HN2.out⟩
          case measure => simp [intOf]; omega
        have g1 : (z == 0) = false := beq_eq_false_iff_ne.2 hz
        by_cases hz1 : z < 1
        · obtain rfl := HBAD.out (fun hh => by omega)
          clear hz
          go_wp2_with fail
          go_ret
          exact ⟨rfl, HB.out.trans (HB1.out.mono HB.out.size)⟩
        by_cases hz2 : 9999 < z
        · obtain rfl := HBAD.out (fun hh => by omega)
          have hz3 : z > 9999 := hz2
          clear hz
          go_wp2_with fail
          go_ret
          exact ⟨rfl, HB.out.trans (HB1.out.mono HB.out.size)⟩
        have hz3 : ¬ z > 9999 := hz2
        have hjc : j ≤ kc := by omega
        have HZ := Lib.hid (show 0 < z ∧ z ≤ 9999 by omega)
        clear hz
        go_wp2_with fail
        refine HT.out.mono ?_
        rintro e w2 ⟨rfl, rfl⟩
        by_cases hm : z ∈ m.ks.take j
        · rw [decide_eq_true hm]
          obtain rfl := HBAD.out (fun hh => hh.2.2 HZ.out.1 hm)
          clear hm
          go_wp2_with fail
          go_ret
          exact ⟨rfl, HB.out.trans (HB1.out.mono HB.out.size)⟩
        · rw [decide_eq_false hm]
          have HN2 := Lib.hid (HNX.out ⟨by have := HZ.out; omega, HZ.out.2, fun _ => hm⟩)
          clear hm
          go_wp2
          go_roundw
          case rel => exact ⟨j + 1, by omega, by go_num, by trivial, Lib.hid HN2.out⟩
          case measure => simp [intOf]; omega
      · obtain rfl := HYES.out ⟨HL.out, HOK.out, fun i hi => HJ.out i (by omega)⟩
        go_wp2
        go_ret
        exact ⟨rfl, HB.out.trans (HB1.out.mono HB.out.size)⟩
set_option maxRecDepth 100000 in
set_option maxHeartbeats 1600000 in
theorem spec (w : World) (v : Value) (m : Em) (h : RdE w v m) (q : Bool) (hq : q = true ↔ EOk m) :
    Calls Try.prog 51 #[v] w fun e w' => e = .returned (.bool q) ∧ Below w.heap.size w w' := by
  obtain ⟨q1, hq1⟩ := OkV.ask (OkP.Ok m.o)
  have HNO := Lib.hid (show ¬ EOk m → q = false from fun hn => by cases q with | false => rfl | true => exact absurd (hq.1 rfl) hn)
  have HYES := Lib.hid hq.2
  obtain ⟨k, p, s, b, rfl, h1, h2⟩ := h
  obtain ⟨U, e1, hb, hz, X⟩ := box4 w 77 k p s b
  obtain ⟨G, eG⟩ : ∃ G, w.heap.size = G := ⟨_, rfl⟩
  have HB := Lib.hid hb
  have HG := Lib.hid eG
  have HV := Lib.hid (fun u x (hx : Rd u x m.o) => OkS2.spec u x m.o hx q1 hq1)
  have HK := Lib.hid (h1.below hb)
  have HR := Lib.hid (h2.below hb)
  rw [eG] at X
  have HX := Lib.hid X
  obtain ⟨c0, c1, c2, c3, _, _, _, _⟩ := X
  obtain ⟨ka, kc, rfl, k1, k2⟩ := h1.form
  unfold maxLen at k2
  clear h1 h2 hb hz hq
  by_cases hl : m.ks.length = 11
  case neg =>
    obtain rfl := HNO.out (fun hh => hl hh.len)
    have d1 : ((m.ks.length : Int) != 11) = true := bne_iff_ne.2 (by omega)
    clear hq1 hl
    go_enter Try.func51, Try.ntmps51
    go_wp2_with fail
    go_ret
    exact ⟨rfl, by first | exact HB.out | (rw [← HG.out]; exact HB.out)⟩
  have HL := Lib.hid hl
  rw [hl] at k1 c0 e1 HX HK ⊢
  cases q1 with
  | false =>
    obtain rfl := HNO.out (fun hh => by have := hq1.2 hh.tree; cases this)
    clear hq1 hl
    go_enter Try.func51, Try.ntmps51
    go_wp2_with fail
    clear e1 eG
    refine (HV.out _ _ HR.out).mono ?_
    rintro e w1 ⟨rfl, hb⟩
    have HB1 := Lib.hid (HB.out.trans (hb.mono HB.out.size))
    clear hb
    go_wp2_with fail
    go_ret
    exact ⟨rfl, HB1.out⟩
  | true =>
    have HOK := Lib.hid (hq1.1 rfl)
    clear hq1 hl
    go_enter Try.func51, Try.ntmps51
    go_wp2_with fail
    clear e1 eG
    refine (HV.out _ _ HR.out).mono ?_
    rintro e w1 ⟨rfl, hb⟩
    have HB1 := Lib.hid hb
    clear hb c0 c1 c2 c3
    obtain ⟨c0, c1, c2, c3, _, _, _, _⟩ := HX.out.below HB1.out
    go_wp2_with fail
    clear c0 c1 c2 c3
    go_loopw [3] (fun i wz => ∃ (j : Nat) (wr : World), wr = wz ∧ j ≤ 11 ∧ i = .int .i64 j ∧ Hid (Below U.heap.size U wr ∧ ∀ i, i < j → kg m.ks i)) (fun i _ => 11 - (intOf i).toNat)
    case atStart => exact ⟨0, _, rfl, by omega, rfl, Lib.hid ⟨HB1.out, fun i hi => by omega⟩⟩
    case round =>
      obtain ⟨j, wr, rfl, hj, rfl, HJ⟩ := hrel
      obtain ⟨c0, c1, c2, c3, _, _, _, _⟩ := HX.out.below HJ.out.1
      by_cases hlt : j < 11
      · obtain ⟨b1, o1, hka, hc⟩ := (HK.out.below HJ.out.1).at (by omega)
        subst hka
        have e0 := hc j (by omega)
        unfold nc at e0
        have HT := Lib.hid (fun n9 => OkS.l08In (wr.drewN n9) _ (m.ks.take j) (m.ks.getD j 0) ((sl_takeN (HK.out.below HJ.out.1) j (by omega) HL.out).below (SameO.below_drawn _ _)))
        have HI := Lib.hid (fun u => l01In (m.ks.getD j 0) 0 9999 u)
        have HBAD := Lib.hid (show ¬ kg m.ks j → q = false from fun hb => HNO.out fun hh => hb (hh.key j hlt))
        have HNX := Lib.hid (show kg m.ks j → ∀ i, i < j + 1 → kg m.ks i from fun hg i hi => by
          by_cases e : i = j
          · rw [e]; exact hg
          · exact HJ.out.2 i (by omega))
        unfold kg at HBAD HNX
        have hjc : j ≤ kc := by omega
        clear hc
        generalize m.ks.getD j 0 = z at *
        by_cases hr : 0 ≤ z ∧ z ≤ 9999
        case neg =>
          obtain rfl := HBAD.out (fun hh => hr ⟨hh.1, hh.2.1⟩)
          rw [decide_eq_false hr] at HI
          clear hr
          go_wp2
          go_quiet ((go_at_call 60; with_reducible exact Calls.quiet_of_same (HI.out _)))
          go_wp2
          go_ret
          exact ⟨rfl, HB.out.trans ((below_drewN HJ.out.1 _).mono HB.out.size)⟩
        rw [decide_eq_true hr] at HI
        by_cases hz : z = 0
        · subst hz
          have HN2 := Lib.hid (HNX.out ⟨by omega, by omega, fun h => by omega⟩)
          go_wp2
          go_quiet ((go_at_call 60; with_reducible exact Calls.quiet_of_same (HI.out _)))
          go_wp2
          go_roundw
          case rel => exact ⟨j + 1, _, rfl, by omega, by go_num, Lib.hid ⟨below_drewN HJ.out.1 _, HN2.out⟩⟩
          case measure => simp [intOf]; omega
        have hz1 : 0 < z := by omega
        have hz2 : z > 0 := hz1
        have hz3 : decide (0 < z) = true := decide_eq_true hz1
        have HZ := Lib.hid (And.intro hz1 hr.2)
        clear hz
        by_cases hm : z ∈ m.ks.take j
        · rw [decide_eq_true hm] at HT
          obtain rfl := HBAD.out (fun hh => hh.2.2 HZ.out.1 hm)
          clear hm hr
          go_wp2
          go_quiet (first | (go_at_call 60; with_reducible exact Calls.quiet_of_same (HI.out _)) | (go_at_call 97; with_reducible exact Calls.quiet_of_same (HT.out _)))
          go_wp2
          go_ret
          exact ⟨rfl, HB.out.trans ((below_drewN HJ.out.1 _).mono HB.out.size)⟩
        · rw [decide_eq_false hm] at HT
          have HN2 := Lib.hid (HNX.out ⟨by have := HZ.out; omega, HZ.out.2, fun _ => hm⟩)
          clear hm hr
          go_wp2
          go_quiet (first | (go_at_call 60; with_reducible exact Calls.quiet_of_same (HI.out _)) | (go_at_call 97; with_reducible exact Calls.quiet_of_same (HT.out _)))
          go_wp2
          go_roundw
          case rel => exact ⟨j + 1, _, rfl, by omega, by go_num, Lib.hid ⟨below_drewN HJ.out.1 _, HN2.out⟩⟩
          case measure => simp [intOf]; omega
      · obtain rfl := HYES.out ⟨HL.out, HOK.out, fun i hi => HJ.out.2 i (by omega)⟩
        go_wp2
        go_ret
        exact ⟨rfl, HB.out.trans (HJ.out.1.mono HB.out.size)⟩
end Go.Proofs.Ytealdpkgfmokpaa.EokE
