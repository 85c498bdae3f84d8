/-
  What is proved: the program's and the model's word on where a block is are the plain one (contracts for the walks).
-/
import Derived.Test.YtealdpkgfmokpaaRows
import Derived.Test.YtealdpkgfmokpaaVlW
namespace Go.Proofs.Ytealdpkgfmokpaa.WhW
open Go.ChangeShapes Go.WideShapes Go.ChangeAt Go.RowKit Go.Maps
open Sl (Sl Own Off)
open OpenSl (tc nc pc)
open Dev Orm Wy Box3 OkP OkI2 OkV
set_option linter.unusedVariables false

/-- The first bucket that has block z. -/
def fb (o : Om) (z : Int) : Option Nat := (List.range 15).find? (fun j => decide (z ∈ ids (o.bk.getD j [])))
theorem fb_some {o : Om} {z : Int} {j : Nat} (hj : j < 15) (h : z ∈ ids (o.bk.getD j [])) (hn : ∀ j', j' < j → z ∉ ids (o.bk.getD j' [])) : fb o z = some j := by
  unfold fb
  rw [List.find?_range_eq_some]
  refine ⟨decide_eq_true h, List.mem_range.2 hj, fun j' hj' => ?_⟩
  rw [decide_eq_false (hn j' hj')]
  rfl
theorem fb_none {o : Om} {z : Int} (h : ∀ j, j < 15 → z ∉ ids (o.bk.getD j [])) : fb o z = none := by
  unfold fb
  rw [List.find?_eq_none]
  intro j hj
  simpa using h j (List.mem_range.1 hj)
/-- What both calls WhereIs answer. -/
def wa (o : Om) (q : Bool) (z : Int) : Int := if q = true then if I12 z then if z ∈ ids o.st then -1 else match fb o z with | some j => (j : Int) | none => 0 else 0 else 0
def wc (o : Om) (q : Bool) (z : Int) : Int := if q = true then if I12 z then if z ∈ ids o.st then 0 else match fb o z with | some _ => 0 | none => 5 else 4 else 1
/-- .. as facts. -/
structure Ans (o : Om) (q : Bool) (z A C : Int) : Prop where
  bad : q = false → A = 0 ∧ C = 1
  out : q = true → ¬ I12 z → A = 0 ∧ C = 4
  stash : q = true → I12 z → z ∈ ids o.st → A = -1 ∧ C = 0
  tree : q = true → I12 z → z ∉ ids o.st → ∀ j : Nat, j < 15 → z ∈ ids (o.bk.getD j []) → (∀ j', j' < j → z ∉ ids (o.bk.getD j' [])) → A = j ∧ C = 0
  none : q = true → I12 z → z ∉ ids o.st → (∀ j, j < 15 → z ∉ ids (o.bk.getD j [])) → A = 0 ∧ C = 5
theorem ans (o : Om) (q : Bool) (z : Int) : Ans o q z (wa o q z) (wc o q z) := by
  refine ⟨fun h => ?_, fun h h2 => ?_, fun h h2 h3 => ?_, fun h h2 h3 j hj hm hn => ?_, fun h h2 h3 hn => ?_⟩ <;> unfold wa wc <;> subst h
  · exact ⟨rfl, rfl⟩
  · rw [if_pos rfl, if_pos rfl, if_neg h2, if_neg h2]; exact ⟨rfl, rfl⟩
  · rw [if_pos rfl, if_pos rfl, if_pos h2, if_pos h2, if_pos h3, if_pos h3]; exact ⟨rfl, rfl⟩
  · rw [if_pos rfl, if_pos rfl, if_pos h2, if_pos h2, if_neg h3, if_neg h3, fb_some hj hm hn]; exact ⟨rfl, rfl⟩
  · rw [if_pos rfl, if_pos rfl, if_pos h2, if_pos h2, if_neg h3, if_neg h3, fb_none hn]; exact ⟨rfl, rfl⟩

set_option maxRecDepth 100000 in
set_option maxHeartbeats 1600000 in
theorem impl (w : World) (v : Value) (o : Om) (h : Rd w v o) (hn : o.st.length ≤ 1048576) (q : Bool) (hq : q = true ↔ Ok o) (z : Int) :
    Calls Try.prog 18 #[v, .int .i64 z] w fun e w' => e = .returned (.tuple #[.int .i64 (wa o q z), .int .i64 (wc o q z)]) ∧ Below w.heap.size w w' := by
  have HV := Lib.hid (fun u x (hx : Rd u x o) => OkS2.impl u x o hx hn q hq)
  have HQ := Lib.hid hq
  have HAN := Lib.hid (ans o q z)
  obtain ⟨A, eA⟩ : ∃ A, wa o q z = A := ⟨_, rfl⟩
  obtain ⟨C, eC⟩ : ∃ C, wc o q z = C := ⟨_, rfl⟩
  rw [eA, eC] at HAN ⊢
  have HID := Lib.hid (fun u => isId z u)
  obtain ⟨p, s, b, rfl, h1, h2, h3⟩ := h
  obtain ⟨U, e1, hb, hz, X⟩ := box3 w 31 p s b
  obtain ⟨G, eG⟩ : ∃ G, w.heap.size = G := ⟨_, rfl⟩
  have HB := Lib.hid hb
  have HR := Lib.hid (show Rd U (.agg #[p, s, b]) o from ⟨p, s, b, rfl, h1.below hb, h2.below hb, h3.below hb⟩)
  have HW2 := Lib.hid (h2.below hb)
  obtain ⟨vs, hv, hi⟩ := h3
  have HWB := Lib.hid (hv.below hb)
  have HWI := Lib.hid (fun j hj => (hi j hj).below hb)
  rw [eG] at X
  have HX := Lib.hid X
  obtain ⟨c0, c1, c2, _, _, _⟩ := X
  obtain ⟨sa, sp, rfl, _, es2⟩ := h2.form
  obtain ⟨ba, bp, rfl, _, eb2⟩ := hv.form
  unfold maxLen at es2 eb2
  clear h1 h2 hv hi hb hz hq eA eC
  cases q with
  | false =>
    obtain ⟨rfl, rfl⟩ := HAN.out.bad rfl
    go_enter Try.func18, Try.ntmps18
    go_wp2_with fail
    clear e1 eG
    refine (HV.out _ _ HR.out).mono ?_
    rintro e w1 ⟨rfl, hb⟩
    have HB1 := Lib.hid (HB.out.trans (hb.mono HB.out.size))
    clear hb
    go_wp2
    go_ret2
    exact ⟨rfl, HB1.out⟩
  | true =>
    have HOK := Lib.hid (HQ.out.1 rfl)
    by_cases hi : I12 z
    case neg =>
      obtain ⟨rfl, rfl⟩ := HAN.out.out rfl hi
      rw [decide_eq_false hi] at HID
      clear hi
      go_enter Try.func18, Try.ntmps18
      go_wp2_with fail
      clear e1 eG
      refine (HV.out _ _ HR.out).mono ?_
      rintro e w1 ⟨rfl, hb⟩
      have HB1 := Lib.hid (HB.out.trans (hb.mono HB.out.size))
      clear hb
      go_wp2_with fail
      refine (HID.out _).mono ?_
      rintro e w2 ⟨rfl, rfl⟩
      go_wp2
      go_ret2
      exact ⟨rfl, HB1.out⟩
    rw [decide_eq_true hi] at HID
    have HS1 := Lib.hid (HAN.out.stash rfl hi)
    have HT1 := Lib.hid (HAN.out.tree rfl hi)
    have HN1 := Lib.hid (HAN.out.none rfl hi)
    have hl2 := HOK.out.bks
    rw [hl2] at HWB c2 e1 HR HX ⊢
    have HL2 := Lib.hid hl2
    clear hi HAN hl2
    go_enter Try.func18, Try.ntmps18
    go_wp2_with fail
    clear e1 eG
    refine (HV.out _ _ HR.out).mono ?_
    rintro e w1 ⟨rfl, hb⟩
    have HB1 := Lib.hid hb
    have HX1 := Lib.hid (HX.out.below hb)
    clear hb c0 c1 c2
    obtain ⟨c0, c1, c2, _, _, _⟩ := HX1.out
    go_wp2_with fail
    refine (HID.out _).mono ?_
    rintro e w2 ⟨rfl, rfl⟩
    go_wp2_with fail
    refine (Idx.indexOf_ge z _ _ o.st (HW2.out.below HB1.out)).mono ?_
    rintro e w2 ⟨⟨r, rfl, hr⟩, hb⟩
    have HB2 := Lib.hid (HB1.out.trans (hb.mono HB1.out.size))
    have HX2 := Lib.hid (HX1.out.below hb)
    clear hb c0 c1 c2
    by_cases hm : z ∈ ids o.st
    · rw [decide_eq_true hm] at hr
      have hr2 : decide (0 ≤ r) = true := hr
      obtain ⟨rfl, rfl⟩ := HS1.out hm
      have HF := Lib.hid (HB.out.trans (HB2.out.mono HB.out.size))
      clear hm
      go_wp2
      go_ret2
      exact ⟨rfl, HF.out⟩
    rw [decide_eq_false hm] at hr
    have hr2 : decide (0 ≤ r) = false := hr
    have HM := Lib.hid hm
    clear hm
    obtain ⟨c0, c1, c2, _, _, _⟩ := HX2.out
    go_wp2
    clear hr hr2
    clear c0 c1 c2
    go_loopw [25] (fun i wz => ∃ (j : Nat) (wr : World), wr = wz ∧ j ≤ 15 ∧ i = .int .i64 j ∧ Hid (Below U.heap.size U wr ∧ ∀ j', j' < j → z ∉ ids (o.bk.getD j' []))) (fun i _ => 15 - (intOf i).toNat)
    case atStart => exact ⟨0, _, rfl, by omega, rfl, Lib.hid ⟨HB2.out, fun j hj => by omega⟩⟩
    case round =>
      obtain ⟨j, wr, rfl, hj, rfl, HJ⟩ := hrel
      by_cases hlt : j < 15
      · obtain ⟨b6, o6, hba, hc⟩ := (HWB.out.below HJ.out.1).at (by omega)
        subst hba
        have e0 := hc j (by omega)
        have HI := Lib.hid ((HWI.out j (by rw [HL2.out]; exact hlt)).below HJ.out.1)
        obtain ⟨a2, cap2, ev, _, _⟩ := HI.out.form
        rw [ev] at e0 HI
        have HTJ := Lib.hid (fun hm => HT1.out HM.out j hlt hm HJ.out.2)
        clear hc ev
        generalize ed : o.bk.getD j [] = xs at *
        have ED := Lib.hid ed
        clear ed
        go_wp2_with fail
        refine (Idx.indexOf_ge z wr _ xs HI.out).mono ?_
        rintro e w3 ⟨⟨r3, rfl, hr3⟩, hb⟩
        have HB3 := Lib.hid (HJ.out.1.trans (hb.mono HJ.out.1.size))
        clear hb
        by_cases hm : z ∈ ids xs
        · rw [decide_eq_true hm] at hr3
          have hr4 : decide (0 ≤ r3) = true := hr3
          obtain ⟨rfl, rfl⟩ := HTJ.out hm
          have HF := Lib.hid (HB.out.trans (HB3.out.mono HB.out.size))
          clear hm
          go_wp2
          go_ret2
          exact ⟨rfl, HF.out⟩
        · rw [decide_eq_false hm] at hr3
          have hr4 : decide (0 ≤ r3) = false := hr3
          have HN := Lib.hid (show ∀ j', j' < j + 1 → z ∉ ids (o.bk.getD j' []) from fun j' hj' => by
            by_cases ej : j' = j
            · rw [ej, ED.out]; exact hm
            · exact HJ.out.2 j' (by omega))
          clear hm
          go_wp2
          go_roundw
          case rel => exact ⟨j + 1, _, rfl, by omega, by go_num, Lib.hid ⟨HB3.out, HN.out⟩⟩
          case measure => simp [intOf]; omega
      · obtain ⟨rfl, rfl⟩ := HN1.out HM.out (fun j' hj' => HJ.out.2 j' (by omega))
        have HF := Lib.hid (HB.out.trans (HJ.out.1.mono HB.out.size))
        go_wp2
        go_ret2
        exact ⟨rfl, HF.out⟩

set_option maxRecDepth 100000 in
set_option maxHeartbeats 1600000 in
theorem spec (w : World) (v : Value) (o : Om) (h : Rd w v o) (q : Bool) (hq : q = true ↔ Ok o) (z : Int) :
    Calls Try.prog 17 #[v, .int .i64 z] w fun e w' => e = .returned (.tuple #[.int .i64 (wa o q z), .int .i64 (wc o q z)]) ∧ Below w.heap.size w w' := by
  have HV := Lib.hid (fun u x (hx : Rd u x o) => OkS2.spec u x o hx q hq)
  have HQ := Lib.hid hq
  have HAN := Lib.hid (ans o q z)
  obtain ⟨A, eA⟩ : ∃ A, wa o q z = A := ⟨_, rfl⟩
  obtain ⟨C, eC⟩ : ∃ C, wc o q z = C := ⟨_, rfl⟩
  rw [eA, eC] at HAN ⊢
  have HID := Lib.hid (fun u => l01In z 0 11 u)
  obtain ⟨p, s, b, rfl, h1, h2, h3⟩ := h
  obtain ⟨U, e1, hb, hz, X⟩ := box3 w 31 p s b
  obtain ⟨G, eG⟩ : ∃ G, w.heap.size = G := ⟨_, rfl⟩
  have HB := Lib.hid hb
  have HR := Lib.hid (show Rd U (.agg #[p, s, b]) o from ⟨p, s, b, rfl, h1.below hb, h2.below hb, h3.below hb⟩)
  have HW2 := Lib.hid (h2.below hb)
  obtain ⟨vs, hv, hi⟩ := h3
  have HWB := Lib.hid (hv.below hb)
  have HWI := Lib.hid (fun j hj => (hi j hj).below hb)
  rw [eG] at X
  have HX := Lib.hid X
  obtain ⟨c0, c1, c2, _, _, _⟩ := X
  obtain ⟨sa, sp, rfl, _, es2⟩ := h2.form
  obtain ⟨ba, bp, rfl, _, eb2⟩ := hv.form
  unfold maxLen at es2 eb2
  clear h1 h2 hv hi hb hz hq eA eC
  cases q with
  | false =>
    obtain ⟨rfl, rfl⟩ := HAN.out.bad rfl
    go_enter Try.func17, Try.ntmps17
    go_wp2_with fail
    clear e1 eG
    refine (HV.out _ _ HR.out).mono ?_
    rintro e w1 ⟨rfl, hb⟩
    have HB1 := Lib.hid (HB.out.trans (hb.mono HB.out.size))
    clear hb
    go_wp2
    go_ret2
    exact ⟨rfl, HB1.out⟩
  | true =>
    have HOK := Lib.hid (HQ.out.1 rfl)
    by_cases hi : I12 z
    case neg =>
      obtain ⟨rfl, rfl⟩ := HAN.out.out rfl hi
      rw [decide_eq_false (show ¬ (0 ≤ z ∧ z ≤ 11) by unfold I12 at hi; omega)] at HID
      clear hi
      go_enter Try.func17, Try.ntmps17
      go_wp2_with fail
      clear e1 eG
      refine (HV.out _ _ HR.out).mono ?_
      rintro e w1 ⟨rfl, hb⟩
      have HB1 := Lib.hid (HB.out.trans (hb.mono HB.out.size))
      clear hb
      go_wp2_with fail
      refine (HID.out _).mono ?_
      rintro e w2 ⟨rfl, rfl⟩
      go_wp2
      go_ret2
      exact ⟨rfl, HB1.out⟩
    rw [decide_eq_true (show 0 ≤ z ∧ z ≤ 11 by unfold I12 at hi; omega)] at HID
    have HS1 := Lib.hid (HAN.out.stash rfl hi)
    have HT1 := Lib.hid (HAN.out.tree rfl hi)
    have HN1 := Lib.hid (HAN.out.none rfl hi)
    have hl2 := HOK.out.bks
    rw [hl2] at HWB c2 e1 HR HX ⊢
    have HL2 := Lib.hid hl2
    have HTK := Lib.hid (fun k (hk : k < o.st.length) => take_next o.st (0, 0, 0) k hk)
    have HTL := Lib.hid (List.take_length (l := o.st))
    have HMEM := Lib.hid (fun (xs : List Bk) (k : Nat) (hk : k < xs.length) (e : (xs.getD k (0, 0, 0)).1 = z) => (show z ∈ ids xs from by
      rw [← e]
      refine List.mem_map.2 ⟨xs.getD k (0, 0, 0), ?_, rfl⟩
      rw [List.getD_eq_getElem?_getD, List.getElem?_eq_getElem hk]
      exact List.getElem_mem hk))
    clear hi HAN hl2
    generalize en : o.st.length = n at *
    have EN := Lib.hid en
    clear en
    go_enter Try.func17, Try.ntmps17
    go_wp2_with fail
    clear e1 eG
    refine (HV.out _ _ HR.out).mono ?_
    rintro e w1 ⟨rfl, hb⟩
    have HX1 := Lib.hid (HX.out.below hb)
    have HS := Lib.hid (HW2.out.below hb)
    have HVB := Lib.hid (HWB.out.below hb)
    have HVI := Lib.hid (fun j hj => (HWI.out j hj).below hb)
    have HF := Lib.hid (HB.out.trans (hb.mono HB.out.size))
    clear hb c0 c1 c2 HW2 HWB HWI HX HB
    obtain ⟨c0, c1, c2, _, _, _⟩ := HX1.out
    go_wp2_with fail
    refine (HID.out _).mono ?_
    rintro e w2 ⟨rfl, rfl⟩
    go_wp2
    go_loopw [6] (fun i wz => ∃ k : Nat, k ≤ n ∧ i = .int .i64 k ∧ w2 = wz ∧ Hid (z ∉ ids (o.st.take k))) (fun i _ => n - (intOf i).toNat)
    case atStart => exact ⟨0, by omega, rfl, rfl, Lib.hid (by simp [ids])⟩
    case round =>
      obtain ⟨k, hk, rfl, rfl, HJ⟩ := hrel
      by_cases hlt : k < n
      · obtain ⟨b5, o5, hsa, hc⟩ := HS.out.at (by omega)
        subst hsa
        have d0 := hc (k * 3) (by omega)
        rw [bc0] at d0
        have HK := Lib.hid (HTK.out k hlt)
        have HV1 := Lib.hid (fun e => HS1.out (HMEM.out o.st k (by rw [EN.out]; exact hlt) e))
        clear hc
        generalize o.st.getD k (0, 0, 0) = y at *
        obtain ⟨y0, y1, y2⟩ := y
        simp only at d0
        by_cases hy : y0 = z
        · obtain ⟨rfl, rfl⟩ := HV1.out hy
          have b1 : (y0 == z) = true := by simp [hy]
          subst hy
          go_wp2
          go_ret2
          exact ⟨rfl, HF.out⟩
        · have b1 : (y0 == z) = false := beq_eq_false_iff_ne.2 hy
          have HN := Lib.hid (show z ∉ ids (o.st.take (k + 1)) from by rw [HK.out]; exact VlW.not_snoc HJ.out hy)
          go_wp2
          go_roundw
          case rel => exact ⟨k + 1, by omega, by go_num, by trivial, Lib.hid HN.out⟩
          case measure => simp [intOf]; omega
      · have HM := Lib.hid (show z ∉ ids o.st from by
          obtain rfl : k = n := by omega
          have := HJ.out
          rwa [HTL.out] at this)
        clear HJ
        go_wp2
        go_loopw [7] (fun i wz => ∃ j : Nat, j ≤ 15 ∧ i = .int .i64 j ∧ w2 = wz ∧ Hid (∀ j', j' < j → z ∉ ids (o.bk.getD j' []))) (fun i _ => 15 - (intOf i).toNat)
        case atStart => exact ⟨0, by omega, rfl, rfl, Lib.hid fun j hj => by omega⟩
        case round =>
          clear hk hlt
          obtain ⟨j, hj, rfl, rfl, HJ⟩ := hrel
          by_cases hlt : j < 15
          · obtain ⟨b6, o6, hba, hc⟩ := HVB.out.at (by omega)
            subst hba
            have e0 := hc j (by omega)
            have HI := Lib.hid (HVI.out j (by rw [HL2.out]; exact hlt))
            obtain ⟨a2, cap2, ev, _, em⟩ := HI.out.form
            rw [ev] at e0 HI
            have HTJ := Lib.hid (fun hm => HT1.out HM.out j hlt hm HJ.out)
            have dj : decide ((j : Int) < 15) = true := decide_eq_true (by omega)
            clear hc ev
            generalize ed : o.bk.getD j [] = xs at *
            have ED := Lib.hid ed
            have HTX := Lib.hid (fun k (hk : k < xs.length) => take_next xs (0, 0, 0) k hk)
            have HTY := Lib.hid (List.take_length (l := xs))
            have HMX := Lib.hid (fun k hk e => HTJ.out (HMEM.out xs k hk e))
            clear ed
            generalize xs.length = Lj at *
            have hLj : Lj ≤ 9223372036854775807 := by
              obtain ⟨a9, c9, e9, h9, h10, _⟩ := HI.out
              unfold maxLen at h10
              omega
            go_wp2
            go_loopw [8] (fun i wz => ∃ k : Nat, k ≤ Lj ∧ i = .int .i64 k ∧ w2 = wz ∧ Hid (z ∉ ids (xs.take k))) (fun i _ => Lj - (intOf i).toNat)
            case atStart => exact ⟨0, by omega, rfl, rfl, Lib.hid (by simp [ids])⟩
            case round =>
              obtain ⟨k, hk, rfl, rfl, HK⟩ := hrel
              by_cases hlt3 : k < Lj
              · obtain ⟨b8, o8, hba, hc⟩ := HI.out.at (by omega)
                subst hba
                have d0 := hc (k * 3) (by omega)
                rw [bc0] at d0
                have HNX := Lib.hid (HTX.out k hlt3)
                have HV1 := Lib.hid (HMX.out k hlt3)
                clear hc
                generalize xs.getD k (0, 0, 0) = y at *
                obtain ⟨y0, y1, y2⟩ := y
                simp only at d0
                by_cases hy : y0 = z
                · obtain ⟨rfl, rfl⟩ := HV1.out hy
                  have b1 : (y0 == z) = true := by simp [hy]
                  subst hy
                  go_wp2
                  go_ret2
                  exact ⟨rfl, HF.out⟩
                · have b1 : (y0 == z) = false := beq_eq_false_iff_ne.2 hy
                  have HN := Lib.hid (show z ∉ ids (xs.take (k + 1)) from by rw [HNX.out]; exact VlW.not_snoc HK.out hy)
                  go_wp2
                  go_roundw
                  case rel => exact ⟨k + 1, by omega, by go_num, by trivial, Lib.hid HN.out⟩
                  case measure => simp [intOf]; omega
              · have HN := Lib.hid (show ∀ j', j' < j + 1 → z ∉ ids (o.bk.getD j' []) from fun j' hj' => by
                  by_cases ej : j' = j
                  · obtain rfl : k = Lj := by omega
                    rw [ej, ED.out]
                    have := HK.out
                    rwa [HTY.out] at this
                  · exact HJ.out j' (by omega))
                clear HK
                go_wp2
                go_roundw
                case rel => exact ⟨j + 1, by omega, by go_num, by trivial, Lib.hid HN.out⟩
                case measure => simp [intOf]; omega
          · obtain ⟨rfl, rfl⟩ := HN1.out HM.out (fun j' hj' => HJ.out j' (by omega))
            go_wp2
            go_ret2
            exact ⟨rfl, HF.out⟩
end Go.Proofs.Ytealdpkgfmokpaa.WhW
