/-
  What is proved: the program's functions that say whether a tree is right, and gather its values (contracts for the walks).
-/
import Derived.Test.YtealdpkgfmokpaaRows
import Derived.Test.YtealdpkgfmokpaaOkP
import Derived.Test.YtealdpkgfmokpaaSameO
import Derived.BigQuiet
namespace Go.Proofs.Ytealdpkgfmokpaa.OkI
open Go.ChangeShapes Go.WideShapes Go.ChangeAt Go.RowKit Go.Maps
open Sl (Sl Own Off)
open OpenSl (tc nc pc)
open Dev Orm Wy Box3 OkP
open LawO (sm)
open SameO (below_drawn drewN_drewN)
set_option linter.unusedVariables false

set_option maxRecDepth 100000 in
set_option maxHeartbeats 800000 in
theorem arePaths (w : World) (v : Value) (zs : List Int) (h : Sl w 1 v zs.length (nc zs)) (q : Bool) (hq : q = true ↔ ∀ z ∈ zs, P8 z) :
    Calls Try.prog 134 #[v] w fun e w' => e = .returned (.bool q) ∧ w' = w := by
  obtain ⟨a, cap, rfl, h1, h2, h3⟩ := h
  have H3 := Lib.hid h3
  have HN := Lib.hid (show ∀ k, k < zs.length → ¬ P8 (zs.getD k 0) → q = false from fun k hk hn => by
    cases q with
    | false => rfl
    | true => exact absurd (hq.1 rfl _ (by rw [List.getD_eq_getElem?_getD, List.getElem?_eq_getElem hk]; exact List.getElem_mem hk)) hn)
  have HY := Lib.hid (show (∀ k, k < zs.length → P8 (zs.getD k 0)) → q = true from fun ha => hq.2 fun z hz => by
    obtain ⟨k, hk, rfl⟩ := List.getElem_of_mem hz
    have := ha k hk
    rwa [List.getD_eq_getElem?_getD, List.getElem?_eq_getElem hk] at this)
  clear h3 hq
  unfold maxLen at h2
  generalize zs.length = n at *
  go_enter Try.func134, Try.ntmps134
  go_wp2
  go_loopw [7] (fun i wr => ∃ k : Nat, k ≤ n ∧ i = .int .i64 k ∧ w = wr ∧ Hid (∀ j, j < k → P8 (zs.getD j 0))) (fun i _ => n - (intOf i).toNat)
  case atStart => exact ⟨0, by omega, rfl, rfl, Lib.hid fun j hj => by omega⟩
  case round =>
    obtain ⟨k, hk, rfl, rfl, HJ⟩ := hrel
    by_cases hlt : k < n
    · obtain ⟨b, o, rfl, hc⟩ := H3.out (by omega)
      have c0 := hc k (by omega)
      unfold nc at c0
      have HN2 := Lib.hid (HN.out k hlt)
      have HM := Lib.hid (show P8 (zs.getD k 0) → ∀ j, j < k + 1 → P8 (zs.getD j 0) from fun e j hj => by
        by_cases ej : j = k
        · rw [ej]; exact e
        · exact HJ.out j (by omega))
      clear hc
      generalize zs.getD k 0 = s at *
      go_wp2_with fail
      refine (isPath s _).mono ?_
      rintro e w1 ⟨rfl, rfl⟩
      by_cases hs : P8 s
      · rw [decide_eq_true hs]
        have HS := Lib.hid hs
        clear hs
        go_wp2
        go_roundw
        case rel => exact ⟨k + 1, by omega, by go_num, by trivial, Lib.hid (HM.out HS.out)⟩
        case measure => simp [intOf]; omega
      · rw [decide_eq_false hs]
        obtain rfl := HN2.out hs
        clear hs
        go_wp2
        go_ret
        exact ⟨rfl, rfl⟩
    · obtain rfl := HY.out fun j hj => HJ.out j (by omega)
      go_wp2
      go_ret
      exact ⟨rfl, rfl⟩

/-- The shape of a tree that is right. -/
def Sh (o : Om) : Prop := o.pos.length = 12 ∧ (∀ z ∈ o.pos, P8 z) ∧ o.bk.length = 15 ∧ ∀ j, j < 15 → (o.bk.getD j []).length ≤ 2
theorem Ok.sh {o : Om} (h : Ok o) : Sh o := ⟨h.len, h.pos, h.bks, h.room⟩

set_option maxRecDepth 100000 in
set_option maxHeartbeats 1600000 in
theorem shaped (w : World) (v : Value) (o : Om) (h : Rd w v o) (q : Bool) (hq : q = true ↔ Sh o) :
    Calls Try.prog 137 #[v] w fun e w' => e = .returned (.bool q) ∧ Below w.heap.size w w' := by
  obtain ⟨p, s, b, rfl, h1, h2, h3⟩ := h
  obtain ⟨U, e1, hb, hz, X⟩ := box3 w 31 p s b
  obtain ⟨G, eG⟩ : ∃ G, w.heap.size = G := ⟨_, rfl⟩
  have HB := Lib.hid hb
  have HBG := Lib.hid (show Below G w U from eG ▸ hb)
  have H1 := Lib.hid (h1.below hb)
  obtain ⟨vs, hv, hi⟩ := h3.below hb
  have HI := Lib.hid hi
  obtain ⟨pa, pp, rfl, m1, m2⟩ := h1.form
  obtain ⟨ba, bp, rfl, g1, g2, g3⟩ := hv
  have H3 := Lib.hid g3
  rw [eG] at X
  obtain ⟨c0, c1, c2, _, _, _⟩ := X
  have HNO := Lib.hid (show ¬ Sh o → q = false from fun hn => by cases q with | false => rfl | true => exact absurd (hq.1 rfl) hn)
  have HYES := Lib.hid hq.2
  unfold maxLen at m2 g2
  clear h1 h2 h3 hb hz hi g3 hq
  by_cases hl : o.pos.length = 12
  case neg =>
    obtain rfl := HNO.out (fun hs => hl hs.1)
    have d1 : ((o.pos.length : Int) != 12) = true := bne_iff_ne.2 (by omega)
    clear hl
    go_enter Try.func137, Try.ntmps137
    go_wp2_with fail
    go_ret
    exact ⟨rfl, by first | exact HB.out | exact HBG.out⟩
  have HL := Lib.hid hl
  have d1 : ((o.pos.length : Int) != 12) = false := by rw [hl]; rfl
  clear hl
  obtain ⟨q1, hq1⟩ : ∃ q1 : Bool, q1 = true ↔ ∀ z ∈ o.pos, P8 z := by
    by_cases hh : ∀ z ∈ o.pos, P8 z
    · exact ⟨true, by simp only [true_iff]; exact hh⟩
    · exact ⟨false, by simp only [Bool.false_eq_true, false_iff]; exact hh⟩
  have HC := Lib.hid (arePaths U _ o.pos H1.out q1 hq1)
  cases q1 with
  | false =>
    obtain rfl := HNO.out (fun hs => by have := hq1.2 hs.2.1; cases this)
    clear hq1
    go_enter Try.func137, Try.ntmps137
    go_wp2_with fail
    refine HC.out.mono ?_
    rintro e w1 ⟨rfl, rfl⟩
    go_wp2_with fail
    go_ret
    exact ⟨rfl, by first | exact HB.out | exact HBG.out⟩
  | true =>
  have HP := Lib.hid (hq1.1 rfl)
  clear hq1
  by_cases hl : o.bk.length = 15
  case neg =>
    obtain rfl := HNO.out (fun hs => hl hs.2.2.1)
    have d2 : ((o.bk.length : Int) != 15) = true := bne_iff_ne.2 (by omega)
    clear hl
    go_enter Try.func137, Try.ntmps137
    go_wp2_with fail
    refine HC.out.mono ?_
    rintro e w1 ⟨rfl, rfl⟩
    go_wp2_with fail
    go_ret
    exact ⟨rfl, by first | exact HB.out | exact HBG.out⟩
  have HL2 := Lib.hid hl
  have d2 : ((o.bk.length : Int) != 15) = false := by rw [hl]; rfl
  rw [hl] at H3 HI c2 e1 g1 ⊢
  clear hl d2
  go_enter Try.func137, Try.ntmps137
  go_wp2_with fail
  clear e1 eG
  refine HC.out.mono ?_
  rintro e w1 ⟨rfl, rfl⟩
  go_wp2_with fail
  go_loopw [24] (fun i wr => ∃ k : Nat, k ≤ 15 ∧ i = .int .i64 k ∧ w1 = wr ∧ Hid (∀ j, j < k → (o.bk.getD j []).length ≤ 2)) (fun i _ => 15 - (intOf i).toNat)
  case atStart => exact ⟨0, by omega, rfl, rfl, Lib.hid fun j hj => by omega⟩
  case round =>
    obtain ⟨k, hk, rfl, rfl, HJ⟩ := hrel
    by_cases hlt : k < 15
    · obtain ⟨b, ob, rfl, hc⟩ := H3.out (by omega)
      have x0 := hc k (by omega)
      obtain ⟨a2, cap2, e2, y1, y2⟩ := (HI.out k hlt).form
      rw [e2] at x0
      have HN2 := Lib.hid (show ¬ (o.bk.getD k []).length ≤ 2 → q = false from fun hh => HNO.out fun hs => hh (hs.2.2.2 k hlt))
      have HM := Lib.hid (show (o.bk.getD k []).length ≤ 2 → ∀ j, j < k + 1 → (o.bk.getD j []).length ≤ 2 from fun e j hj => by
        by_cases ej : j = k
        · rw [ej]; exact e
        · exact HJ.out j (by omega))
      clear hc e2
      unfold maxLen at y2
      generalize (o.bk.getD k []).length = L at *
      by_cases hs : L ≤ 2
      · have HS := Lib.hid hs
        go_wp2
        go_roundw
        case rel => exact ⟨k + 1, by omega, by go_num, by trivial, Lib.hid (HM.out HS.out)⟩
        case measure => simp [intOf]; omega
      · obtain rfl := HN2.out hs
        go_wp2
        go_ret
        exact ⟨rfl, by first | exact HB.out | exact HBG.out⟩
    · obtain rfl := HYES.out ⟨HL.out, HP.out, HL2.out, fun j hj => HJ.out j (by omega)⟩
      go_wp2
      go_ret
      exact ⟨rfl, by first | exact HB.out | exact HBG.out⟩
end Go.Proofs.Ytealdpkgfmokpaa.OkI
