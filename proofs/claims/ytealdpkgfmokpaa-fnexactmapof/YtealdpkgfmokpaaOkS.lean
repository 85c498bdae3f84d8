/-
  What is proved: the model's functions on the way to its word on a tree: leaves in their bounds, a number on a list, a block that is right behind those that were met (contracts for the walks).
-/
import Derived.Test.YtealdpkgfmokpaaRows
import Derived.Test.YtealdpkgfmokpaaOkI2
namespace Go.Proofs.Ytealdpkgfmokpaa.OkS
open Go.ChangeShapes Go.WideShapes Go.ChangeAt Go.RowKit Go.Maps
open Sl (Sl Own Off)
open OpenSl (tc nc pc)
open Dev Orm Wy Box3 OkP OkI OkI2
open SameO (below_drawn drewN_drewN)
set_option linter.unusedVariables false

set_option maxRecDepth 100000 in
set_option maxHeartbeats 800000 in
theorem l08Leaves (w : World) (v : Value) (zs : List Int) (h : Sl w 1 v zs.length (nc zs)) (q : Bool) (hq : q = true ↔ ∀ z ∈ zs, P8 z) :
    Calls Try.prog 103 #[v] w fun e w' => e = .returned (.bool q) ∧ w' = w := by
  obtain ⟨a, cap, rfl, h1, h2, h3⟩ := h
  have H3 := Lib.hid h3
  have HN := Lib.hid (show ∀ k, k < zs.length → ¬ P8 (zs.getD k 0) → q = false from fun k hk hn => by
    cases q with
    | false => rfl
    | true => exact absurd (hq.1 rfl _ (by rw [List.getD_eq_getElem?_getD, List.getElem?_eq_getElem hk]; exact List.getElem_mem hk)) hn)
  have HY := Lib.hid (show (∀ k, k < zs.length → P8 (zs.getD k 0)) → q = true from fun ha => hq.2 fun z hz => by
    obtain ⟨k, hk, rfl⟩ := List.getElem_of_mem hz
    have := ha k hk
    rwa [List.getD_eq_getElem?_getD, List.getElem?_eq_getElem hk] at this)
  clear h3 hq
  unfold maxLen at h2
  generalize zs.length = n at *
  go_enter Try.func103, Try.ntmps103
  go_wp2
  go_loopw [3] (fun i wr => ∃ k : Nat, k ≤ n ∧ i = .int .i64 k ∧ w = wr ∧ Hid (∀ j, j < k → P8 (zs.getD j 0))) (fun i _ => n - (intOf i).toNat)
  case atStart => exact ⟨0, by omega, rfl, rfl, Lib.hid fun j hj => by omega⟩
  case round =>
    obtain ⟨k, hk, rfl, rfl, HJ⟩ := hrel
    by_cases hlt : k < n
    · obtain ⟨b, o, rfl, hc⟩ := H3.out (by omega)
      have c0 := hc k (by omega)
      unfold nc at c0
      have HN2 := Lib.hid (HN.out k hlt)
      have HM := Lib.hid (show P8 (zs.getD k 0) → ∀ j, j < k + 1 → P8 (zs.getD j 0) from fun e j hj => by
        by_cases ej : j = k
        · rw [ej]; exact e
        · exact HJ.out j (by omega))
      clear hc
      generalize zs.getD k 0 = s at *
      go_wp2_with fail
      refine (l01In s 0 7 _).mono ?_
      rintro e w1 ⟨rfl, rfl⟩
      by_cases hs : P8 s
      · rw [decide_eq_true (show 0 ≤ s ∧ s ≤ 7 by unfold P8 at hs; omega)]
        have HS := Lib.hid hs
        clear hs
        go_wp2
        go_roundw
        case rel => exact ⟨k + 1, by omega, by go_num, by trivial, Lib.hid (HM.out HS.out)⟩
        case measure => simp [intOf]; omega
      · rw [decide_eq_false (show ¬ (0 ≤ s ∧ s ≤ 7) by unfold P8 at hs; omega)]
        obtain rfl := HN2.out hs
        clear hs
        go_wp2
        go_ret
        exact ⟨rfl, rfl⟩
    · obtain rfl := HY.out fun j hj => HJ.out j (by omega)
      go_wp2
      go_ret
      exact ⟨rfl, rfl⟩


set_option maxRecDepth 100000 in
set_option maxHeartbeats 800000 in
theorem l08In (w : World) (v : Value) (zs : List Int) (z : Int) (h : Sl w 1 v zs.length (nc zs)) :
    Calls Try.prog 97 #[v, .int .i64 z] w fun e w' => e = .returned (.bool (decide (z ∈ zs))) ∧ w' = w := by
  obtain ⟨a, cap, rfl, h1, h2, h3⟩ := h
  have H3 := Lib.hid h3
  obtain ⟨q, eq⟩ : ∃ q, decide (z ∈ zs) = q := ⟨_, rfl⟩
  have HY := Lib.hid (show ∀ k, k < zs.length → zs.getD k 0 = z → q = true from fun k hk e => by
    rw [← eq]
    refine decide_eq_true ?_
    rw [← e, List.getD_eq_getElem?_getD, List.getElem?_eq_getElem hk]; exact List.getElem_mem hk)
  have HN := Lib.hid (show (∀ k, k < zs.length → zs.getD k 0 ≠ z) → q = false from fun hn => by
    rw [← eq]
    refine decide_eq_false fun hm => ?_
    obtain ⟨k, hk, e⟩ := List.getElem_of_mem hm
    exact hn k hk (by rw [List.getD_eq_getElem?_getD, List.getElem?_eq_getElem hk]; exact e))
  rw [eq]
  clear h3 eq
  unfold maxLen at h2
  generalize zs.length = n at *
  go_enter Try.func97, Try.ntmps97
  go_wp2
  go_loopw [5] (fun i wr => ∃ k : Nat, k ≤ n ∧ i = .int .i64 k ∧ w = wr ∧ Hid (∀ j, j < k → zs.getD j 0 ≠ z)) (fun i _ => n - (intOf i).toNat)
  case atStart => exact ⟨0, by omega, rfl, rfl, Lib.hid fun j hj => by omega⟩
  case round =>
    obtain ⟨k, hk, rfl, rfl, HJ⟩ := hrel
    by_cases hlt : k < n
    · obtain ⟨b, o, rfl, hc⟩ := H3.out (by omega)
      have c0 := hc k (by omega)
      unfold nc at c0
      have HY2 := Lib.hid (HY.out k hlt)
      have HM := Lib.hid (show zs.getD k 0 ≠ z → ∀ j, j < k + 1 → zs.getD j 0 ≠ z from fun e j hj => by
        by_cases ej : j = k
        · rw [ej]; exact e
        · exact HJ.out j (by omega))
      clear hc
      generalize zs.getD k 0 = s at *
      by_cases hs : s = z
      · subst hs
        obtain rfl := HY2.out rfl
        go_wp2
        go_ret
        exact ⟨rfl, rfl⟩
      · go_wp2
        go_roundw
        case rel => exact ⟨k + 1, by omega, by go_num, by trivial, Lib.hid (HM.out hs)⟩
        case measure => simp [intOf]; omega
    · obtain rfl := HN.out fun j hj => HJ.out j (by omega)
      go_wp2
      go_ret
      exact ⟨rfl, rfl⟩

set_option maxRecDepth 100000 in
set_option maxHeartbeats 1600000 in
theorem l08Block (w : World) (p s b sv : Value) (zs : List Int) (hp : Sl w 1 p zs.length (nc zs)) (hl : zs.length = 12) (L : List Bk) (hs : Sl w 1 sv (ids L).length (nc (ids L))) (x0 x1 x2 : Int) (q : Bool) (hq : q = true ↔ gd zs L (x0, x1, x2)) :
    Calls Try.prog 104 #[.agg #[p, s, b], .agg #[.int .i64 x0, .int .i64 x1, .int .i64 x2], sv] w fun e w' => e = .returned (.bool q) ∧ Below w.heap.size w w' := by
  obtain ⟨U1, e1, hb1, hz1, X1⟩ := box3 w 31 p s b
  obtain ⟨U2, e2, hb2, hz2, X2⟩ := box3 U1 110 (.int .i64 x0) (.int .i64 x1) (.int .i64 x2)
  have hbb := hb1.trans (hb2.mono hb1.size)
  have HB := Lib.hid hbb
  have HSV := Lib.hid (hs.below hbb)
  have X3 := X1.below hb2
  obtain ⟨G1, eG1⟩ : ∃ G, w.heap.size = G := ⟨_, rfl⟩
  obtain ⟨G2, eG2⟩ : ∃ G, U1.heap.size = G := ⟨_, rfl⟩
  have HBG := Lib.hid (show Below G1 w U2 from eG1 ▸ hbb)
  have k1 := hp.below hbb
  rw [eG1] at X3
  rw [eG2] at X2
  obtain ⟨c0, c1, c2, _, _, _⟩ := X3
  obtain ⟨d0, d1, d2, _, _, _⟩ := X2
  rw [hl] at k1
  obtain ⟨pa, pp, rfl, m1, m2, m3⟩ := k1
  obtain ⟨gb, go, rfl, hc⟩ := m3 (by omega)
  have HC := Lib.hid hc
  unfold maxLen at m2
  have HNO := Lib.hid (show ¬ gd zs L (x0, x1, x2) → q = false from fun hn => by cases q with | false => rfl | true => exact absurd (hq.1 rfl) hn)
  have HYES := Lib.hid (show (I12 x0 ∧ x1 = zs.getD x0.toNat 0 ∧ C6 x2) → x0 ∉ ids L → q = true from fun h1 h2 => hq.2 ⟨h1, h2⟩)
  have HIS := Lib.hid (fun u => l01In x0 0 11 u)
  have HCE := Lib.hid (fun u => l01In x2 0 999999 u)
  have HIN := Lib.hid (fun n9 => l08In (U2.drewN n9) sv (ids L) x0 (HSV.out.below (below_drawn _ _)))
  obtain ⟨sa, sp, rfl, _, _⟩ := hs.form
  clear hb1 hb2 hz1 hz2 X1 hbb hp hs m3 hc hq
  by_cases hi : I12 x0
  case neg =>
    obtain rfl := HNO.out (fun h => hi h.1.1)
    rw [decide_eq_false (show ¬ (0 ≤ x0 ∧ x0 ≤ 11) by unfold I12 at hi; omega)] at HIS
    clear hi
    go_enter Try.func104, Try.ntmps104
    go_wp2
    go_quiet ((go_at_call 60; exact Calls.quiet_of_same (HIS.out _)))
    go_wp2
    go_ret
    exact ⟨rfl, by first | exact below_drewN HB.out _ | exact below_drewN HBG.out _⟩
  rw [decide_eq_true (show 0 ≤ x0 ∧ x0 ≤ 11 by unfold I12 at hi; omega)] at HIS
  have HI := Lib.hid hi
  obtain ⟨k, ek⟩ : ∃ k : Nat, x0 = (k : Int) := ⟨x0.toNat, by have := hi.1; omega⟩
  have hk : k < 12 := by have := hi.2; omega
  have x3 := HC.out k (by omega)
  have HX := Lib.hid (show (zs.getD x0.toNat 0) = zs.getD k 0 by rw [ek]; rfl)
  subst ek
  unfold nc at x3
  rw [HX.out] at HYES
  have HNO2 := Lib.hid (show x1 ≠ zs.getD k 0 → q = false from fun hne => HNO.out fun h => hne (h.1.2.1.trans HX.out))
  clear hi
  generalize zs.getD k 0 = y at *
  by_cases hy : y = x1
  case neg =>
    obtain rfl := HNO2.out (fun h => hy h.symm)
    have b1 : (y == x1) = false := beq_eq_false_iff_ne.2 hy
    have b2 : decide (y = x1) = false := decide_eq_false hy
    clear hy
    go_enter Try.func104, Try.ntmps104
    go_wp2
    go_quiet ((go_at_call 60; exact Calls.quiet_of_same (HIS.out _)))
    go_wp2
    go_ret
    exact ⟨rfl, by first | exact below_drewN HB.out _ | exact below_drewN HBG.out _⟩
  subst hy
  have b1 : (y == y) = true := by simp
  by_cases hc : C6 x2
  case neg =>
    obtain rfl := HNO.out (fun h => hc h.1.2.2)
    rw [decide_eq_false (show ¬ (0 ≤ x2 ∧ x2 ≤ 999999) from hc)] at HCE
    clear hc
    go_enter Try.func104, Try.ntmps104
    go_wp2
    go_quiet (first | (go_at_call 60; with_reducible exact Calls.quiet_of_same (HIS.out _)) | (go_at_call 60; with_reducible exact Calls.quiet_of_same (HCE.out _)))
    go_wp2
    go_ret
    exact ⟨rfl, by first | exact below_drewN HB.out _ | exact below_drewN HBG.out _⟩
  rw [decide_eq_true (show 0 ≤ x2 ∧ x2 ≤ 999999 from hc)] at HCE
  have HCC := Lib.hid hc
  clear hc
  by_cases hm : (k : Int) ∈ ids L
  · obtain rfl := HNO.out (fun h => h.2 hm)
    rw [decide_eq_true hm] at HIN
    clear hm
    go_enter Try.func104, Try.ntmps104
    go_wp2
    go_quiet (first | (go_at_call 60; with_reducible exact Calls.quiet_of_same (HIS.out _)) | (go_at_call 60; with_reducible exact Calls.quiet_of_same (HCE.out _)) | (go_at_call 97; exact Calls.quiet_of_same (HIN.out _)))
    go_wp2
    go_ret
    exact ⟨rfl, by first | exact below_drewN HB.out _ | exact below_drewN HBG.out _⟩
  · obtain rfl := HYES.out ⟨HI.out, rfl, HCC.out⟩ hm
    rw [decide_eq_false hm] at HIN
    clear hm
    go_enter Try.func104, Try.ntmps104
    go_wp2
    go_quiet (first | (go_at_call 60; with_reducible exact Calls.quiet_of_same (HIS.out _)) | (go_at_call 60; with_reducible exact Calls.quiet_of_same (HCE.out _)) | (go_at_call 97; exact Calls.quiet_of_same (HIN.out _)))
    go_wp2
    go_ret
    exact ⟨rfl, by first | exact below_drewN HB.out _ | exact below_drewN HBG.out _⟩
end Go.Proofs.Ytealdpkgfmokpaa.OkS
