/-
  What is proved: the program notes a block's value in a map where the block is right and was not met yet (a contract for the walks).
-/
import Derived.Test.YtealdpkgfmokpaaRows
import Derived.Test.YtealdpkgfmokpaaOkI
import Derived.Test.YtealdpkgfmokpaaSrc
namespace Go.Proofs.Ytealdpkgfmokpaa.OkI2
open Go.ChangeShapes Go.WideShapes Go.ChangeAt Go.RowKit Go.Maps
open Sl (Sl Own Off)
open OpenSl (tc nc pc)
open Dev Orm Wy Box3 OkP OkI
open LawO (sm)
open SameO (below_drawn drewN_drewN)
set_option linter.unusedVariables false

abbrev owns (w : World) (B n : Nat) (D : DataW Unit) : Prop := w.ownsMap Try.prog 3 (plainElem Try.prog 3) B n D
theorem owns_below {w w' : World} {B n : Nat} {D : DataW Unit} (h : owns w B n D) (hb : Below w.heap.size w w') : owns w' B n D :=
  h.kept (row := none) ⟨hb.os, hb.tape, hb.output, hb.size, fun i hi _ => hb.block i hi⟩ (by simp)
theorem grown_below {w w' : World} (hb : Below w.heap.size w w') (B : Nat) : w.grownBy w' (some B) := ⟨hb.os, hb.tape, hb.output, hb.size, fun i hi _ => hb.block i hi⟩
theorem wf12 {z : Int} (h : I12 z) : (Lit.int .i64 z).wf = true := by
  have := h.1; have := h.2
  exact WalkArith.wf_i64 (by omega)
theorem wf6 {z : Int} (h : C6 z) : (Lit.int .i64 z).wf = true := by
  have := h.1; have := h.2
  exact WalkArith.wf_i64 (by omega)

set_option maxRecDepth 100000 in
set_option maxHeartbeats 1600000 in
theorem note (w : World) (p s b : Value) (zs : List Int) (hp : Sl w 1 p zs.length (nc zs)) (hl : zs.length = 12) (B n : Nat) (L : List Bk) (hm : owns w B n (mp L)) (hn : n ≤ 1048700) (x0 x1 x2 : Int) (q : Bool) (hq : q = true ↔ gd zs L (x0, x1, x2)) :
    Calls Try.prog 138 #[.agg #[p, s, b], .map (some B), .agg #[.int .i64 x0, .int .i64 x1, .int .i64 x2]] w fun e w' => e = .returned (.bool q) ∧ (q = true → owns w' B (n + 1) (mp (L ++ [(x0, x1, x2)]))) ∧ w.grownBy w' (some B) := by
  obtain ⟨U1, e1, hb1, hz1, X1⟩ := box3 w 31 p s b
  obtain ⟨U2, e2, hb2, hz2, X2⟩ := box3 U1 110 (.int .i64 x0) (.int .i64 x1) (.int .i64 x2)
  have hbb := hb1.trans (hb2.mono hb1.size)
  have HB := Lib.hid hbb
  have HM := Lib.hid (owns_below hm hbb)
  have X3 := X1.below hb2
  obtain ⟨G1, eG1⟩ : ∃ G, w.heap.size = G := ⟨_, rfl⟩
  obtain ⟨G2, eG2⟩ : ∃ G, U1.heap.size = G := ⟨_, rfl⟩
  have k1 := hp.below hbb
  rw [eG1] at X3
  rw [eG2] at X2
  obtain ⟨c0, c1, c2, _, _, _⟩ := X3
  obtain ⟨d0, d1, d2, _, _, _⟩ := X2
  rw [hl] at k1
  obtain ⟨pa, pp, rfl, m1, m2, m3⟩ := k1
  obtain ⟨gb, go, rfl, hc⟩ := m3 (by omega)
  have HC := Lib.hid hc
  unfold maxLen at m2
  have HG := Lib.hid (grown_below hbb B)
  have HNO := Lib.hid (show ¬ gd zs L (x0, x1, x2) → q = false from fun hn => by cases q with | false => rfl | true => exact absurd (hq.1 rfl) hn)
  have HYES := Lib.hid (show (I12 x0 ∧ x1 = zs.getD x0.toNat 0 ∧ C6 x2) → x0 ∉ ids L → q = true from fun h1 h2 => hq.2 ⟨h1, h2⟩)
  have HIS := Lib.hid (fun u => isId x0 u)
  have HCE := Lib.hid (fun u => isCell x2 u)
  clear hb1 hb2 hz1 hz2 X1 hbb hm hp m3 hc hq
  by_cases hi : I12 x0
  case neg =>
    obtain rfl := HNO.out (fun h => hi h.1.1)
    rw [decide_eq_false hi] at HIS
    clear hi
    go_enter Try.func138, Try.ntmps138
    go_wp2
    go_quiet ((go_at_call 65; exact Calls.quiet_of_same (HIS.out _)))
    go_wp2
    go_ret
    exact ⟨rfl, (fun h => by cases h), Src.grown_drewN HG.out _⟩
  rw [decide_eq_true hi] at HIS
  have HI := Lib.hid hi
  obtain ⟨k, ek⟩ : ∃ k : Nat, x0 = (k : Int) := ⟨x0.toNat, by have := hi.1; omega⟩
  have hk : k < 12 := by have := hi.2; omega
  have x3 := HC.out k (by omega)
  have HX := Lib.hid (show (zs.getD x0.toNat 0) = zs.getD k 0 by rw [ek]; rfl)
  subst ek
  unfold nc at x3
  rw [HX.out] at HYES
  have HNO2 := Lib.hid (show x1 ≠ zs.getD k 0 → q = false from fun hne => HNO.out fun h => hne (h.1.2.1.trans HX.out))
  clear hi
  generalize zs.getD k 0 = y at *
  by_cases hy : x1 = y
  case neg =>
    obtain rfl := HNO2.out hy
    have b1 : (x1 != y) = true := bne_iff_ne.2 hy
    clear hy
    go_enter Try.func138, Try.ntmps138
    go_wp2
    go_quiet ((go_at_call 65; exact Calls.quiet_of_same (HIS.out _)))
    go_wp2
    go_ret
    exact ⟨rfl, (fun h => by cases h), Src.grown_drewN HG.out _⟩
  subst hy
  have b1 : (x1 != x1) = false := by simp
  by_cases hc : C6 x2
  case neg =>
    obtain rfl := HNO.out (fun h => hc h.1.2.2)
    rw [decide_eq_false hc] at HCE
    clear hc
    go_enter Try.func138, Try.ntmps138
    go_wp2
    go_quiet (first | (go_at_call 65; exact Calls.quiet_of_same (HIS.out _)) | (go_at_call 67; exact Calls.quiet_of_same (HCE.out _)))
    go_wp2
    go_ret
    exact ⟨rfl, (fun h => by cases h), Src.grown_drewN HG.out _⟩
  rw [decide_eq_true hc] at HCE
  have HCC := Lib.hid hc
  have HKEY := Lib.hid (keyOf_int_mk Try.underlying3 (wf12 HI.out))
  have HVAL := Lib.hid (plainElem_int (H := Unit) Try.underlying3 (wf6 hc))
  have HHAS := Lib.hid (has_mp L (k : Int))
  have HSN := Lib.hid (mp_snoc L ((k : Int), x1, x2))
  clear hc
  generalize mp L = D at *
  go_enter Try.func138, Try.ntmps138
  go_wp2
  go_quiet (first | (go_at_call 65; exact Calls.quiet_of_same (HIS.out _)) | (go_at_call 67; exact Calls.quiet_of_same (HCE.out _)))
  go_wp2_with (first
    | (at_lookup; refine wpList_lookup_own_ok_int _ rfl _ _ 137 rfl 3 3 .i64 law3 Try.underlying137 Try.underlying3 (zero3 _) B n D rfl (owns_below HM.out (below_drawn _ _)) _ _ rfl HKEY.out ?_; intro c hat hwc; rw [HHAS.out])
    | (at_mapUpdate; refine wpList_mapUpdate_own _ rfl _ _ _ 137 rfl 3 3 law3 Try.underlying137 (plainElem Try.prog 3) B n D rfl (owns_below HM.out (below_drawn _ _)) (by unfold maxLen; omega) _ _ _ rfl rfl HKEY.out _ [] HVAL.out ?_; intro w1 hown1 hgrow1)
    | go_in)
  have HW := Lib.hid hown1
  have HG1 := Lib.hid (Src.grown_then (Src.grown_drewN HG.out nq) hgrow1 (fun _ _ => .inr rfl))
  clear hown1 hgrow1
  go_ret
  refine ⟨?_, fun _ => ?_, HG1.out⟩
  · by_cases h : (k : Int) ∈ ids L
    · obtain rfl := HNO.out (fun hh => hh.2 h)
      simp [h]
    · obtain rfl := HYES.out ⟨HI.out, trivial, HCC.out⟩ h
      simp [h]
  · rw [HSN.out]
    exact HW.out
end Go.Proofs.Ytealdpkgfmokpaa.OkI2
