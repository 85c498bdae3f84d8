/-
  What is proved: the program's and the model's copies of a device are the call's own and hold what it held; so do new devices (contracts for the walks).
-/
import Derived.Test.YtmgokpkogjdfhaaRows
import Derived.Test.YtmgokpkogjdfhaaCop
import Derived.Test.YtmgokpkogjdfhaaEx
import Derived.Lib.LazyBuf
import Derived.OwnWalk
namespace Go.Proofs.Ytmgokpkogjdfhaa.Copied
open Go.ChangeShapes Go.WideShapes Go.ChangeAt Go.RowKit
open Sl (Sl Own Off)
open OpenSl (tc nc pc)
open Dev Cop
set_option linter.unusedVariables false

theorem tc_one (ts : List ByteArray) (j : Nat) : (tc ts j).oneCell' = true := rfl
theorem pc_one (xs : List (Int × ByteArray)) (j : Nat) : (pc xs j).oneCell' = true := by unfold pc; split <;> rfl
theorem one9 : (Try.prog.info? 9).map (·.size) = some 1 := by kernel_rfl

set_option maxRecDepth 100000 in
set_option maxHeartbeats 800000 in
theorem copiedSectors (w : World) (v : Value) (ts : List ByteArray) (h : Sl w 1 v ts.length (tc ts)) (hn : ts.length ≤ 1048576) :
    Calls Try.prog 75 #[v] w fun e w' => ∃ a cap, e = .returned (.slice a ts.length cap) ∧ Own w' w.heap.size 1 (.slice a ts.length cap) ts.length (tc ts) ∧ Below w.heap.size w w' := by
  obtain ⟨a, cap, rfl, h1, h2⟩ := h.form
  have HS := Lib.hid h
  clear h
  unfold maxLen at h2
  generalize ts.length = n at *
  obtain ⟨g, o, w1, hmk, hown, hbel⟩ := made (P := Try.prog) w 23 9 1 (.string ByteArray.empty) 16 Try.underlying23 LawS.info9 n (by omega) (by unfold maxLen; omega) (fun _ => .string ByteArray.empty) (LawS.made_one _ rfl n)
  obtain ⟨w2, hcp, ho2, hb2⟩ := run_copied (P := Try.prog) w1 23 23 3 9 Try.underlying23 one9 w.heap.size g o n n _ hown (.slice a n cap) (tc ts) (HS.out.below hbel) (fun j _ => tc_one ts j)
  have HO := Lib.hid ho2
  have HB := Lib.hid (hbel.trans (hb2 _ (Nat.le_refl _)))
  clear hown hbel ho2 hb2
  go_enter Try.func75, Try.ntmps75
  go_wp2
  go_ret
  exact ⟨_, _, rfl, HO.out, HB.out⟩

set_option maxRecDepth 100000 in
set_option maxHeartbeats 800000 in
theorem clone (w : World) (v : Value) (xs : List (Int × ByteArray)) (h : Sl w 2 v xs.length (pc xs)) (hn : xs.length ≤ 1048576) :
    Calls Try.prog 76 #[v] w fun e w' => ∃ a cap, e = .returned (.slice a xs.length cap) ∧ w'.ownsRow w.heap.size 64 2 (.slice a xs.length cap) xs.length (cl (pc xs) (xs.length * 2)) ∧ Below w.heap.size w w' := by
  obtain ⟨a, cap, rfl, h1, h2⟩ := h.form
  have HS := Lib.hid h
  have HN : Hid (a = none → xs.length = 0) := Lib.hid fun e => by
    subst e
    by_cases h0 : 0 < xs.length
    · obtain ⟨b, o, hb, _⟩ := h.at h0; cases hb
    · omega
  clear h
  unfold maxLen at h2
  have heq := fun u => Go.run_eql_slice_nil (P := Try.prog) u 24 64 a xs.length cap Try.underlying24
  cases a with
  | none =>
    have h0 := HN.out rfl
    rw [h0] at heq
    go_enter Try.func76, Try.ntmps76
    go_wp2
    go_ret
    exact ⟨none, 0, rfl, World.ownsRow_nil _ _ _ _, Below.refl _ _⟩
  | some x =>
    go_enter Try.func76, Try.ntmps76
    have HB0 := Lib.hid ((Below.refl w.heap.size w).alloc (Nat.le_refl _) (.cells #[] 64))
    have HM := Lib.hid (World.ownsRow_made (base := w.heap.size) (e := 64) (size := 2) w #[] 0 (Nat.le_refl _) (by unfold maxLen; omega) rfl)
    go_wp2_with (at_builtin; refine wpList_appR _ rfl (.tmp 5) (.tmp 6) 24 rfl w.heap.size 64 2 24 _ Try.underlying24 LawI.info64 rfl (by omega) (.slice (some ⟨w.heap.size, 0, none⟩) 0 0) (by simp [Act.eval]) 0 [] HM.out HB0.out.size (.slice (some x) xs.length cap) (by simp [Act.eval]) xs.length (pc xs) (HS.out.below HB0.out) (fun j _ => pc_one xs j) (by unfold maxLen; omega) (by omega) ?_; intro a' cap' w' ho hb; rw [Nat.zero_add, List.nil_append] at ho; rw [Nat.zero_add]; have HO := Lib.hid ho; have HB := Lib.hid hb; clear ho hb)
    go_ret
    exact ⟨_, _, rfl, HO.out, HB0.out.grown HB.out (by simp) (fun k hk => by cases hk; exact Nat.le_refl _)⟩

theorem of_drewN {B : Nat} {u u2 : World} {k : Nat} (h : Below B (u.drewN k) u2) : Below B u u2 := ⟨h.os, h.tape, h.output, h.size, h.block⟩
/-- A device's box and the place of a result, made. -/
theorem boxed (w : World) (t t' : TypeId) (sv uv : Value) : ∃ W, (w.alloc (.cells #[sv, uv] t)).alloc (.cells #[.slice none 0 0, .slice none 0 0] t') = W ∧ Below w.heap.size w W ∧ w.heap.size + 1 < W.heap.size ∧ W.cell? ⟨w.heap.size, 0, none⟩ = some sv ∧ W.cell? ⟨w.heap.size, 1, none⟩ = some uv ∧ W.cell? ⟨w.heap.size + 1, 0, none⟩ = some (.slice none 0 0) ∧ W.cell? ⟨w.heap.size + 1, 1, none⟩ = some (.slice none 0 0) ∧ W.frozen? ⟨w.heap.size + 1, 0, none⟩ = false ∧ W.frozen? ⟨w.heap.size + 1, 1, none⟩ = false := by
  refine ⟨_, rfl, ((Below.refl _ w).alloc (Nat.le_refl _) _).alloc (by simp) _, by simp, by go_simp, by go_simp, by go_simp, by go_simp, by go_simp, by go_simp⟩
/-- The six facts of a box and a result's place, in a later world. -/
theorem six {W u : World} {B : Nat} {sv uv : Value} (hb : Below W.heap.size W u) (hB : B + 1 < W.heap.size) (c0 : W.cell? ⟨B, 0, none⟩ = some sv) (c1 : W.cell? ⟨B, 1, none⟩ = some uv) (r0 : W.cell? ⟨B + 1, 0, none⟩ = some (.slice none 0 0)) (r1 : W.cell? ⟨B + 1, 1, none⟩ = some (.slice none 0 0)) (f0 : W.frozen? ⟨B + 1, 0, none⟩ = false) (f1 : W.frozen? ⟨B + 1, 1, none⟩ = false) :
    u.cell? ⟨B, 0, none⟩ = some sv ∧ u.cell? ⟨B, 1, none⟩ = some uv ∧ u.cell? ⟨B + 1, 0, none⟩ = some (.slice none 0 0) ∧ u.cell? ⟨B + 1, 1, none⟩ = some (.slice none 0 0) ∧ u.frozen? ⟨B + 1, 0, none⟩ = false ∧ u.frozen? ⟨B + 1, 1, none⟩ = false := by
  have h0 : B < W.heap.size := by omega
  exact ⟨(hb.cell (p := ⟨B, 0, none⟩) h0).trans c0, (hb.cell (p := ⟨B, 1, none⟩) h0).trans c1, (hb.cell (p := ⟨B + 1, 0, none⟩) hB).trans r0, (hb.cell (p := ⟨B + 1, 1, none⟩) hB).trans r1, (hb.frozen (p := ⟨B + 1, 0, none⟩) hB).trans f0, (hb.frozen (p := ⟨B + 1, 1, none⟩) hB).trans f1⟩

/-- A device of the call's own, its writes' row known whole and made behind its texts. -/
def DevR (w : World) (base : Nat) (v : Value) (ts : List ByteArray) (xs : List (Int × ByteArray)) : Prop := ∃ sv uv mid, v = .agg #[sv, uv] ∧ base ≤ mid ∧ mid ≤ w.heap.size ∧ Own w base 1 sv ts.length (tc ts) ∧ Ex.Lies base mid sv ∧ w.ownsRow mid 64 2 uv xs.length (cl (pc xs) (xs.length * 2))
theorem DevR.devO {w : World} {base : Nat} {v : Value} {ts : List ByteArray} {xs : List (Int × ByteArray)} (h : DevR w base v ts xs) : DevO w base v ts xs := by
  obtain ⟨sv, uv, mid, rfl, hm, _, h1, h2, h3⟩ := h
  have h4 := row_own h3
  exact ⟨sv, uv, rfl, h1, h4.base hm, fun a n cap e hn => own_low h4 _ (h2 a n cap e hn).2⟩
theorem DevR.below {w w' : World} {base : Nat} {v : Value} {ts : List ByteArray} {xs : List (Int × ByteArray)} (h : DevR w base v ts xs) (hb : Below w.heap.size w w') : DevR w' base v ts xs := by
  obtain ⟨sv, uv, mid, rfl, hm, hm2, h1, h2, h3⟩ := h
  exact ⟨sv, uv, mid, rfl, hm, Nat.le_trans hm2 hb.size, h1.below hb, h2, row_below h3 hb⟩
theorem DevR.base {w : World} {base base' : Nat} {v : Value} {ts : List ByteArray} {xs : List (Int × ByteArray)} (h : DevR w base v ts xs) (hb : base' ≤ base) : DevR w base' v ts xs := by
  obtain ⟨sv, uv, mid, rfl, hm, hm2, h1, h2, h3⟩ := h
  exact ⟨sv, uv, mid, rfl, by omega, hm2, h1.base hb, fun a n cap e hn => ⟨Nat.le_trans hb (h2 a n cap e hn).1, (h2 a n cap e hn).2⟩, h3⟩
/-- A device of the call's own, stored into a place that is none of its own. -/
theorem put_dev {u : World} {base : Nat} {v1 v2 : Value} {ts : List ByteArray} {xs : List (Int × ByteArray)} (h : DevO u base (.agg #[v1, v2]) ts xs) {g : Nat} (hg : g < base) {x0 x1 : Value} (h0 : u.cell? ⟨g, 0, none⟩ = some x0) (h1 : u.cell? ⟨g, 1, none⟩ = some x1) :
    ∃ F, (u.setCell ⟨g, 0, none⟩ v1).setCell ⟨g, 1, none⟩ v2 = F ∧ DevO F base (.agg #[v1, v2]) ts xs ∧ F.cell? ⟨g, 0, none⟩ = some v1 ∧ F.cell? ⟨g, 1, none⟩ = some v2 ∧ ∀ B, B ≤ g → Below B u F := by
  obtain ⟨sv, uv, e, k1, k2, k3⟩ := h
  obtain ⟨rfl, rfl⟩ : v1 = sv ∧ v2 = uv := by simpa using e
  obtain ⟨r0, r1⟩ := LawD.stored (u := v1) (v := v2) h0 h1
  refine ⟨_, rfl, ⟨v1, v2, rfl, own_set_off (own_set_off k1 (own_low k1 g hg) _ _) (own_low k1 g hg) _ _, own_set_off (own_set_off k2 (own_low k2 g hg) _ _) (own_low k2 g hg) _ _, k3⟩, r0, r1, fun B hB => ?_⟩
  exact ((Below.refl B u).setCell (p := ⟨g, 0, none⟩) hB _).setCell (p := ⟨g, 1, none⟩) hB _

theorem put_devR {u : World} {base : Nat} {v1 v2 : Value} {ts : List ByteArray} {xs : List (Int × ByteArray)} (h : DevR u base (.agg #[v1, v2]) ts xs) {g : Nat} (hg : g < base) {x0 x1 : Value} (h0 : u.cell? ⟨g, 0, none⟩ = some x0) (h1 : u.cell? ⟨g, 1, none⟩ = some x1) :
    ∃ F, (u.setCell ⟨g, 0, none⟩ v1).setCell ⟨g, 1, none⟩ v2 = F ∧ DevR F base (.agg #[v1, v2]) ts xs ∧ F.cell? ⟨g, 0, none⟩ = some v1 ∧ F.cell? ⟨g, 1, none⟩ = some v2 ∧ ∀ B, B ≤ g → Below B u F := by
  obtain ⟨F, eF, _, r0, r1, hB⟩ := put_dev h.devO hg h0 h1
  obtain ⟨sv, uv, mid, e, hm, hm2, k1, k2, k3⟩ := h
  obtain ⟨rfl, rfl⟩ : v1 = sv ∧ v2 = uv := by simpa using e
  refine ⟨F, eF, ⟨v1, v2, mid, rfl, hm, Nat.le_trans hm2 (hB 0 (Nat.zero_le _)).size, ?_, k2, ?_⟩, r0, r1, hB⟩
  · rw [← eF]; exact own_set_off (own_set_off k1 (own_low k1 g hg) _ _) (own_low k1 g hg) _ _
  · rw [← eF]; exact row_set_off (row_set_off k3 (by omega) _ _) (by omega) _ _

set_option maxRecDepth 100000 in
set_option maxHeartbeats 1600000 in
theorem copied (w : World) (v : Value) (ts : List ByteArray) (xs : List (Int × ByteArray)) (h : Dev w v ts xs) (hn : ts.length ≤ 1048576) (hm : xs.length ≤ 1048576) :
    Calls Try.prog 47 #[v] w fun e w' => ∃ r, e = .returned r ∧ DevR w' w.heap.size r ts xs ∧ Below w.heap.size w w' := by
  obtain ⟨sv, uv, rfl, h1, h2⟩ := h
  obtain ⟨W, eW, hB, hlt, c0, c1, r0, r1, f0, f1⟩ := boxed w 26 26 sv uv
  have H1 := Lib.hid (h1.below hB)
  have H2 := Lib.hid (h2.below hB)
  have HB := Lib.hid hB
  have HLT := Lib.hid hlt
  have HSIX := Lib.hid (fun u (hb : Below W.heap.size W u) => six hb hlt c0 c1 r0 r1 f0 f1)
  clear h1 h2 hB
  go_enter Try.func47, Try.ntmps47
  go_wp2_with fail
  clear eW
  go_region_with (first
    | (go_at_call 75; refine (copiedSectors _ sv ts (H1.out.below (by first | exact below_drewN (Below.refl _ _) _ | exact below_drewN HE2.out _ | exact HE2.out)) hn).mono ?_; rintro e u1 ⟨a1, cap1, rfl, ho1, hb1⟩; have HO1 := Lib.hid ho1; have HF1 := Lib.hid hb1; have HE1 : Hid (Below W.heap.size W u1) := Lib.hid (by first | exact of_drewN hb1 | exact HE2.out.trans ((of_drewN hb1).mono HE2.out.size) | exact HE2.out.trans (hb1.mono HE2.out.size)); obtain ⟨g0, g1, g2, g3, g4, g5⟩ := HSIX.out u1 HE1.out; clear ho1 hb1)
    | (go_at_call 76; refine (clone _ uv xs (H2.out.below (by first | exact below_drewN (Below.refl _ _) _ | exact below_drewN HE1.out _ | exact HE1.out)) hm).mono ?_; rintro e u2 ⟨a2, cap2, rfl, ho2, hb2⟩; have HO2 := Lib.hid ho2; have HF2 := Lib.hid hb2; have HE2 : Hid (Below W.heap.size W u2) := Lib.hid (by first | exact of_drewN hb2 | exact HE1.out.trans ((of_drewN hb2).mono HE1.out.size) | exact HE1.out.trans (hb2.mono HE1.out.size)); obtain ⟨g0, g1, g2, g3, g4, g5⟩ := HSIX.out u2 HE2.out; clear ho2 hb2))
  all_goals
    have HD : Hid (DevR u2 W.heap.size (.agg #[.slice a1 ts.length cap1, .slice a2 xs.length cap2]) ts xs) := Lib.hid ⟨_, _, u1.heap.size, rfl, HE1.out.size, HF2.out.size, (HO1.out.below HF2.out).base (Nat.le_refl _), Ex.lies_of (HO1.out.base (Nat.le_refl _)) (by omega), HO2.out⟩
    obtain ⟨F, eF, hd, R0, R1, hbF⟩ := put_devR HD.out HLT.out g2 g3
    have HD2 := Lib.hid (hd.base HB.out.size)
    have HBF := Lib.hid (HB.out.trans ((HE2.out.mono HB.out.size).trans (hbF _ (by omega))))
    clear hd hbF
    rw [eF]
    clear eF
    go_wp2
    refine bodyPost_ret (v := .agg #[.slice a1 ts.length cap1, .slice a2 xs.length cap2]) (by simp [results, Try.results47, go_sem, R0, R1]) rfl ⟨_, rfl, HD2.out, HBF.out⟩

set_option maxRecDepth 100000 in
set_option maxHeartbeats 1600000 in
theorem l05Own (w : World) (v : Value) (ts : List ByteArray) (xs : List (Int × ByteArray)) (h : Dev w v ts xs) (hn : ts.length ≤ 1048576) (hm : xs.length ≤ 1048577) :
    Calls Try.prog 55 #[v] w fun e w' => ∃ r, e = .returned r ∧ DevO w' w.heap.size r ts xs ∧ Below w.heap.size w w' := by
  obtain ⟨sv, uv, rfl, h1, h2⟩ := h
  obtain ⟨W, eW, hB, hlt, c0, c1, r0, r1, f0, f1⟩ := boxed w 26 26 sv uv
  have H1 := Lib.hid (h1.below hB)
  have H2 := Lib.hid (h2.below hB)
  have HB := Lib.hid hB
  have HLT := Lib.hid hlt
  have HSIX := Lib.hid (fun u (hb : Below W.heap.size W u) => six hb hlt c0 c1 r0 r1 f0 f1)
  clear h1 h2 hB
  go_enter Try.func55, Try.ntmps55
  go_wp2_with fail
  clear eW
  have hm1 : ts.length ≤ maxLen := by unfold maxLen; omega
  have hm2 : xs.length ≤ maxLen := by unfold maxLen; omega
  have hl0 : w.heap.size < W.heap.size := by omega
  have hp1 : 0 < 1 := by omega
  have hp2 : 0 < 2 := by omega
  have hy1 : ts.length * 16 ≤ 140737488355328 := by omega
  have hy2 : xs.length * 24 ≤ 140737488355328 := by omega
  go_region_held3 (fun w' => w'.cell? ⟨w.heap.size, 0, none⟩ = some sv ∧ w'.cell? ⟨w.heap.size, 1, none⟩ = some uv)
    (first | exact ⟨c0, c1⟩ | exact ⟨g0, g1⟩ | (refine ⟨?_, ?_⟩ <;> go_simp))
    (first
    | (refine step_app0 _ rfl (.tmp 3) (.tmp 5) 23 rfl 9 1 16 _ Try.underlying23 LawS.info9 rfl hp1 _ rfl sv rfl ts.length (tc ts) ?_ (fun j _ => tc_one ts j) hm1 hy1 ?_; exact H1.out.below (by repeat (with_reducible (first | exact Below.refl _ _ | exact HE2.out | refine Below.drew ?_ | refine below_drewN ?_ _ | refine Below.alloc ?_ (by first | exact Nat.le_refl _ | omega | (simp; done) | (simp; omega)) _))); intro a1 cap1 u1 ho1 hb1; have HO1 := Lib.hid ho1; have HF1 := Lib.hid hb1; have HE1 : Hid (Below W.heap.size W u1) := Lib.hid (Below.trans (by repeat (with_reducible (first | exact Below.refl _ _ | exact HE2.out | refine Below.drew ?_ | refine below_drewN ?_ _ | refine Below.alloc ?_ (by first | exact Nat.le_refl _ | omega | (simp; done) | (simp; omega)) _))) (hb1.mono (by first | exact Nat.le_refl _ | omega | (simp; done) | (simp; omega)))); obtain ⟨g0, g1, g2, g3, g4, g5⟩ := HSIX.out u1 HE1.out; have hz1 := HE1.out.size; have lz1 : w.heap.size < u1.heap.size := (by omega); have mz1 : w.heap.size + 1 < u1.heap.size := (by omega); clear ho1 hb1)
    | (refine step_app0 _ rfl (.tmp 7) (.tmp 9) 24 rfl 64 2 24 _ Try.underlying24 LawI.info64 rfl hp2 _ rfl uv rfl xs.length (pc xs) ?_ (fun j _ => pc_one xs j) hm2 hy2 ?_; exact H2.out.below (by repeat (with_reducible (first | exact Below.refl _ _ | exact HE1.out | refine Below.drew ?_ | refine below_drewN ?_ _ | refine Below.alloc ?_ (by first | exact Nat.le_refl _ | omega | (simp; done) | (simp; omega)) _))); intro a2 cap2 u2 ho2 hb2; have HO2 := Lib.hid ho2; have HF2 := Lib.hid hb2; have HE2 : Hid (Below W.heap.size W u2) := Lib.hid (Below.trans (by repeat (with_reducible (first | exact Below.refl _ _ | exact HE1.out | refine Below.drew ?_ | refine below_drewN ?_ _ | refine Below.alloc ?_ (by first | exact Nat.le_refl _ | omega | (simp; done) | (simp; omega)) _))) (hb2.mono (by first | exact Nat.le_refl _ | omega | (simp; done) | (simp; omega)))); obtain ⟨g0, g1, g2, g3, g4, g5⟩ := HSIX.out u2 HE2.out; have hz2 := HE2.out.size; have lz2 : w.heap.size < u2.heap.size := (by omega); have mz2 : w.heap.size + 1 < u2.heap.size := (by omega); clear ho2 hb2))
  all_goals
    have HD : Hid (DevO u2 W.heap.size (.agg #[.slice a1 ts.length cap1, .slice a2 xs.length cap2]) ts xs) := Lib.hid (by
      have hb12 : Below u1.heap.size u1 u2 := by
        first
        | exact HF2.out
        | exact of_drewN HF2.out
        | exact ((Below.refl u1.heap.size u1).alloc (Nat.le_refl _) _).trans (HF2.out.mono (by simp))
      refine ⟨_, _, rfl, (HO1.out.below hb12).base (by first | exact Nat.le_refl _ | (simp; done) | (simp; omega)), HO2.out.base (by first | exact HE1.out.size | (simp; omega)), apart_of HO1.out.sl (by omega) HO2.out (by first | exact Nat.le_refl _ | (simp; done) | (simp; omega))⟩)
    obtain ⟨F, eF, hd, R0, R1, hbF⟩ := put_dev HD.out HLT.out g2 g3
    have HD2 := Lib.hid (hd.base HB.out.size)
    have HBF := Lib.hid (HB.out.trans ((HE2.out.mono HB.out.size).trans (hbF _ (by omega))))
    clear hd hbF
    rw [eF]
    clear eF
    go_wp2
    refine bodyPost_ret (v := .agg #[.slice a1 ts.length cap1, .slice a2 xs.length cap2]) (by simp [results, Try.results55, go_sem, R0, R1]) rfl ⟨_, rfl, HD2.out, HBF.out⟩
end Go.Proofs.Ytmgokpkogjdfhaa.Copied
