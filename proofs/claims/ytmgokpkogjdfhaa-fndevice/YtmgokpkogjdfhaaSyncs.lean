/-
  What is proved: all writes synced: the program and the model answer the same plain device and code, of the call's own (contracts for the walks).
-/
import Derived.Test.YtmgokpkogjdfhaaRows
import Derived.Test.YtmgokpkogjdfhaaCrash2
namespace Go.Proofs.Ytmgokpkogjdfhaa.Syncs
open Go.ChangeShapes Go.WideShapes Go.ChangeAt Go.RowKit
open Sl (Sl Own Off)
open OpenSl (tc nc pc)
open Dev Cop Copied Settle Crash Crash2
open Right
open Writes (zero_dev)
set_option linter.unusedVariables false

def code (ts : List ByteArray) (xs : List (Int × ByteArray)) : Int := if Rt ts xs then 0 else 1
def yts (ts : List ByteArray) (xs : List (Int × ByteArray)) : List ByteArray := if Rt ts xs then st ts xs [1] xs.length else []
theorem len_ok {ts : List ByteArray} {xs : List (Int × ByteArray)} (hn : ts.length ≤ 1048576) : 1 + (yts ts xs).length + ([] : List (Int × ByteArray)).length * 2 ≤ 10000000 := by
  have : (yts ts xs).length ≤ 1048576 := by
    unfold yts
    split
    · rw [st_len]; exact hn
    · simp
  simp
  omega
theorem lit_one (u : World) : ∃ U, u.alloc (.cells #[.int .i64 1] 3) = U ∧ Below u.heap.size u U ∧ Sl U 1 (.slice (some ⟨u.heap.size, 0, none⟩) 1 1) [(1 : Int)].length (nc [1]) := by
  refine ⟨_, rfl, (Below.refl _ u).alloc (Nat.le_refl _) _, _, 1, rfl, Nat.le_refl _, by unfold maxLen; omega, fun _ => ⟨u.heap.size, 0, rfl, fun j hj => ?_⟩⟩
  obtain rfl : j = 0 := by simp at hj; omega
  rw [cell_of_row _ u.heap.size (0 + 0) _ 3 (0, 0) (heap_alloc_new u _)]
  rfl

set_option maxRecDepth 100000 in
set_option maxHeartbeats 1600000 in
theorem spec (w : World) (v : Value) (ts : List ByteArray) (xs : List (Int × ByteArray)) (h : Dev w v ts xs) :
    Calls Try.prog 38 #[v] w fun e w' => ∃ r, e = .returned (.tuple #[r, .int .i64 (code ts xs)]) ∧ DevO w' w.heap.size r (yts ts xs) [] ∧ Below w.heap.size w w' := by
  have HV := Lib.hid h
  obtain ⟨a, p, a', p', rfl⟩ := Ex.form h
  obtain ⟨W, eW, hB, hlt, c0, c1, r0, r1, f0, f1⟩ := boxed w 26 26 (.slice a ts.length p) (.slice a' xs.length p')
  have HV2 := Lib.hid (HV.out.below hB)
  have HB := Lib.hid hB
  have HLT := Lib.hid hlt
  have HSIX := Lib.hid (fun u (hb : Below W.heap.size W u) => six hb hlt c0 c1 r0 r1 f0 f1)
  clear h hB
  go_enter Try.func38, Try.ntmps38
  go_wp2_with fail
  clear eW
  refine (deviceOK W _ ts xs HV2.out).mono ?_
  rintro e u1 ⟨rfl, hb⟩
  have HE1 := Lib.hid hb
  obtain ⟨g0, g1, g2, g3, g4, g5⟩ := HSIX.out u1 hb
  clear hb c0 c1 r0 r1 f0 f1
  by_cases hr : Rt ts xs
  case neg =>
    rw [decide_eq_false hr]
    have EC := Lib.hid (show code ts xs = 1 ∧ yts ts xs = [] by unfold code yts; rw [if_neg hr, if_neg hr]; exact ⟨rfl, rfl⟩)
    clear hr
    obtain ⟨F, eF, hd, R0, R1, hbF⟩ := put_dev (zero_dev u1 W.heap.size) HLT.out g2 g3
    have HD2 := Lib.hid (hd.base HB.out.size)
    have HBF := Lib.hid (HB.out.trans ((HE1.out.mono HB.out.size).trans (hbF w.heap.size (by omega))))
    clear hd hbF
    go_wp2_with fail
    refine bodyPost_ret (v := .tuple #[.agg #[.slice none 0 0, .slice none 0 0], .int .i64 1]) (by simp [results, Try.results38, go_sem, R0, R1]) rfl ⟨.agg #[.slice none 0 0, .slice none 0 0], ?_, ?_, HBF.out⟩
    · rw [EC.out.1]
    · rw [EC.out.2]; exact HD2.out
  rw [decide_eq_true hr]
  have HR := Lib.hid hr
  have EC := Lib.hid (show code ts xs = 0 ∧ yts ts xs = st ts xs [1] xs.length by unfold code yts; rw [if_pos hr, if_pos hr]; exact ⟨rfl, rfl⟩)
  clear hr
  go_wp2_with fail
  refine (l05Sync u1 _ ts xs (HV2.out.below HE1.out) HR.out).mono ?_
  rintro e u2 ⟨r2, rfl, ho0, hb⟩
  have HE2 := Lib.hid (HE1.out.trans (hb.mono HE1.out.size))
  have ho := ho0.base HE1.out.size
  clear hb ho0
  obtain ⟨a2, p2, b2, q2, rfl⟩ := Ex.form ho.dev
  obtain ⟨tr, etr⟩ : ∃ tr, st ts xs [1] xs.length = tr := ⟨_, rfl⟩
  rw [etr] at ho EC ⊢
  have HO2 : Hid (DevO u2 W.heap.size (.agg #[.slice a2 tr.length p2, .slice b2 0 q2]) tr []) := Lib.hid ho
  clear ho g0 g1 g2 g3 g4 g5 etr
  obtain ⟨g0, g1, g2, g3, g4, g5⟩ := HSIX.out u2 HE2.out
  obtain ⟨F, eF, hd, R0, R1, hbF⟩ := put_dev (HO2.out) HLT.out g2 g3
  have HD2 := Lib.hid (hd.base HB.out.size)
  have HBF := Lib.hid (HB.out.trans ((HE2.out.mono HB.out.size).trans (hbF w.heap.size (by omega))))
  clear hd hbF
  go_wp2_with fail
  refine bodyPost_ret (v := .tuple #[.agg #[.slice a2 tr.length p2, .slice b2 0 q2], .int .i64 0]) (by simp [results, Try.results38, go_sem, R0, R1]) rfl ⟨.agg #[.slice a2 tr.length p2, .slice b2 0 q2], ?_, ?_, HBF.out⟩
  · rw [EC.out.1]
  · rw [EC.out.2]; exact HD2.out

set_option maxRecDepth 100000 in
set_option maxHeartbeats 1600000 in
theorem impl (w : World) (v : Value) (ts : List ByteArray) (xs : List (Int × ByteArray)) (h : Dev w v ts xs) :
    Calls Try.prog 18 #[v] w fun e w' => ∃ r, e = .returned (.tuple #[r, .int .i64 (code ts xs)]) ∧ DevO w' w.heap.size r (yts ts xs) [] ∧ Below w.heap.size w w' := by
  have HV := Lib.hid h
  obtain ⟨a, p, a', p', rfl⟩ := Ex.form h
  obtain ⟨W, eW, hB, hlt, c0, c1, r0, r1, f0, f1⟩ := boxed w 26 26 (.slice a ts.length p) (.slice a' xs.length p')
  have HV2 := Lib.hid (HV.out.below hB)
  have HB := Lib.hid hB
  have HLT := Lib.hid hlt
  have HSIX := Lib.hid (fun u (hb : Below W.heap.size W u) => six hb hlt c0 c1 r0 r1 f0 f1)
  clear h hB
  go_enter Try.func18, Try.ntmps18
  go_wp2_with fail
  clear eW
  refine (right W _ ts xs HV2.out).mono ?_
  rintro e u1 ⟨rfl, hb⟩
  have HE1 := Lib.hid hb
  obtain ⟨g0, g1, g2, g3, g4, g5⟩ := HSIX.out u1 hb
  clear hb c0 c1 r0 r1 f0 f1
  by_cases hr : Rt ts xs
  case neg =>
    rw [decide_eq_false hr]
    have EC := Lib.hid (show code ts xs = 1 ∧ yts ts xs = [] by unfold code yts; rw [if_neg hr, if_neg hr]; exact ⟨rfl, rfl⟩)
    clear hr
    obtain ⟨F, eF, hd, R0, R1, hbF⟩ := put_dev (zero_dev u1 W.heap.size) HLT.out g2 g3
    have HD2 := Lib.hid (hd.base HB.out.size)
    have HBF := Lib.hid (HB.out.trans ((HE1.out.mono HB.out.size).trans (hbF w.heap.size (by omega))))
    clear hd hbF
    go_wp2_with fail
    refine bodyPost_ret (v := .tuple #[.agg #[.slice none 0 0, .slice none 0 0], .int .i64 1]) (by simp [results, Try.results18, go_sem, R0, R1]) rfl ⟨.agg #[.slice none 0 0, .slice none 0 0], ?_, ?_, HBF.out⟩
    · rw [EC.out.1]
    · rw [EC.out.2]; exact HD2.out
  rw [decide_eq_true hr]
  have HR := Lib.hid hr
  have EC := Lib.hid (show code ts xs = 0 ∧ yts ts xs = st ts xs [1] xs.length by unfold code yts; rw [if_pos hr, if_pos hr]; exact ⟨rfl, rfl⟩)
  clear hr
  go_wp2_with fail
  obtain ⟨U, eU, hbU, hsU⟩ : ∃ U, u1.alloc (.cells #[.int .i64 1] 3) = U ∧ Below u1.heap.size u1 U ∧ Sl U 1 (.slice (some ⟨u1.heap.size, 0, none⟩) 1 1) [(1 : Int)].length (nc [1]) := lit_one u1
  have HEU := Lib.hid (HE1.out.trans (hbU.mono HE1.out.size))
  have HSU := Lib.hid hsU
  clear hbU hsU
  rw [eU]
  clear eU
  refine (settled U _ _ ts xs [1] (HV2.out.below HEU.out) HR.out HSU.out (by simp)).mono ?_
  rintro e u2 ⟨r2, rfl, ho0, hb⟩
  have HE2 := Lib.hid (HEU.out.trans (hb.mono HEU.out.size))
  have ho := ho0.base HEU.out.size
  clear hb ho0
  obtain ⟨a2, p2, b2, q2, rfl⟩ := Ex.form ho.dev
  obtain ⟨tr, etr⟩ : ∃ tr, st ts xs [1] xs.length = tr := ⟨_, rfl⟩
  rw [etr] at ho EC ⊢
  have HO2 : Hid (DevO u2 W.heap.size (.agg #[.slice a2 tr.length p2, .slice b2 0 q2]) tr []) := Lib.hid ho
  clear ho g0 g1 g2 g3 g4 g5 etr
  obtain ⟨g0, g1, g2, g3, g4, g5⟩ := HSIX.out u2 HE2.out
  obtain ⟨F, eF, hd, R0, R1, hbF⟩ := put_dev (HO2.out) HLT.out g2 g3
  have HD2 := Lib.hid (hd.base HB.out.size)
  have HBF := Lib.hid (HB.out.trans ((HE2.out.mono HB.out.size).trans (hbF w.heap.size (by omega))))
  clear hd hbF
  go_wp2_with fail
  refine bodyPost_ret (v := .tuple #[.agg #[.slice a2 tr.length p2, .slice b2 0 q2], .int .i64 0]) (by simp [results, Try.results18, go_sem, R0, R1]) rfl ⟨.agg #[.slice a2 tr.length p2, .slice b2 0 q2], ?_, ?_, HBF.out⟩
  · rw [EC.out.1]
  · rw [EC.out.2]; exact HD2.out
end Go.Proofs.Ytmgokpkogjdfhaa.Syncs
