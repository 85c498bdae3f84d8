/-
  What is proved: a write at a sector of a device: the program and the model answer the same plain device and code, of the call's own (contracts for the walks).
-/
import Derived.Test.YtmgokpkogjdfhaaRows
import Derived.Test.YtmgokpkogjdfhaaCopied
import Derived.Test.YtmgokpkogjdfhaaReads
import Derived.Test.YtmgokpkogjdfhaaEx
namespace Go.Proofs.Ytmgokpkogjdfhaa.Writes
open Go.ChangeShapes Go.WideShapes Go.ChangeAt Go.RowKit
open Sl (Sl Own Off)
open OpenSl (tc nc pc)
open Dev Cop Copied
open Right
set_option linter.unusedVariables false

theorem pc_app (xs : List (Int × ByteArray)) (y : Int × ByteArray) (j : Nat) : pc (xs ++ [y]) j = if j < xs.length * 2 then pc xs j else pc [y] (j - xs.length * 2) := by
  unfold pc
  by_cases h : j < xs.length * 2
  · rw [if_pos h]
    have e : (xs ++ [y]).getD (j / 2) (0, ByteArray.empty) = xs.getD (j / 2) (0, ByteArray.empty) := by
      rw [List.getD_eq_getElem?_getD, List.getD_eq_getElem?_getD, List.getElem?_append_left (by omega)]
    rw [e]
  · rw [if_neg h]
    have e : (xs ++ [y]).getD (j / 2) (0, ByteArray.empty) = [y].getD ((j - xs.length * 2) / 2) (0, ByteArray.empty) := by
      rw [List.getD_eq_getElem?_getD, List.getD_eq_getElem?_getD, List.getElem?_append_right (by omega), show j / 2 - xs.length = (j - xs.length * 2) / 2 by omega]
    rw [e, show (j - xs.length * 2) % 2 = j % 2 by omega]
theorem cl_app (xs : List (Int × ByteArray)) (y : Int × ByteArray) : cl (pc xs) (xs.length * 2) ++ cl (pc [y]) (1 * 2) = cl (pc (xs ++ [y])) ((xs.length + 1) * 2) := by
  apply List.ext_getElem?
  intro j
  by_cases h : j < xs.length * 2
  · rw [List.getElem?_append_left (by rw [cl_len]; exact h), cl_get _ _ _ h, cl_get _ _ _ (by omega), pc_app, if_pos h]
  · by_cases h2 : j < (xs.length + 1) * 2
    · rw [List.getElem?_append_right (by rw [cl_len]; omega), cl_len, cl_get _ _ _ (by omega), cl_get _ _ _ h2, pc_app, if_neg h]
    · rw [List.getElem?_eq_none (by rw [List.length_append, cl_len, cl_len]; omega), List.getElem?_eq_none (by rw [cl_len]; omega)]
theorem lit1 (w : World) (z : Int) (t : ByteArray) (ty : TypeId) : Sl (w.alloc (.cells #[.int .i64 z, .string t] ty)) 2 (.slice (some ⟨w.heap.size, 0, none⟩) 1 1) 1 (pc [(z, t)]) := by
  refine ⟨_, 1, rfl, Nat.le_refl _, by unfold maxLen; omega, fun _ => ⟨w.heap.size, 0, rfl, fun j hj => ?_⟩⟩
  rw [Nat.zero_add, cell_of_row _ w.heap.size j _ ty (0, 0) (heap_alloc_new w _)]
  have : j = 0 ∨ j = 1 := by omega
  rcases this with rfl | rfl <;> rfl
theorem zero_dev (u : World) (base : Nat) : DevO u base (.agg #[.slice none 0 0, .slice none 0 0]) [] [] :=
  ⟨_, _, rfl, ⟨none, 0, rfl, Nat.le_refl _, by unfold maxLen; omega, fun h => absurd h (by simp)⟩, ⟨none, 0, rfl, Nat.le_refl _, by unfold maxLen; omega, fun h => absurd h (by simp)⟩, apart_empty _ _ _⟩

set_option maxRecDepth 100000 in
set_option maxHeartbeats 1600000 in
theorem l05Write (w : World) (v : Value) (ts : List ByteArray) (xs : List (Int × ByteArray)) (h : Dev w v ts xs) (hn : ts.length ≤ 1048576) (hm : xs.length ≤ 1048576) (z : Int) (t : ByteArray) :
    Calls Try.prog 70 #[v, .int .i64 z, .string t] w fun e w' => ∃ r, e = .returned r ∧ Dev w' r ts (xs ++ [(z, t)]) ∧ Below w.heap.size w w' := by
  have HV := Lib.hid h
  obtain ⟨a, p, a', p', rfl⟩ := Ex.form h
  obtain ⟨W, eW, hB, hlt, c0, c1, r0, r1, f0, f1⟩ := boxed w 26 26 (.slice a ts.length p) (.slice a' xs.length p')
  have hfz : W.frozen? ⟨w.heap.size, 1, none⟩ = false := by rw [← eW]; clear eW; go_simp
  have HFZ := Lib.hid hfz
  have HV2 := Lib.hid (HV.out.below hB)
  have H2 : Hid (Sl W 2 (.slice a' xs.length p') xs.length (pc xs)) := Lib.hid (by
    obtain ⟨s1, s2, e, _, k⟩ := HV2.out
    obtain ⟨rfl, rfl⟩ : Value.slice a ts.length p = s1 ∧ Value.slice a' xs.length p' = s2 := by simpa using e
    exact k)
  have HB := Lib.hid hB
  have HLT := Lib.hid hlt
  have HSIX := Lib.hid (fun u (hb : Below W.heap.size W u) => six hb hlt c0 c1 r0 r1 f0 f1)
  have HM := Lib.hid (World.ownsRow_made (base := W.heap.size) (e := 64) (size := 2) W #[] 0 (Nat.le_refl _) (by unfold maxLen; omega) rfl)
  have HB1 := Lib.hid ((Below.refl W.heap.size W).alloc (Nat.le_refl _) (.cells #[] 64))
  have hl0 : w.heap.size < W.heap.size := by omega
  have hp2 : 0 < 2 := by omega
  have hm1 : 0 + xs.length ≤ maxLen := by unfold maxLen; omega
  have hy1 : (0 + xs.length) * 24 ≤ 140737488355328 := by omega
  have hm2 : xs.length + 1 ≤ maxLen := by unfold maxLen; omega
  have hy2 : (xs.length + 1) * 24 ≤ 140737488355328 := by omega
  clear h hB
  go_enter Try.func70, Try.ntmps70
  go_wp2_with (at_builtin; first
    | (refine wpList_appR _ rfl (.tmp 7) (.tmp 9) 24 rfl W.heap.size 64 2 24 _ Try.underlying24 LawI.info64 rfl hp2 (.slice (some ⟨W.heap.size, 0, none⟩) 0 0) rfl 0 [] HM.out HB1.out.size (.slice a' xs.length p') rfl xs.length (pc xs) (H2.out.below HB1.out) (fun j _ => pc_one xs j) hm1 hy1 ?_; intro a1 cap1 u1 ho1 hg1; rw [Nat.zero_add, List.nil_append] at ho1; rw [Nat.zero_add]; have HE1 := Lib.hid (HB1.out.grown hg1 HB1.out.size (fun k hk => by cases hk; exact Nat.le_refl _)); obtain ⟨g0, g1, g2, g3, g4, g5⟩ := HSIX.out u1 HE1.out; have HO1 := Lib.hid ho1; have hz1 := HE1.out.size; have lz1 : w.heap.size < u1.heap.size := (by omega); clear ho1 hg1)
    | (refine wpList_appR _ rfl (.tmp 10) (.tmp 14) 24 rfl W.heap.size 64 2 24 _ Try.underlying24 LawI.info64 rfl hp2 (.slice a1 xs.length cap1) rfl xs.length (cl (pc xs) (xs.length * 2)) (World.ownsRow.alloc HO1.out _) (by simp; omega) (.slice (some ⟨u1.heap.size, 0, none⟩) 1 1) rfl 1 (pc [(z, t)]) (lit1 u1 z t 64) (fun j _ => pc_one _ j) hm2 hy2 ?_; intro a2 cap2 u2 ho2 hg2; have HE2 := Lib.hid ((HE1.out.alloc HE1.out.size (.cells #[.int .i64 z, .string t] 64)).grown hg2 (by simp; omega) (fun k hk => (World.ownsRow.lt HO1.out k hk).1)); obtain ⟨g0, g1, g2, g3, g4, g5⟩ := HSIX.out u2 HE2.out; have fz2 := (HE2.out.frozen (p := ⟨w.heap.size, 1, none⟩) hl0).trans HFZ.out; have HO2 := Lib.hid ho2; have hz2 := HE2.out.size; have lz2 : w.heap.size < u2.heap.size := (by omega); clear ho2 hg2))
  have HOF := Lib.hid (row_set_off (row_set_off (row_set_off HO2.out hl0 1 (.slice a2 (xs.length + 1) cap2)) hlt 0 (.slice a ts.length p)) hlt 1 (.slice a2 (xs.length + 1) cap2))
  have HBF := Lib.hid ((((HB.out.trans (HE2.out.mono HB.out.size)).setCell (p := ⟨w.heap.size, 1, none⟩) (Nat.le_refl _) (.slice a2 (xs.length + 1) cap2)).setCell (p := ⟨w.heap.size + 1, 0, none⟩) (by simp) (.slice a ts.length p)).setCell (p := ⟨w.heap.size + 1, 1, none⟩) (by simp) (.slice a2 (xs.length + 1) cap2))
  rw [← World.cell?_setCell_other u2 ⟨w.heap.size, 1, none⟩ _ (.slice a2 (xs.length + 1) cap2) (by simp)] at g2 g3
  obtain ⟨R0, R1⟩ := LawD.stored (u := .slice a ts.length p) (v := .slice a2 (xs.length + 1) cap2) g2 g3
  generalize World.setCell (World.setCell (World.setCell _ _ _) _ _) _ _ = F at *
  refine bodyPost_ret (v := .agg #[.slice a ts.length p, .slice a2 (xs.length + 1) cap2]) (by simp [results, Try.results70, go_sem, R0, R1]) rfl ⟨_, rfl, ?_, HBF.out⟩
  obtain ⟨s1, s2, e, k1, k2⟩ := HV.out.below HBF.out
  obtain ⟨rfl, rfl⟩ : Value.slice a ts.length p = s1 ∧ Value.slice a' xs.length p' = s2 := by simpa using e
  refine ⟨_, _, rfl, k1, ?_⟩
  have ho := HOF.out
  rw [cl_app] at ho
  have hl : (xs ++ [(z, t)]).length = xs.length + 1 := by simp
  rw [hl]
  exact (row_own ho).sl
/-- The code that both answer. -/
def wcode (ts : List ByteArray) (xs : List (Int × ByteArray)) (z : Int) (t : ByteArray) : Int := if 65536 < t.size then 2 else if fault ts xs z = 0 then (if 700 < t.size then 8 else if xs.length = 60 then 7 else 0) else fault ts xs z
def wts (ts : List ByteArray) (xs : List (Int × ByteArray)) (z : Int) (t : ByteArray) : List ByteArray := if 65536 < t.size then [] else if fault ts xs z = 0 then ts else []
def wxs (ts : List ByteArray) (xs : List (Int × ByteArray)) (z : Int) (t : ByteArray) : List (Int × ByteArray) := if 65536 < t.size then [] else if fault ts xs z = 0 then (if 700 < t.size then xs else if xs.length = 60 then xs else xs ++ [(z, t)]) else []
theorem case_long (ts : List ByteArray) (xs : List (Int × ByteArray)) (z : Int) (t : ByteArray) (h : 65536 < t.size) : wcode ts xs z t = 2 ∧ wts ts xs z t = [] ∧ wxs ts xs z t = [] := by
  unfold wcode wts wxs
  simp only [if_pos h, and_self]
theorem case_fault (ts : List ByteArray) (xs : List (Int × ByteArray)) (z : Int) (t : ByteArray) (h : ¬ 65536 < t.size) {c : Int} (hf : fault ts xs z = c) (hc : c ≠ 0) : wcode ts xs z t = c ∧ wts ts xs z t = [] ∧ wxs ts xs z t = [] := by
  unfold wcode wts wxs
  simp only [if_neg h, hf, if_neg hc, and_self]
theorem case_size (ts : List ByteArray) (xs : List (Int × ByteArray)) (z : Int) (t : ByteArray) (h : ¬ 65536 < t.size) (hf : fault ts xs z = 0) (h7 : 700 < t.size) : wcode ts xs z t = 8 ∧ wts ts xs z t = ts ∧ wxs ts xs z t = xs := by
  unfold wcode wts wxs
  simp only [if_neg h, hf, if_pos h7, if_true, and_self]
theorem case_full (ts : List ByteArray) (xs : List (Int × ByteArray)) (z : Int) (t : ByteArray) (h : ¬ 65536 < t.size) (hf : fault ts xs z = 0) (h7 : ¬ 700 < t.size) (h6 : xs.length = 60) : wcode ts xs z t = 7 ∧ wts ts xs z t = ts ∧ wxs ts xs z t = xs := by
  unfold wcode wts wxs
  simp only [if_neg h, hf, if_neg h7, if_pos h6, if_true, and_self]
theorem case_ok (ts : List ByteArray) (xs : List (Int × ByteArray)) (z : Int) (t : ByteArray) (h : ¬ 65536 < t.size) (hf : fault ts xs z = 0) (h7 : ¬ 700 < t.size) (h6 : ¬ xs.length = 60) : wcode ts xs z t = 0 ∧ wts ts xs z t = ts ∧ wxs ts xs z t = xs ++ [(z, t)] := by
  unfold wcode wts wxs
  simp only [if_neg h, hf, if_neg h7, if_neg h6, if_true, and_self]

theorem len_ok {ts : List ByteArray} {xs : List (Int × ByteArray)} (hn : ts.length ≤ 1048576) (hm : xs.length ≤ 1048576) (z : Int) (t : ByteArray) : 1 + (wts ts xs z t).length + (wxs ts xs z t).length * 2 ≤ 10000000 := by
  have h1 : (wts ts xs z t).length ≤ 1048576 := by
    unfold wts
    split
    · simp
    · split
      · exact hn
      · simp
  have h2 : (wxs ts xs z t).length ≤ 1048577 := by
    unfold wxs
    split
    · simp
    · split
      · split
        · omega
        · split
          · omega
          · simp; omega
      · simp
  omega

set_option maxRecDepth 100000 in
set_option maxHeartbeats 1600000 in
theorem spec (w : World) (v : Value) (ts : List ByteArray) (xs : List (Int × ByteArray)) (h : Dev w v ts xs) (hn : ts.length ≤ 1048576) (hm : xs.length ≤ 1048576) (z : Int) (t : ByteArray) (ht : t.size ≤ maxLen) :
    Calls Try.prog 37 #[v, .int .i64 z, .string t] w fun e w' => ∃ r, e = .returned (.tuple #[r, .int .i64 (wcode ts xs z t)]) ∧ DevO w' w.heap.size r (wts ts xs z t) (wxs ts xs z t) ∧ Below w.heap.size w w' := by
  have HV := Lib.hid h
  obtain ⟨a, p, a', p', rfl⟩ := Ex.form h
  obtain ⟨W, eW, hB, hlt, c0, c1, r0, r1, f0, f1⟩ := boxed w 26 26 (.slice a ts.length p) (.slice a' xs.length p')
  have HV2 := Lib.hid (HV.out.below hB)
  have HB := Lib.hid hB
  have HLT := Lib.hid hlt
  have HSIX := Lib.hid (fun u (hb : Below W.heap.size W u) => six hb hlt c0 c1 r0 r1 f0 f1)
  have HE0 := Lib.hid (Below.refl W.heap.size W)
  unfold maxLen at ht
  clear h hB
  by_cases hb : 65536 < t.size
  · have EC := Lib.hid (case_long ts xs z t hb)
    obtain ⟨g0, g1, g2, g3, g4, g5⟩ := HSIX.out W HE0.out
    go_enter Try.func37, Try.ntmps37
    obtain ⟨F, eF, hd, R0, R1, hbF⟩ := put_dev (zero_dev W W.heap.size) HLT.out g2 g3
    have HD2 := Lib.hid (hd.base HB.out.size)
    have HBF := Lib.hid (HB.out.trans ((HE0.out.mono HB.out.size).trans (hbF w.heap.size (by omega))))
    clear hd hbF
    go_wp2_with fail
    refine bodyPost_ret (v := .tuple #[.agg #[.slice none 0 0, .slice none 0 0], .int .i64 2]) (by simp [results, Try.results37, go_sem, R0, R1]) rfl ⟨.agg #[.slice none 0 0, .slice none 0 0], ?_, ?_, HBF.out⟩
    · rw [EC.out.1]
    · rw [EC.out.2.1, EC.out.2.2]; exact HD2.out
  have hbn := Lib.hid hb
  have dL : decide (65536 < (t.size : Int)) = false := decide_eq_false (by omega)
  clear hb
  go_enter Try.func37, Try.ntmps37
  go_wp2_with fail
  clear eW dL
  refine (deviceOK W _ ts xs HV2.out).mono ?_
  rintro e u1 ⟨rfl, hb⟩
  have HE1 := Lib.hid hb
  obtain ⟨g0, g1, g2, g3, g4, g5⟩ := HSIX.out u1 hb
  clear hb c0 c1 r0 r1 f0 f1
  by_cases hr : Rt ts xs
  case neg =>
    rw [decide_eq_false hr]
    have EC := Lib.hid (case_fault ts xs z t hbn.out (c := 1) (by unfold fault; rw [if_neg hr]) (by omega))
    clear hr
    obtain ⟨F, eF, hd, R0, R1, hbF⟩ := put_dev (zero_dev u1 W.heap.size) HLT.out g2 g3
    have HD2 := Lib.hid (hd.base HB.out.size)
    have HBF := Lib.hid (HB.out.trans ((HE1.out.mono HB.out.size).trans (hbF w.heap.size (by omega))))
    clear hd hbF
    go_wp2_with fail
    refine bodyPost_ret (v := .tuple #[.agg #[.slice none 0 0, .slice none 0 0], .int .i64 1]) (by simp [results, Try.results37, go_sem, R0, R1]) rfl ⟨.agg #[.slice none 0 0, .slice none 0 0], ?_, ?_, HBF.out⟩
    · rw [EC.out.1]
    · rw [EC.out.2.1, EC.out.2.2]; exact HD2.out
  rw [decide_eq_true hr]
  have HR := Lib.hid hr
  clear hr
  go_wp2_with fail
  refine (l05In z _).mono ?_
  rintro e u ⟨rfl, rfl⟩
  by_cases hi : In z
  case neg =>
    rw [decide_eq_false hi]
    have EC := Lib.hid (case_fault ts xs z t hbn.out (c := 4) (by unfold fault; rw [if_pos HR.out, if_neg hi]) (by omega))
    clear hi
    obtain ⟨F, eF, hd, R0, R1, hbF⟩ := put_dev (zero_dev u W.heap.size) HLT.out g2 g3
    have HD2 := Lib.hid (hd.base HB.out.size)
    have HBF := Lib.hid (HB.out.trans ((HE1.out.mono HB.out.size).trans (hbF w.heap.size (by omega))))
    clear hd hbF
    go_wp2_with fail
    refine bodyPost_ret (v := .tuple #[.agg #[.slice none 0 0, .slice none 0 0], .int .i64 4]) (by simp [results, Try.results37, go_sem, R0, R1]) rfl ⟨.agg #[.slice none 0 0, .slice none 0 0], ?_, ?_, HBF.out⟩
    · rw [EC.out.1]
    · rw [EC.out.2.1, EC.out.2.2]; exact HD2.out
  rw [decide_eq_true hi]
  have HF := Lib.hid (show fault ts xs z = 0 by unfold fault; rw [if_pos HR.out, if_pos hi])
  clear hi
  by_cases hb7 : 700 < t.size
  · have EC := Lib.hid (case_size ts xs z t hbn.out HF.out hb7)
    go_wp2_with fail
    refine (l05Own u _ ts xs (HV2.out.below HE1.out) hn (by omega)).mono ?_
    rintro e u2 ⟨r2, rfl, ho, hb⟩
    have HE2 := Lib.hid (HE1.out.trans (hb.mono HE1.out.size))
    have HO2 := Lib.hid (ho.base HE1.out.size)
    obtain ⟨a2, p2, b2, q2, rfl⟩ := Ex.form ho.dev
    clear ho hb g0 g1 g2 g3 g4 g5
    obtain ⟨g0, g1, g2, g3, g4, g5⟩ := HSIX.out u2 HE2.out
    obtain ⟨F, eF, hd, R0, R1, hbF⟩ := put_dev (HO2.out) HLT.out g2 g3
    have HD2 := Lib.hid (hd.base HB.out.size)
    have HBF := Lib.hid (HB.out.trans ((HE2.out.mono HB.out.size).trans (hbF w.heap.size (by omega))))
    clear hd hbF
    go_wp2_with fail
    refine bodyPost_ret (v := .tuple #[.agg #[.slice a2 ts.length p2, .slice b2 xs.length q2], .int .i64 8]) (by simp [results, Try.results37, go_sem, R0, R1]) rfl ⟨.agg #[.slice a2 ts.length p2, .slice b2 xs.length q2], ?_, ?_, HBF.out⟩
    · rw [EC.out.1]
    · rw [EC.out.2.1, EC.out.2.2]; exact HD2.out
  have d7 : decide (700 < (t.size : Int)) = false := decide_eq_false (by omega)
  have hb7n := Lib.hid hb7
  clear hb7
  by_cases h60 : xs.length = 60
  · have EC := Lib.hid (case_full ts xs z t hbn.out HF.out hb7n.out h60)
    have d60 : ((xs.length : Int) == 60) = true := by rw [h60]; rfl
    clear h60
    go_wp2_with fail
    refine (l05Own u _ ts xs (HV2.out.below HE1.out) hn (by omega)).mono ?_
    rintro e u2 ⟨r2, rfl, ho, hb⟩
    have HE2 := Lib.hid (HE1.out.trans (hb.mono HE1.out.size))
    have HO2 := Lib.hid (ho.base HE1.out.size)
    obtain ⟨a2, p2, b2, q2, rfl⟩ := Ex.form ho.dev
    clear ho hb g0 g1 g2 g3 g4 g5
    obtain ⟨g0, g1, g2, g3, g4, g5⟩ := HSIX.out u2 HE2.out
    obtain ⟨F, eF, hd, R0, R1, hbF⟩ := put_dev (HO2.out) HLT.out g2 g3
    have HD2 := Lib.hid (hd.base HB.out.size)
    have HBF := Lib.hid (HB.out.trans ((HE2.out.mono HB.out.size).trans (hbF w.heap.size (by omega))))
    clear hd hbF
    go_wp2_with fail
    refine bodyPost_ret (v := .tuple #[.agg #[.slice a2 ts.length p2, .slice b2 xs.length q2], .int .i64 7]) (by simp [results, Try.results37, go_sem, R0, R1]) rfl ⟨.agg #[.slice a2 ts.length p2, .slice b2 xs.length q2], ?_, ?_, HBF.out⟩
    · rw [EC.out.1]
    · rw [EC.out.2.1, EC.out.2.2]; exact HD2.out
  have EC := Lib.hid (case_ok ts xs z t hbn.out HF.out hb7n.out h60)
  have d60 : ((xs.length : Int) == 60) = false := beq_eq_false_iff_ne.2 (by omega)
  clear h60
  go_wp2_with fail
  refine (l05Write u _ ts xs (HV2.out.below HE1.out) hn hm z t).mono ?_
  rintro e u2 ⟨r2, rfl, hd, hb⟩
  have HE2 := Lib.hid (HE1.out.trans (hb.mono HE1.out.size))
  obtain ⟨ys, ey⟩ : ∃ ys, xs ++ [(z, t)] = ys := ⟨_, rfl⟩
  have hly : ys.length ≤ 1048577 := by rw [← ey]; simp; omega
  rw [ey] at hd EC
  have HD := Lib.hid hd
  clear hd hb ey
  go_wp2_with fail
  refine (l05Own u2 _ ts ys HD.out hn hly).mono ?_
  rintro e u3 ⟨r3, rfl, ho, hb⟩
  have HE3 := Lib.hid (HE2.out.trans (hb.mono HE2.out.size))
  have HO3 := Lib.hid (ho.base HE2.out.size)
  obtain ⟨a2, p2, b2, q2, rfl⟩ := Ex.form ho.dev
  clear ho hb g0 g1 g2 g3 g4 g5
  obtain ⟨g0, g1, g2, g3, g4, g5⟩ := HSIX.out u3 HE3.out
  obtain ⟨F, eF, hd, R0, R1, hbF⟩ := put_dev (HO3.out) HLT.out g2 g3
  have HD2 := Lib.hid (hd.base HB.out.size)
  have HBF := Lib.hid (HB.out.trans ((HE3.out.mono HB.out.size).trans (hbF w.heap.size (by omega))))
  clear hd hbF
  go_wp2_with fail
  refine bodyPost_ret (v := .tuple #[.agg #[.slice a2 ts.length p2, .slice b2 ys.length q2], .int .i64 0]) (by simp [results, Try.results37, go_sem, R0, R1]) rfl ⟨.agg #[.slice a2 ts.length p2, .slice b2 ys.length q2], ?_, ?_, HBF.out⟩
  · rw [EC.out.1]
  · rw [EC.out.2.1, EC.out.2.2]; exact HD2.out

set_option maxRecDepth 100000 in
set_option maxHeartbeats 1600000 in
theorem impl (w : World) (v : Value) (ts : List ByteArray) (xs : List (Int × ByteArray)) (h : Dev w v ts xs) (hn : ts.length ≤ 1048576) (hm : xs.length ≤ 1048576) (z : Int) (t : ByteArray) (ht : t.size ≤ maxLen) :
    Calls Try.prog 16 #[v, .int .i64 z, .string t] w fun e w' => ∃ r, e = .returned (.tuple #[r, .int .i64 (wcode ts xs z t)]) ∧ DevO w' w.heap.size r (wts ts xs z t) (wxs ts xs z t) ∧ Below w.heap.size w w' := by
  have HV := Lib.hid h
  obtain ⟨a, p, a', p', rfl⟩ := Ex.form h
  obtain ⟨W, eW, hB, hlt, c0, c1, r0, r1, f0, f1⟩ := boxed w 26 26 (.slice a ts.length p) (.slice a' xs.length p')
  have HV2 := Lib.hid (HV.out.below hB)
  have HB := Lib.hid hB
  have HLT := Lib.hid hlt
  have HSIX := Lib.hid (fun u (hb : Below W.heap.size W u) => six hb hlt c0 c1 r0 r1 f0 f1)
  have HE0 := Lib.hid (Below.refl W.heap.size W)
  unfold maxLen at ht
  clear h hB
  by_cases hb : 65536 < t.size
  · have EC := Lib.hid (case_long ts xs z t hb)
    obtain ⟨g0, g1, g2, g3, g4, g5⟩ := HSIX.out W HE0.out
    go_enter Try.func16, Try.ntmps16
    obtain ⟨F, eF, hd, R0, R1, hbF⟩ := put_dev (zero_dev W W.heap.size) HLT.out g2 g3
    have HD2 := Lib.hid (hd.base HB.out.size)
    have HBF := Lib.hid (HB.out.trans ((HE0.out.mono HB.out.size).trans (hbF w.heap.size (by omega))))
    clear hd hbF
    go_wp2_with fail
    refine bodyPost_ret (v := .tuple #[.agg #[.slice none 0 0, .slice none 0 0], .int .i64 2]) (by simp [results, Try.results16, go_sem, R0, R1]) rfl ⟨.agg #[.slice none 0 0, .slice none 0 0], ?_, ?_, HBF.out⟩
    · rw [EC.out.1]
    · rw [EC.out.2.1, EC.out.2.2]; exact HD2.out
  have hbn := Lib.hid hb
  have dL : decide (65536 < (t.size : Int)) = false := decide_eq_false (by omega)
  clear hb
  go_enter Try.func16, Try.ntmps16
  go_wp2_with fail
  clear eW dL
  refine (sectorFault W _ ts xs HV2.out z).mono ?_
  rintro e u1 ⟨rfl, hb⟩
  have HE1 := Lib.hid hb
  obtain ⟨g0, g1, g2, g3, g4, g5⟩ := HSIX.out u1 hb
  clear hb c0 c1 r0 r1 f0 f1
  by_cases hf : fault ts xs z = 0
  case neg =>
    obtain ⟨q, eq⟩ : ∃ q, fault ts xs z = q := ⟨_, rfl⟩
    have EC := Lib.hid (case_fault ts xs z t hbn.out eq (by rw [← eq]; exact hf))
    rw [eq] at hf ⊢
    clear eq
    have hd : (q != 0) = true := bne_iff_ne.2 hf
    obtain ⟨F, eF, hd, R0, R1, hbF⟩ := put_dev (zero_dev u1 W.heap.size) HLT.out g2 g3
    have HD2 := Lib.hid (hd.base HB.out.size)
    have HBF := Lib.hid (HB.out.trans ((HE1.out.mono HB.out.size).trans (hbF w.heap.size (by omega))))
    clear hd hbF
    go_wp2_with fail
    refine bodyPost_ret (v := .tuple #[.agg #[.slice none 0 0, .slice none 0 0], .int .i64 q]) (by simp [results, Try.results16, go_sem, R0, R1]) rfl ⟨.agg #[.slice none 0 0, .slice none 0 0], ?_, ?_, HBF.out⟩
    · rw [EC.out.1]
    · rw [EC.out.2.1, EC.out.2.2]; exact HD2.out
  have HF := Lib.hid hf
  rw [hf]
  clear hf
  go_wp2_with fail
  refine (copied u1 _ ts xs (HV2.out.below HE1.out) hn hm).mono ?_
  rintro e u2 ⟨r2, rfl, ho, hb⟩
  have HE2 := Lib.hid (HE1.out.trans (hb.mono HE1.out.size))
  have HO2 := Lib.hid (ho.base HE1.out.size)
  obtain ⟨a2, p2, b2, q2, rfl⟩ := Ex.form ho.devO.dev
  clear ho hb
  obtain ⟨U, eU, hb, hzU, x0, x1⟩ := Ex.boxU u2 26 (.slice a2 ts.length p2) (.slice b2 xs.length q2)
  have fx1 : U.frozen? ⟨u2.heap.size, 1, none⟩ = false := by rw [← eU]; clear eU; go_simp
  have HE3 := Lib.hid (HE2.out.trans (hb.mono HE2.out.size))
  have HO3 := Lib.hid (HO2.out.below hb)
  have HZU := Lib.hid hzU
  clear hb hzU g0 g1 g2 g3 g4 g5
  obtain ⟨g0, g1, g2, g3, g4, g5⟩ := HSIX.out U HE3.out
  by_cases hb7 : 700 < t.size
  · have EC := Lib.hid (case_size ts xs z t hbn.out HF.out hb7)
    obtain ⟨F, eF, hd, R0, R1, hbF⟩ := put_dev (HO3.out.devO) HLT.out g2 g3
    have HD2 := Lib.hid (hd.base HB.out.size)
    have HBF := Lib.hid (HB.out.trans ((HE3.out.mono HB.out.size).trans (hbF w.heap.size (by omega))))
    clear hd hbF
    go_wp2_with fail
    refine bodyPost_ret (v := .tuple #[.agg #[.slice a2 ts.length p2, .slice b2 xs.length q2], .int .i64 8]) (by simp [results, Try.results16, go_sem, R0, R1]) rfl ⟨.agg #[.slice a2 ts.length p2, .slice b2 xs.length q2], ?_, ?_, HBF.out⟩
    · rw [EC.out.1]
    · rw [EC.out.2.1, EC.out.2.2]; exact HD2.out
  have d7 : decide (700 < (t.size : Int)) = false := decide_eq_false (by omega)
  have hb7n := Lib.hid hb7
  clear hb7
  by_cases h60 : xs.length = 60
  · have EC := Lib.hid (case_full ts xs z t hbn.out HF.out hb7n.out h60)
    have d60 : ((xs.length : Int) == 60) = true := by rw [h60]; rfl
    clear h60
    obtain ⟨F, eF, hd, R0, R1, hbF⟩ := put_dev (HO3.out.devO) HLT.out g2 g3
    have HD2 := Lib.hid (hd.base HB.out.size)
    have HBF := Lib.hid (HB.out.trans ((HE3.out.mono HB.out.size).trans (hbF w.heap.size (by omega))))
    clear hd hbF
    go_wp2_with fail
    refine bodyPost_ret (v := .tuple #[.agg #[.slice a2 ts.length p2, .slice b2 xs.length q2], .int .i64 7]) (by simp [results, Try.results16, go_sem, R0, R1]) rfl ⟨.agg #[.slice a2 ts.length p2, .slice b2 xs.length q2], ?_, ?_, HBF.out⟩
    · rw [EC.out.1]
    · rw [EC.out.2.1, EC.out.2.2]; exact HD2.out
  have EC := Lib.hid (case_ok ts xs z t hbn.out HF.out hb7n.out h60)
  have d60 : ((xs.length : Int) == 60) = false := beq_eq_false_iff_ne.2 (by omega)
  clear h60
  obtain ⟨s9, v9, mid, e9, hm9, hm8, k1, k2, k3⟩ := HO2.out
  obtain ⟨rfl, rfl⟩ : Value.slice a2 ts.length p2 = s9 ∧ Value.slice b2 xs.length q2 = v9 := by simpa using e9
  have HBU := Lib.hid (show Below u2.heap.size u2 U by rw [← eU]; exact (Below.refl _ _).alloc (Nat.le_refl _) _)
  have HUB := Lib.hid (show U.heap[u2.heap.size]? = some (.cells #[.slice a2 ts.length p2, .slice b2 xs.length q2] 26 (0, 0)) by rw [← eU]; exact heap_alloc_new u2 _)
  have K1 := Lib.hid (k1.below HBU.out)
  have K2 := Lib.hid k2
  have K3 := Lib.hid (row_below k3 HBU.out)
  have KL := Lib.hid (World.ownsRow.lt k3)
  have HM9 := Lib.hid hm9
  have HM8 := Lib.hid hm8
  have HX := Lib.hid x0
  have HX1 := Lib.hid x1
  have HFX := Lib.hid fx1
  have hp2 : 0 < 2 := by omega
  have hm2 : xs.length + 1 ≤ maxLen := by unfold maxLen; omega
  have hy2 : (xs.length + 1) * 24 ≤ 140737488355328 := by omega
  have HBA := Lib.hid ((Below.refl U.heap.size U).alloc (Nat.le_refl _) (.cells #[.int .i64 z, .string t] 64))
  have HFAR := Lib.hid (fun u4 (hg : (U.alloc (.cells #[.int .i64 z, .string t] 64)).grownBy u4 (Value.slice b2 xs.length q2).ownBlock) =>
    show u4.heap[u2.heap.size]? = U.heap[u2.heap.size]? from (hg.block u2.heap.size (by have := HZU.out; simp; omega) (fun e => by have := (KL.out _ e.symm).2; omega)).trans (Below.heap_alloc U _ u2.heap.size (by have := HZU.out; omega)))
  have HBG := Lib.hid (fun u4 (hg : (U.alloc (.cells #[.int .i64 z, .string t] 64)).grownBy u4 (Value.slice b2 xs.length q2).ownBlock) =>
    show Below W.heap.size W u4 from (HE3.out.alloc HE3.out.size (.cells #[.int .i64 z, .string t] 64)).grown hg (Nat.le_trans HE3.out.size (by simp)) (fun k hk => Nat.le_trans HM9.out (KL.out k hk).1))
  have lz2 : w.heap.size + 1 < u2.heap.size := by have := HE2.out.size; have := HLT.out; omega
  have ne1 : ¬ w.heap.size + 1 = u2.heap.size := by omega
  have ne2 : ¬ u2.heap.size = w.heap.size + 1 := by omega
  have lU : u2.heap.size < U.heap.size := by have := HZU.out; omega
  have HMU := Lib.hid (show mid ≤ (U.alloc (.cells #[.int .i64 z, .string t] 64)).heap.size by have := HM8.out; simp; omega)
  clear k1 k2 k3 hm9 hm8 e9
  go_wp2_with (at_builtin; (refine wpList_appR _ rfl (.tmp 33) (.tmp 37) 24 rfl mid 64 2 24 _ Try.underlying24 LawI.info64 rfl hp2 (.slice b2 xs.length q2) rfl xs.length (cl (pc xs) (xs.length * 2)) (World.ownsRow.alloc K3.out _) HMU.out (.slice (some ⟨U.heap.size, 0, none⟩) 1 1) rfl 1 (pc [(z, t)]) (lit1 U z t 64) (fun j _ => pc_one _ j) hm2 hy2 ?_; intro a4 cap4 u4 ho4 hg4; have HO4 := Lib.hid ho4; have HF4 := Lib.hid (HFAR.out u4 hg4); have HE4 := Lib.hid (HBG.out u4 hg4); have y0 := (World.cell?_of_block (w := U) (a := ⟨u2.heap.size, 0, none⟩) HF4.out).trans HX.out; have y1 := (World.cell?_of_block (w := U) (a := ⟨u2.heap.size, 1, none⟩) HF4.out).trans HX1.out; have y2 := (World.frozen?_of_block (w := U) (a := ⟨u2.heap.size, 1, none⟩) HF4.out).trans HFX.out; obtain ⟨g0, g1, g2, g3, g4, g5⟩ := HSIX.out u4 HE4.out; have HG4 := Lib.hid hg4; clear ho4 hg4))
  have hoff : ∀ k, (Value.slice a4 (xs.length + 1) cap4).ownBlock = some k → k ≠ u2.heap.size := row_off HO4.out (HF4.out.trans HUB.out) (by decide)
  have HO5 := Lib.hid (row_set_ne HO4.out hoff 1 (.slice a4 (xs.length + 1) cap4))
  have HK4 := Lib.hid (own_grown (K1.out.below HBA.out) HG4.out (fun g hg => K2.out.off (.inr (KL.out g hg).1)))
  have HK5 := Lib.hid (own_set_off HK4.out (K2.out.off (.inr HM8.out)) 1 (.slice a4 (xs.length + 1) cap4))
  rw [← World.cell?_setCell_other u4 ⟨u2.heap.size, 1, none⟩ _ (.slice a4 (xs.length + 1) cap4) (by first | (simp; done) | (simp; omega))] at g2 g3
  have HE5 := Lib.hid (HE4.out.setCell (p := ⟨u2.heap.size, 1, none⟩) (by have := HE2.out.size; exact this) (.slice a4 (xs.length + 1) cap4))
  obtain ⟨ys, ey⟩ : ∃ ys, xs ++ [(z, t)] = ys := ⟨_, rfl⟩
  have hly : ys.length = xs.length + 1 := by rw [← ey]; simp
  have ho5 := HO5.out
  rw [cl_app, ey] at ho5
  rw [ey] at EC
  rw [← hly] at ho5 g2 g3 HK5 HE5 ⊢
  have HO6 := Lib.hid (row_own ho5)
  have HDD : Hid (DevO (u4.setCell ⟨u2.heap.size, 1, none⟩ (.slice a4 ys.length cap4)) W.heap.size (.agg #[.slice a2 ts.length p2, .slice a4 ys.length cap4]) ts ys) := Lib.hid ⟨_, _, rfl, HK5.out, HO6.out.base HM9.out, fun a n cap e hn => own_low HO6.out _ (K2.out a n cap e hn).2⟩
  obtain ⟨F, eF, hd, R0, R1, hbF⟩ := put_dev HDD.out HLT.out g2 g3
  have HD2 := Lib.hid (hd.base HB.out.size)
  have HBF := Lib.hid (HB.out.trans ((HE5.out.mono HB.out.size).trans (hbF w.heap.size (by omega))))
  clear hd hbF
  rw [eF]
  refine bodyPost_ret (v := .tuple #[.agg #[.slice a2 ts.length p2, .slice a4 ys.length cap4], .int .i64 0]) (by simp [results, Try.results16, go_sem, R0, R1]) rfl ⟨.agg #[.slice a2 ts.length p2, .slice a4 ys.length cap4], ?_, ?_, HBF.out⟩
  · rw [EC.out.1]
  · rw [EC.out.2.1, EC.out.2.2]; exact HD2.out
end Go.Proofs.Ytmgokpkogjdfhaa.Writes
