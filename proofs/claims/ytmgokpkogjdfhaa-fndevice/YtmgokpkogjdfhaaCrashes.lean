/-
  What is proved: a crash: the program and the model answer the same plain device and code, of the call's own (contracts for the walks).
-/
import Derived.Test.YtmgokpkogjdfhaaRows
import Derived.Test.YtmgokpkogjdfhaaCrash2
namespace Go.Proofs.Ytmgokpkogjdfhaa.Crashes
open Go.ChangeShapes Go.WideShapes Go.ChangeAt Go.RowKit
open Sl (Sl Own Off)
open OpenSl (tc nc pc)
open Dev Cop Copied Settle Crash
open Right
open Writes (zero_dev)
set_option linter.unusedVariables false

/-- Fates that are. -/
def Fk (fs : List Int) : Prop := ∀ j, j < fs.length → 0 ≤ fs.getD j 0 ∧ fs.getD j 0 ≤ 2
instance (fs : List Int) : Decidable (Fk fs) := by unfold Fk; infer_instance
def code (ts : List ByteArray) (xs : List (Int × ByteArray)) (fs : List Int) : Int := if 4096 < fs.length then 2 else if Rt ts xs then (if Fk fs then 0 else 4) else 1
def yts (ts : List ByteArray) (xs : List (Int × ByteArray)) (fs : List Int) : List ByteArray := if 4096 < fs.length then [] else if Rt ts xs then (if Fk fs then st ts xs fs xs.length else []) else []
theorem case_long (ts : List ByteArray) (xs : List (Int × ByteArray)) (fs : List Int) (h : 4096 < fs.length) : code ts xs fs = 2 ∧ yts ts xs fs = [] := by
  unfold code yts
  simp only [if_pos h, and_self]
theorem case_bad (ts : List ByteArray) (xs : List (Int × ByteArray)) (fs : List Int) (h : ¬ 4096 < fs.length) (hr : ¬ Rt ts xs) : code ts xs fs = 1 ∧ yts ts xs fs = [] := by
  unfold code yts
  simp only [if_neg h, if_neg hr, and_self]
theorem case_range (ts : List ByteArray) (xs : List (Int × ByteArray)) (fs : List Int) (h : ¬ 4096 < fs.length) (hr : Rt ts xs) (hf : ¬ Fk fs) : code ts xs fs = 4 ∧ yts ts xs fs = [] := by
  unfold code yts
  simp only [if_neg h, if_pos hr, if_neg hf, and_self]
theorem case_ok (ts : List ByteArray) (xs : List (Int × ByteArray)) (fs : List Int) (h : ¬ 4096 < fs.length) (hr : Rt ts xs) (hf : Fk fs) : code ts xs fs = 0 ∧ yts ts xs fs = st ts xs fs xs.length := by
  unfold code yts
  simp only [if_neg h, if_pos hr, if_pos hf, and_self]
theorem len_ok {ts : List ByteArray} {xs : List (Int × ByteArray)} {fs : List Int} (hn : ts.length ≤ 1048576) : 1 + (yts ts xs fs).length + ([] : List (Int × ByteArray)).length * 2 ≤ 10000000 := by
  have : (yts ts xs fs).length ≤ 1048576 := by
    unfold yts
    split
    · simp
    · split
      · split
        · rw [st_len]; exact hn
        · simp
      · simp
  simp
  omega
theorem l05Crash (w : World) (v fv : Value) (ts : List ByteArray) (xs : List (Int × ByteArray)) (fs : List Int) (h : Dev w v ts xs) (hr : Rt ts xs) (hfv : Sl w 1 fv fs.length (nc fs)) (hfl : fs.length ≤ 1048576) :
    Calls Try.prog 52 #[v, fv] w fun e w' => ∃ r, e = .returned r ∧ DevO w' w.heap.size r (st ts xs fs xs.length) [] ∧ Below w.heap.size w w' := Crash2.l05Crash w v ts xs fv fs h hr hfv hfl

set_option maxRecDepth 100000 in
set_option maxHeartbeats 800000 in
theorem l05Fates (w : World) (v : Value) (fs : List Int) (h : Sl w 1 v fs.length (nc fs)) :
    Calls Try.prog 51 #[v] w fun e w' => e = .returned (.bool (decide (Fk fs))) ∧ w' = w := by
  obtain ⟨a, cap, rfl, h1, h2, h3⟩ := h
  have H3 := Lib.hid h3
  clear h3
  unfold maxLen at h2
  obtain ⟨q, eq⟩ : ∃ q : Bool, decide (Fk fs) = q := ⟨_, rfl⟩
  have HQ0 := Lib.hid (show ∀ j, j < fs.length → ¬ (0 ≤ fs.getD j 0 ∧ fs.getD j 0 ≤ 2) → q = false from fun j hj hne => by
    rw [← eq]; exact decide_eq_false fun e => hne (e j hj))
  have HQ1 := Lib.hid (show (∀ j, j < fs.length → 0 ≤ fs.getD j 0 ∧ fs.getD j 0 ≤ 2) → q = true from fun h => by
    rw [← eq]; exact decide_eq_true h)
  rw [eq]
  clear eq
  generalize fs.length = n at *
  go_enter Try.func51, Try.ntmps51
  go_wp2
  go_loopw [3] (fun i wr => ∃ k : Nat, k ≤ n ∧ i = .int .i64 k ∧ w = wr ∧ Hid (∀ j, j < k → 0 ≤ fs.getD j 0 ∧ fs.getD j 0 ≤ 2)) (fun i _ => n - (intOf i).toNat)
  case atStart => exact ⟨0, by omega, rfl, rfl, fun j hj => by omega⟩
  case round =>
    obtain ⟨k, hk, rfl, rfl, HJ⟩ := hrel
    by_cases hlt : k < n
    · obtain ⟨b, o, rfl, hc⟩ := H3.out (by omega)
      have c0 := hc k (by omega)
      unfold nc at c0
      have HN := Lib.hid (HQ0.out k hlt)
      have HM := Lib.hid (show 0 ≤ fs.getD k 0 ∧ fs.getD k 0 ≤ 2 → ∀ j, j < k + 1 → 0 ≤ fs.getD j 0 ∧ fs.getD j 0 ≤ 2 from fun e j hj => by
        by_cases ej : j = k
        · rw [ej]; exact e
        · exact HJ.out j (by omega))
      clear hc
      generalize fs.getD k 0 = f at *
      go_wp2_with fail
      refine (l01In f 0 2 _).mono ?_
      rintro e u ⟨rfl, rfl⟩
      by_cases hf : 0 ≤ f ∧ f ≤ 2
      · rw [decide_eq_true hf]
        have HFF := Lib.hid hf
        clear hf
        go_wp2
        go_roundw
        case rel => exact ⟨k + 1, by omega, by go_num, by trivial, Lib.hid (HM.out HFF.out)⟩
        case measure => simp [intOf]; omega
      · rw [decide_eq_false hf]
        obtain rfl : q = false := HN.out hf
        clear hf
        go_wp2
        go_ret
        exact ⟨rfl, rfl⟩
    · obtain rfl : q = true := HQ1.out fun j hj => HJ.out j (by omega)
      go_wp2
      go_ret
      exact ⟨rfl, rfl⟩

set_option maxRecDepth 100000 in
set_option maxHeartbeats 1600000 in
theorem spec (w : World) (v fv : Value) (ts : List ByteArray) (xs : List (Int × ByteArray)) (fs : List Int) (h : Dev w v ts xs) (hfv : Sl w 1 fv fs.length (nc fs)) (hfl : fs.length ≤ 1048576) :
    Calls Try.prog 21 #[v, fv] w fun e w' => ∃ r, e = .returned (.tuple #[r, .int .i64 (code ts xs fs)]) ∧ DevO w' w.heap.size r (yts ts xs fs) [] ∧ Below w.heap.size w w' := by
  have HV := Lib.hid h
  obtain ⟨a, p, a', p', rfl⟩ := Ex.form h
  obtain ⟨W, eW, hB, hlt, c0, c1, r0, r1, f0, f1⟩ := boxed w 26 26 (.slice a ts.length p) (.slice a' xs.length p')
  have HV2 := Lib.hid (HV.out.below hB)
  have HFV := Lib.hid (hfv.below hB)
  obtain ⟨af, pf, rfl, _, hpf⟩ := hfv.form
  have HB := Lib.hid hB
  have HLT := Lib.hid hlt
  have HSIX := Lib.hid (fun u (hb : Below W.heap.size W u) => six hb hlt c0 c1 r0 r1 f0 f1)
  have HE0 := Lib.hid (Below.refl W.heap.size W)
  unfold maxLen at hpf
  clear h hB hfv
  by_cases hb : 4096 < fs.length
  · have EC := Lib.hid (case_long ts xs fs hb)
    obtain ⟨g0, g1, g2, g3, g4, g5⟩ := HSIX.out W HE0.out
    go_enter Try.func21, Try.ntmps21
    obtain ⟨F, eF, hd, R0, R1, hbF⟩ := put_dev (zero_dev W W.heap.size) HLT.out g2 g3
    have HD2 := Lib.hid (hd.base HB.out.size)
    have HBF := Lib.hid (HB.out.trans ((HE0.out.mono HB.out.size).trans (hbF w.heap.size (by omega))))
    clear hd hbF
    go_wp2_with fail
    refine bodyPost_ret (v := .tuple #[.agg #[.slice none 0 0, .slice none 0 0], .int .i64 2]) (by simp [results, Try.results21, go_sem, R0, R1]) rfl ⟨.agg #[.slice none 0 0, .slice none 0 0], ?_, ?_, HBF.out⟩
    · rw [EC.out.1]
    · rw [EC.out.2]; exact HD2.out
  have hbn := Lib.hid hb
  have dL : decide (4096 < (fs.length : Int)) = false := decide_eq_false (by omega)
  clear hb
  go_enter Try.func21, Try.ntmps21
  go_wp2_with fail
  clear eW dL
  refine (deviceOK W _ ts xs HV2.out).mono ?_
  rintro e u1 ⟨rfl, hb⟩
  have HE1 := Lib.hid hb
  obtain ⟨g0, g1, g2, g3, g4, g5⟩ := HSIX.out u1 hb
  clear hb c0 c1 r0 r1 f0 f1
  by_cases hr : Rt ts xs
  case neg =>
    rw [decide_eq_false hr]
    have EC := Lib.hid (case_bad ts xs fs hbn.out hr)
    clear hr
    obtain ⟨F, eF, hd, R0, R1, hbF⟩ := put_dev (zero_dev u1 W.heap.size) HLT.out g2 g3
    have HD2 := Lib.hid (hd.base HB.out.size)
    have HBF := Lib.hid (HB.out.trans ((HE1.out.mono HB.out.size).trans (hbF w.heap.size (by omega))))
    clear hd hbF
    go_wp2_with fail
    refine bodyPost_ret (v := .tuple #[.agg #[.slice none 0 0, .slice none 0 0], .int .i64 1]) (by simp [results, Try.results21, go_sem, R0, R1]) rfl ⟨.agg #[.slice none 0 0, .slice none 0 0], ?_, ?_, HBF.out⟩
    · rw [EC.out.1]
    · rw [EC.out.2]; exact HD2.out
  rw [decide_eq_true hr]
  have HR := Lib.hid hr
  clear hr
  go_wp2_with fail
  refine (l05Fates u1 _ fs (HFV.out.below HE1.out)).mono ?_
  rintro e u ⟨rfl, rfl⟩
  by_cases hfk : Fk fs
  case neg =>
    rw [decide_eq_false hfk]
    have EC := Lib.hid (case_range ts xs fs hbn.out HR.out hfk)
    clear hfk
    obtain ⟨F, eF, hd, R0, R1, hbF⟩ := put_dev (zero_dev u W.heap.size) HLT.out g2 g3
    have HD2 := Lib.hid (hd.base HB.out.size)
    have HBF := Lib.hid (HB.out.trans ((HE1.out.mono HB.out.size).trans (hbF w.heap.size (by omega))))
    clear hd hbF
    go_wp2_with fail
    refine bodyPost_ret (v := .tuple #[.agg #[.slice none 0 0, .slice none 0 0], .int .i64 4]) (by simp [results, Try.results21, go_sem, R0, R1]) rfl ⟨.agg #[.slice none 0 0, .slice none 0 0], ?_, ?_, HBF.out⟩
    · rw [EC.out.1]
    · rw [EC.out.2]; exact HD2.out
  rw [decide_eq_true hfk]
  go_wp2_with fail
  have EC := Lib.hid (case_ok ts xs fs hbn.out HR.out hfk)
  refine (l05Crash u _ _ ts xs fs (HV2.out.below HE1.out) HR.out (HFV.out.below HE1.out) hfl).mono ?_
  obtain ⟨tr, etr⟩ : ∃ tr, st ts xs fs xs.length = tr := ⟨_, rfl⟩
  rw [etr] at EC ⊢
  clear etr
  rintro e u2 ⟨r2, rfl, ho, hb⟩
  have HE2 := Lib.hid (HE1.out.trans (hb.mono HE1.out.size))
  obtain ⟨a2, p2, b2, q2, rfl⟩ := Ex.form ho.dev
  have HO2 : Hid (DevO u2 W.heap.size (.agg #[.slice a2 tr.length p2, .slice b2 0 q2]) tr []) := Lib.hid (ho.base HE1.out.size)
  clear ho hb g0 g1 g2 g3 g4 g5
  obtain ⟨g0, g1, g2, g3, g4, g5⟩ := HSIX.out u2 HE2.out
  obtain ⟨F, eF, hd, R0, R1, hbF⟩ := put_dev (HO2.out) HLT.out g2 g3
  have HD2 := Lib.hid (hd.base HB.out.size)
  have HBF := Lib.hid (HB.out.trans ((HE2.out.mono HB.out.size).trans (hbF w.heap.size (by omega))))
  clear hd hbF
  go_wp2_with fail
  refine bodyPost_ret (v := .tuple #[.agg #[.slice a2 tr.length p2, .slice b2 0 q2], .int .i64 0]) (by simp [results, Try.results21, go_sem, R0, R1]) rfl ⟨.agg #[.slice a2 tr.length p2, .slice b2 0 q2], ?_, ?_, HBF.out⟩
  · rw [EC.out.1]
  · rw [EC.out.2]; exact HD2.out

set_option maxRecDepth 100000 in
set_option maxHeartbeats 1600000 in
theorem impl (w : World) (v fv : Value) (ts : List ByteArray) (xs : List (Int × ByteArray)) (fs : List Int) (h : Dev w v ts xs) (hfv : Sl w 1 fv fs.length (nc fs)) (hfl : fs.length ≤ 1048576) :
    Calls Try.prog 19 #[v, fv] w fun e w' => ∃ r, e = .returned (.tuple #[r, .int .i64 (code ts xs fs)]) ∧ DevO w' w.heap.size r (yts ts xs fs) [] ∧ Below w.heap.size w w' := by
  have HV := Lib.hid h
  obtain ⟨a, p, a', p', rfl⟩ := Ex.form h
  obtain ⟨W, eW, hB, hlt, c0, c1, r0, r1, f0, f1⟩ := boxed w 26 26 (.slice a ts.length p) (.slice a' xs.length p')
  have HV2 := Lib.hid (HV.out.below hB)
  have HFV := Lib.hid (hfv.below hB)
  obtain ⟨af, pf, rfl, _, hpf⟩ := hfv.form
  have HB := Lib.hid hB
  have HLT := Lib.hid hlt
  have HSIX := Lib.hid (fun u (hb : Below W.heap.size W u) => six hb hlt c0 c1 r0 r1 f0 f1)
  have HE0 := Lib.hid (Below.refl W.heap.size W)
  unfold maxLen at hpf
  clear h hB hfv
  by_cases hb : 4096 < fs.length
  · have EC := Lib.hid (case_long ts xs fs hb)
    obtain ⟨g0, g1, g2, g3, g4, g5⟩ := HSIX.out W HE0.out
    go_enter Try.func19, Try.ntmps19
    obtain ⟨F, eF, hd, R0, R1, hbF⟩ := put_dev (zero_dev W W.heap.size) HLT.out g2 g3
    have HD2 := Lib.hid (hd.base HB.out.size)
    have HBF := Lib.hid (HB.out.trans ((HE0.out.mono HB.out.size).trans (hbF w.heap.size (by omega))))
    clear hd hbF
    go_wp2_with fail
    refine bodyPost_ret (v := .tuple #[.agg #[.slice none 0 0, .slice none 0 0], .int .i64 2]) (by simp [results, Try.results19, go_sem, R0, R1]) rfl ⟨.agg #[.slice none 0 0, .slice none 0 0], ?_, ?_, HBF.out⟩
    · rw [EC.out.1]
    · rw [EC.out.2]; exact HD2.out
  have hbn := Lib.hid hb
  have dL : decide (4096 < (fs.length : Int)) = false := decide_eq_false (by omega)
  clear hb
  go_enter Try.func19, Try.ntmps19
  go_wp2_with fail
  clear eW dL
  refine (right W _ ts xs HV2.out).mono ?_
  rintro e u1 ⟨rfl, hb⟩
  have HE1 := Lib.hid hb
  obtain ⟨g0, g1, g2, g3, g4, g5⟩ := HSIX.out u1 hb
  clear hb c0 c1 r0 r1 f0 f1
  by_cases hr : Rt ts xs
  case neg =>
    rw [decide_eq_false hr]
    have EC := Lib.hid (case_bad ts xs fs hbn.out hr)
    clear hr
    obtain ⟨F, eF, hd, R0, R1, hbF⟩ := put_dev (zero_dev u1 W.heap.size) HLT.out g2 g3
    have HD2 := Lib.hid (hd.base HB.out.size)
    have HBF := Lib.hid (HB.out.trans ((HE1.out.mono HB.out.size).trans (hbF w.heap.size (by omega))))
    clear hd hbF
    go_wp2_with fail
    refine bodyPost_ret (v := .tuple #[.agg #[.slice none 0 0, .slice none 0 0], .int .i64 1]) (by simp [results, Try.results19, go_sem, R0, R1]) rfl ⟨.agg #[.slice none 0 0, .slice none 0 0], ?_, ?_, HBF.out⟩
    · rw [EC.out.1]
    · rw [EC.out.2]; exact HD2.out
  rw [decide_eq_true hr]
  have HR := Lib.hid hr
  clear hr
  obtain ⟨_, capf, ef, _, _, kf⟩ := HFV.out.below HE1.out
  obtain ⟨rfl, rfl⟩ : af = _ ∧ pf = capf := by simpa using ef
  have KF := Lib.hid kf
  clear kf ef
  generalize hfn : fs.length = n at *
  have HFN := Lib.hid hfn
  clear hfn
  go_wp2_with fail
  go_loopw [18] (fun i wr => ∃ k : Nat, k ≤ n ∧ i = .int .i64 k ∧ u1 = wr ∧ Hid (∀ j, j < k → 0 ≤ fs.getD j 0 ∧ fs.getD j 0 ≤ 2)) (fun i _ => n - (intOf i).toNat)
  case atStart => exact ⟨0, by omega, rfl, rfl, fun j hj => by omega⟩
  case round =>
    obtain ⟨k, hk, rfl, rfl, HJ⟩ := hrel
    by_cases hlt2 : k < n
    · obtain ⟨b, o, rfl, hc⟩ := KF.out (by omega)
      have cf := hc k (by omega)
      unfold nc at cf
      have HJ2 := Lib.hid (show 0 ≤ fs.getD k 0 ∧ fs.getD k 0 ≤ 2 → ∀ j, j < k + 1 → 0 ≤ fs.getD j 0 ∧ fs.getD j 0 ≤ 2 from fun h j hj => by
        by_cases ej : j = k
        · rw [ej]; exact h
        · exact HJ.out j (by omega))
      have HNK := Lib.hid (show ¬ (0 ≤ fs.getD k 0 ∧ fs.getD k 0 ≤ 2) → ¬ Fk fs from fun h h2 => h (h2 k (by rw [HFN.out]; exact hlt2)))
      clear hc
      generalize fs.getD k 0 = f at *
      by_cases h0 : f < 0
      · have EC := Lib.hid (case_range ts xs fs (by rw [HFN.out]; exact hbn.out) HR.out (HNK.out (by omega)))
        obtain ⟨F, eF, hd, R0, R1, hbF⟩ := put_dev (zero_dev u1 W.heap.size) HLT.out g2 g3
        have HD2 := Lib.hid (hd.base HB.out.size)
        have HBF := Lib.hid (HB.out.trans ((HE1.out.mono HB.out.size).trans (hbF w.heap.size (by omega))))
        clear hd hbF
        go_wp2_with fail
        refine bodyPost_ret (v := .tuple #[.agg #[.slice none 0 0, .slice none 0 0], .int .i64 4]) (by simp [results, Try.results19, go_sem, R0, R1]) rfl ⟨.agg #[.slice none 0 0, .slice none 0 0], ?_, ?_, HBF.out⟩
        · rw [EC.out.1]
        · rw [EC.out.2]; exact HD2.out
      by_cases h2 : 2 < f
      · have EC := Lib.hid (case_range ts xs fs (by rw [HFN.out]; exact hbn.out) HR.out (HNK.out (by omega)))
        have d0 : decide (f < 0) = false := decide_eq_false h0
        clear h0
        obtain ⟨F, eF, hd, R0, R1, hbF⟩ := put_dev (zero_dev u1 W.heap.size) HLT.out g2 g3
        have HD2 := Lib.hid (hd.base HB.out.size)
        have HBF := Lib.hid (HB.out.trans ((HE1.out.mono HB.out.size).trans (hbF w.heap.size (by omega))))
        clear hd hbF
        go_wp2_with fail
        refine bodyPost_ret (v := .tuple #[.agg #[.slice none 0 0, .slice none 0 0], .int .i64 4]) (by simp [results, Try.results19, go_sem, R0, R1]) rfl ⟨.agg #[.slice none 0 0, .slice none 0 0], ?_, ?_, HBF.out⟩
        · rw [EC.out.1]
        · rw [EC.out.2]; exact HD2.out
      have d0 : decide (f < 0) = false := decide_eq_false h0
      have d2 : decide (2 < f) = false := decide_eq_false h2
      have HIN := Lib.hid (show 0 ≤ f ∧ f ≤ 2 by omega)
      clear h0 h2
      go_wp2
      go_roundw
      case rel => exact ⟨k + 1, by omega, by go_num, by trivial, Lib.hid (HJ2.out HIN.out)⟩
      case measure => simp [intOf]; omega
    · have hfk : Fk fs := fun j hj => HJ.out j (by rw [HFN.out] at hj; omega)
      clear HJ
      go_wp2_with fail
      rw [← HFN.out] at hbn hfl HFV ⊢
      have EC := Lib.hid (case_ok ts xs fs hbn.out HR.out hfk)
      refine (settled u1 _ _ ts xs fs (HV2.out.below HE1.out) HR.out (HFV.out.below HE1.out) hfl).mono ?_
      obtain ⟨tr, etr⟩ : ∃ tr, st ts xs fs xs.length = tr := ⟨_, rfl⟩
      rw [etr] at EC ⊢
      clear etr
      rintro e u2 ⟨r2, rfl, ho, hb⟩
      have HE2 := Lib.hid (HE1.out.trans (hb.mono HE1.out.size))
      obtain ⟨a2, p2, b2, q2, rfl⟩ := Ex.form ho.dev
      have HO2 : Hid (DevO u2 W.heap.size (.agg #[.slice a2 tr.length p2, .slice b2 0 q2]) tr []) := Lib.hid (ho.base HE1.out.size)
      clear ho hb g0 g1 g2 g3 g4 g5
      obtain ⟨g0, g1, g2, g3, g4, g5⟩ := HSIX.out u2 HE2.out
      obtain ⟨F, eF, hd, R0, R1, hbF⟩ := put_dev (HO2.out) HLT.out g2 g3
      have HD2 := Lib.hid (hd.base HB.out.size)
      have HBF := Lib.hid (HB.out.trans ((HE2.out.mono HB.out.size).trans (hbF w.heap.size (by omega))))
      clear hd hbF
      go_wp2_with fail
      refine bodyPost_ret (v := .tuple #[.agg #[.slice a2 tr.length p2, .slice b2 0 q2], .int .i64 0]) (by simp [results, Try.results19, go_sem, R0, R1]) rfl ⟨.agg #[.slice a2 tr.length p2, .slice b2 0 q2], ?_, ?_, HBF.out⟩
      · rw [EC.out.1]
      · rw [EC.out.2]; exact HD2.out
end Go.Proofs.Ytmgokpkogjdfhaa.Crashes
