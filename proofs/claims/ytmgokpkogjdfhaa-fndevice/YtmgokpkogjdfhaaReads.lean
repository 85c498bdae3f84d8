/-
  What is proved: what is read at a sector of a device: the program and the model answer the same plain text and code (contracts for the walks).
-/
import Derived.Test.YtmgokpkogjdfhaaRows
import Derived.Test.YtmgokpkogjdfhaaRight
import Derived.Test.YtmgokpkogjdfhaaLawD
namespace Go.Proofs.Ytmgokpkogjdfhaa.Reads
open Go.ChangeShapes Go.WideShapes Go.ChangeAt Go.RowKit
open Sl (Sl Own Off)
open OpenSl (tc nc pc)
open Dev
open LawI (pc_even pc_odd)
open Right
set_option linter.unusedVariables false

/-- The newest of the first k writes at a sector, or what is sure there. -/
def rd (ts : List ByteArray) (xs : List (Int × ByteArray)) (z : Int) : Nat → ByteArray
  | 0 => ts.getD z.toNat ByteArray.empty
  | k + 1 => if (xs.getD k (0, ByteArray.empty)).1 = z then (xs.getD k (0, ByteArray.empty)).2 else rd ts xs z k
/-- What both answer. -/
def res (ts : List ByteArray) (xs : List (Int × ByteArray)) (z : Int) : Value := if fault ts xs z = 0 then .tuple #[.string (rd ts xs z xs.length), .int .i64 0] else .tuple #[.string ByteArray.empty, .int .i64 (fault ts xs z)]
theorem res_form (ts : List ByteArray) (xs : List (Int × ByteArray)) (z : Int) : ∃ t cd, res ts xs z = .tuple #[.string t, .int .i64 cd] := by
  unfold res
  split <;> exact ⟨_, _, rfl⟩
theorem fault_zero {ts : List ByteArray} {xs : List (Int × ByteArray)} {z : Int} (h : fault ts xs z = 0) : Rt ts xs ∧ In z := by
  unfold fault at h
  by_cases h1 : Rt ts xs
  · rw [if_pos h1] at h
    by_cases h2 : In z
    · exact ⟨h1, h2⟩
    · rw [if_neg h2] at h; omega
  · rw [if_neg h1] at h; omega

set_option maxRecDepth 100000 in
set_option maxHeartbeats 1600000 in
theorem l05Read (w : World) (v : Value) (ts : List ByteArray) (xs : List (Int × ByteArray)) (h : Dev w v ts xs) (at_ : Int) (hr : Rt ts xs) (hi : In at_) :
    Calls Try.prog 69 #[v, .int .i64 at_] w fun e w' => e = .returned (.string (rd ts xs at_ xs.length)) ∧ Below w.heap.size w w' := by
  obtain ⟨sv, uv, rfl, ⟨a, cap, rfl, k1, k2, k3⟩, ⟨a', cap', rfl, k1', k2', k3'⟩⟩ := h
  obtain ⟨W, eW⟩ : ∃ W, w.alloc (.cells #[.slice a ts.length cap, .slice a' xs.length cap'] 26) = W := ⟨_, rfl⟩
  have HB := Lib.hid (show Below w.heap.size w W by rw [← eW]; exact (Below.refl w.heap.size w).alloc (Nat.le_refl _) _)
  have hcs : W.cell? ⟨w.heap.size, 0, none⟩ = some (.slice a ts.length cap) := by rw [← eW]; clear eW; go_simp
  have hcu : W.cell? ⟨w.heap.size, 1, none⟩ = some (.slice a' xs.length cap') := by rw [← eW]; clear eW; go_simp
  have hf := True.intro
  have H3 := Lib.hid (show 0 < ts.length → ∃ b o, a = some ⟨b, o, none⟩ ∧ ∀ j, j < ts.length → W.cell? ⟨b, o + j, none⟩ = some (tc ts j) from fun hn => by
    obtain ⟨b, o, e, hc⟩ := k3 hn
    exact ⟨b, o, e, fun j hj => (HB.out.cell (World.block_lt_of_cell? w _ (hc j (by omega)))).trans (hc j (by omega))⟩)
  have H3' := Lib.hid (show 0 < xs.length → ∃ b o, a' = some ⟨b, o, none⟩ ∧ ∀ j, j < xs.length * 2 → W.cell? ⟨b, o + j, none⟩ = some (pc xs j) from fun hn => by
    obtain ⟨b, o, e, hc⟩ := k3' hn
    exact ⟨b, o, e, fun j hj => (HB.out.cell (World.block_lt_of_cell? w _ (hc j (by omega)))).trans (hc j (by omega))⟩)
  have h40 : ts.length = 40 := hr.1
  have h60 : xs.length ≤ 60 := hr.2.1
  obtain ⟨hi0, hi1⟩ := hi
  obtain ⟨s0, es0⟩ : ∃ s0, ts.getD at_.toNat ByteArray.empty = s0 := ⟨_, rfl⟩
  have HS0 := Lib.hid es0
  clear k3 k3' hr hf es0
  generalize hn40 : ts.length = m at *
  have hM : m = 40 := h40
  have at_lt : at_ < m := by omega
  have HM := Lib.hid hM
  clear h40 hM hn40
  generalize hnn : xs.length = n at *
  have HNN := Lib.hid hnn
  clear hnn
  obtain ⟨n1, en1⟩ : ∃ n1 : Int, (n : Int) - 1 = n1 := ⟨_, rfl⟩
  have en2 : n1 + 1 = (n : Int) := by omega
  go_enter Try.func69, Try.ntmps69
  go_wp2
  clear eW
  go_loopw [5] (fun i wr => ∃ (z : Int), i = .int .i64 z ∧ -1 ≤ z ∧ z < n ∧ W = wr ∧ Hid (rd ts xs at_ n = rd ts xs at_ (z + 1).toNat)) (fun i _ => (intOf i + 1).toNat)
  case atStart => exact ⟨n1, rfl, by omega, by omega, rfl, Lib.hid (by rw [show (n1 + 1).toNat = n by omega])⟩
  case round =>
    obtain ⟨z, rfl, hz1, hz2, rfl, HJ⟩ := hrel
    by_cases hz : 0 ≤ z
    · obtain ⟨k, rfl⟩ : ∃ k : Nat, z = k := ⟨z.toNat, by omega⟩
      have hkn : k < n := by omega
      have HJ1 := Lib.hid (show rd ts xs at_ n = if (xs.getD k (0, ByteArray.empty)).1 = at_ then (xs.getD k (0, ByteArray.empty)).2 else rd ts xs at_ k by rw [HJ.out, show ((k : Int) + 1).toNat = k + 1 by omega]; rfl)
      obtain ⟨b, o, rfl, hc⟩ := H3'.out (by omega)
      have c0 := hc (k * 2) (by omega)
      have c1 := hc (k * 2 + 1) (by omega)
      rw [pc_even] at c0
      rw [pc_odd, ← Nat.add_assoc] at c1
      clear hc
      generalize xs.getD k (0, ByteArray.empty) = y at *
      obtain ⟨zz, s⟩ := y
      simp only at c0 c1 HJ1
      by_cases he : zz = at_
      · have HR := Lib.hid (HJ1.out.trans (if_pos he))
        subst he
        go_wp2
        go_ret
        refine ⟨?_, HB.out⟩
        rw [HR.out]; rfl
      · have HR := Lib.hid (HJ1.out.trans (if_neg he))
        have hd : (zz == at_) = false := beq_eq_false_iff_ne.2 he
        go_wp2
        go_roundw
        case rel => exact ⟨(k : Int) - 1, by go_num, by omega, by omega, by trivial, Lib.hid (by rw [HR.out, show ((k : Int) - 1 + 1).toNat = k by omega])⟩
        case measure => simp [intOf]
    · have HR := Lib.hid (show rd ts xs at_ n = s0 by rw [HJ.out, show (z + 1).toNat = 0 by omega]; exact HS0.out)
      have hd : decide (z ≥ 0) = false := decide_eq_false hz
      have hd2 : decide (0 ≤ z) = false := decide_eq_false hz
      obtain ⟨q, rfl⟩ : ∃ q : Nat, at_ = q := ⟨at_.toNat, by omega⟩
      obtain ⟨b, o, rfl, hc⟩ := H3.out (by omega)
      have c0 := hc q (by omega)
      rw [show tc ts q = .string s0 from congrArg Value.string HS0.out] at c0
      clear hc
      go_wp2
      go_ret
      refine ⟨?_, HB.out⟩
      rw [HR.out]; rfl

set_option maxRecDepth 100000 in
set_option maxHeartbeats 1600000 in
theorem spec (w : World) (v : Value) (ts : List ByteArray) (xs : List (Int × ByteArray)) (h : Dev w v ts xs) (at_ : Int) :
    Calls Try.prog 36 #[v, .int .i64 at_] w fun e w' => e = .returned (res ts xs at_) ∧ Below w.heap.size w w' := by
  have HD := Lib.hid h
  obtain ⟨sv, uv, rfl, _, _⟩ := h
  have HB := Lib.hid ((Below.refl w.heap.size w).alloc (Nat.le_refl _) (.cells #[sv, uv] 26))
  go_enter Try.func36, Try.ntmps36
  go_wp2_with fail
  refine (deviceOK _ _ ts xs (HD.out.below HB.out)).mono ?_
  rintro e w1 ⟨rfl, hb⟩
  obtain ⟨hc, _⟩ := LawD.bcell hb
  have HB2 := Lib.hid (HB.out.trans (hb.mono HB.out.size))
  clear hb
  simp only [World.size_alloc] at hc
  by_cases hr : Rt ts xs
  · rw [decide_eq_true hr]
    have HR := Lib.hid hr
    clear hr
    go_wp2_with fail
    refine (l05In at_ _).mono ?_
    rintro e w2 ⟨rfl, rfl⟩
    by_cases hi : In at_
    · rw [decide_eq_true hi]
      have HI := Lib.hid hi
      clear hi
      go_wp2_with fail
      refine (l05Read _ _ ts xs (HD.out.below HB2.out) at_ HR.out HI.out).mono ?_
      rintro e w3 ⟨rfl, hb⟩
      have HB3 := Lib.hid (HB2.out.trans (hb.mono HB2.out.size))
      clear hb
      obtain ⟨t, et⟩ : ∃ t, rd ts xs at_ xs.length = t := ⟨_, rfl⟩
      have ET := Lib.hid et
      rw [et]
      clear et
      go_wp2_with fail
      go_ret2
      refine ⟨?_, HB3.out⟩
      have hf : fault ts xs at_ = 0 := by unfold fault; rw [if_pos HR.out, if_pos HI.out]
      unfold res
      rw [if_pos hf, ET.out]
      rfl
    · rw [decide_eq_false hi]
      have HI := Lib.hid hi
      clear hi
      go_wp2_with fail
      go_ret2
      refine ⟨?_, HB2.out⟩
      have hf : fault ts xs at_ = 4 := by unfold fault; rw [if_pos HR.out, if_neg HI.out]
      unfold res
      rw [if_neg (by rw [hf]; omega), hf]
      rfl
  · rw [decide_eq_false hr]
    have HR := Lib.hid hr
    clear hr
    go_wp2_with fail
    go_ret2
    refine ⟨?_, HB2.out⟩
    have hf : fault ts xs at_ = 1 := by unfold fault; rw [if_neg HR.out]
    unfold res
    rw [if_neg (by rw [hf]; omega), hf]
    rfl

set_option maxRecDepth 100000 in
set_option maxHeartbeats 1600000 in
theorem impl (w : World) (v : Value) (ts : List ByteArray) (xs : List (Int × ByteArray)) (h : Dev w v ts xs) (at_ : Int) :
    Calls Try.prog 17 #[v, .int .i64 at_] w fun e w' => e = .returned (res ts xs at_) ∧ Below w.heap.size w w' := by
  have HD := Lib.hid h
  obtain ⟨sv, uv, rfl, h1, h2⟩ := h
  have HB0 := Lib.hid ((Below.refl w.heap.size w).alloc (Nat.le_refl _) (.cells #[sv, uv] 26))
  by_cases hf : fault ts xs at_ = 0
  case neg =>
    have HF := Lib.hid hf
    go_enter Try.func17, Try.ntmps17
    go_wp2_with fail
    refine (sectorFault _ _ ts xs (HD.out.below HB0.out) at_).mono ?_
    rintro e w1 ⟨rfl, hb⟩
    have HB2 := Lib.hid (HB0.out.trans (hb.mono HB0.out.size))
    clear hb
    obtain ⟨q, eq⟩ : ∃ q, fault ts xs at_ = q := ⟨_, rfl⟩
    have EQ := Lib.hid eq
    rw [eq] at hf ⊢
    clear eq
    have hd : (q != 0) = true := bne_iff_ne.2 hf
    go_wp2_with fail
    go_ret2
    refine ⟨?_, HB2.out⟩
    unfold res
    rw [if_neg HF.out, EQ.out]
    rfl
  obtain ⟨hr, hi⟩ := fault_zero hf
  have HF := Lib.hid hf
  have HRT := Lib.hid hr
  have HIN := Lib.hid hi
  obtain ⟨a, cap, rfl, k1, k2, k3⟩ := h1
  obtain ⟨a', cap', rfl, k1', k2', k3'⟩ := h2
  go_enter Try.func17, Try.ntmps17
  go_wp2_with fail
  refine (sectorFault _ _ ts xs (HD.out.below HB0.out) at_).mono ?_
  rintro e W ⟨rfl, hb⟩
  have hcs : W.cell? ⟨w.heap.size, 0, none⟩ = some (.slice a ts.length cap) := (hb.cell (p := ⟨w.heap.size, 0, none⟩) (by simp)).trans (by go_simp)
  have hcu : W.cell? ⟨w.heap.size, 1, none⟩ = some (.slice a' xs.length cap') := (hb.cell (p := ⟨w.heap.size, 1, none⟩) (by simp)).trans (by go_simp)
  have HB := Lib.hid (HB0.out.trans (hb.mono HB0.out.size))
  clear hb
  rw [hf]
  have H3 := Lib.hid (show 0 < ts.length → ∃ b o, a = some ⟨b, o, none⟩ ∧ ∀ j, j < ts.length → W.cell? ⟨b, o + j, none⟩ = some (tc ts j) from fun hn => by
    obtain ⟨b, o, e, hc⟩ := k3 hn
    exact ⟨b, o, e, fun j hj => (HB.out.cell (World.block_lt_of_cell? w _ (hc j (by omega)))).trans (hc j (by omega))⟩)
  have H3' := Lib.hid (show 0 < xs.length → ∃ b o, a' = some ⟨b, o, none⟩ ∧ ∀ j, j < xs.length * 2 → W.cell? ⟨b, o + j, none⟩ = some (pc xs j) from fun hn => by
    obtain ⟨b, o, e, hc⟩ := k3' hn
    exact ⟨b, o, e, fun j hj => (HB.out.cell (World.block_lt_of_cell? w _ (hc j (by omega)))).trans (hc j (by omega))⟩)
  have h40 : ts.length = 40 := hr.1
  have h60 : xs.length ≤ 60 := hr.2.1
  obtain ⟨hi0, hi1⟩ := hi
  obtain ⟨s0, es0⟩ : ∃ s0, ts.getD at_.toNat ByteArray.empty = s0 := ⟨_, rfl⟩
  have HS0 := Lib.hid es0
  clear k3 k3' hr hf es0
  generalize hn40 : ts.length = m at *
  have hM : m = 40 := h40
  have at_lt : at_ < m := by omega
  have HM := Lib.hid hM
  clear h40 hM hn40
  generalize hnn : xs.length = n at *
  have HNN := Lib.hid hnn
  clear hnn
  obtain ⟨n1, en1⟩ : ∃ n1 : Int, (n : Int) - 1 = n1 := ⟨_, rfl⟩
  have en2 : n1 + 1 = (n : Int) := by omega
  go_wp2
  go_loopw [7] (fun i wr => ∃ (z : Int), i = .int .i64 z ∧ -1 ≤ z ∧ z < n ∧ W = wr ∧ Hid (rd ts xs at_ n = rd ts xs at_ (z + 1).toNat)) (fun i _ => (intOf i + 1).toNat)
  case atStart => exact ⟨n1, rfl, by omega, by omega, rfl, Lib.hid (by rw [show (n1 + 1).toNat = n by omega])⟩
  case round =>
    obtain ⟨z, rfl, hz1, hz2, rfl, HJ⟩ := hrel
    by_cases hz : 0 ≤ z
    · obtain ⟨k, rfl⟩ : ∃ k : Nat, z = k := ⟨z.toNat, by omega⟩
      have hkn : k < n := by omega
      have HJ1 := Lib.hid (show rd ts xs at_ n = if (xs.getD k (0, ByteArray.empty)).1 = at_ then (xs.getD k (0, ByteArray.empty)).2 else rd ts xs at_ k by rw [HJ.out, show ((k : Int) + 1).toNat = k + 1 by omega]; rfl)
      obtain ⟨b, o, rfl, hc⟩ := H3'.out (by omega)
      have c0 := hc (k * 2) (by omega)
      have c1 := hc (k * 2 + 1) (by omega)
      rw [pc_even] at c0
      rw [pc_odd, ← Nat.add_assoc] at c1
      clear hc
      generalize xs.getD k (0, ByteArray.empty) = y at *
      obtain ⟨zz, s⟩ := y
      simp only at c0 c1 HJ1
      by_cases he : zz = at_
      · have HR := Lib.hid (HJ1.out.trans (if_pos he))
        subst he
        go_wp2
        go_ret2
        refine ⟨?_, HB.out⟩
        unfold res; rw [if_pos HF.out, HNN.out, HR.out]; rfl
      · have HR := Lib.hid (HJ1.out.trans (if_neg he))
        have hd : (zz == at_) = false := beq_eq_false_iff_ne.2 he
        go_wp2
        go_roundw
        case rel => exact ⟨(k : Int) - 1, by go_num, by omega, by omega, by trivial, Lib.hid (by rw [HR.out, show ((k : Int) - 1 + 1).toNat = k by omega])⟩
        case measure => simp [intOf]
    · have HR := Lib.hid (show rd ts xs at_ n = s0 by rw [HJ.out, show (z + 1).toNat = 0 by omega]; exact HS0.out)
      have hd : decide (z ≥ 0) = false := decide_eq_false hz
      have hd2 : decide (0 ≤ z) = false := decide_eq_false hz
      obtain ⟨q, rfl⟩ : ∃ q : Nat, at_ = q := ⟨at_.toNat, by omega⟩
      obtain ⟨b, o, rfl, hc⟩ := H3.out (by omega)
      have c0 := hc q (by omega)
      rw [show tc ts q = .string s0 from congrArg Value.string HS0.out] at c0
      clear hc
      go_wp2
      go_ret2
      refine ⟨?_, HB.out⟩
      unfold res; rw [if_pos HF.out, HNN.out, HR.out]; rfl

end Go.Proofs.Ytmgokpkogjdfhaa.Reads
