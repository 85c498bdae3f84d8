/-
  What is proved: the device that is drawn out of a code is right, and of the call's own; what a byte flipped twice leaves (contracts and plain facts for the walks).
-/
import Derived.Test.YtmgokpkogjdfhaaRows
import Derived.Test.YtmgokpkogjdfhaaDraw2
import Derived.Test.YtmgokpkogjdfhaaFlips
namespace Go.Proofs.Ytmgokpkogjdfhaa.DeviceOf
open Go.ChangeShapes Go.WideShapes Go.ChangeAt Go.RowKit
open Sl (Sl Own Off)
open OpenSl (tc nc pc)
open Dev Cop Copied Writes Settle Crash Draw
open Right
open Src (Is IsRow)
open Word (bN bN_lt bN_at)
open Flips (fl fl_size fl_bN)
set_option linter.unusedVariables false

theorem isRow_below {k : IntKind} {w w' : World} {a : Option Addr} {len cap : Nat} {zs : List Int} (h : IsRow k w a len cap zs) (hb : Below w.heap.size w w') : IsRow k w' a len cap zs := by
  rcases h with h | ⟨x, h1, h2, h3, h4, h5, h6⟩
  · exact .inl h
  · refine .inr ⟨x, h1, h2, h3, h4, fun i hi => ?_, h6⟩
    have hc := h5 i hi
    exact (hb.cell (World.block_lt_of_cell? w _ hc)).trans hc
set_option maxRecDepth 100000 in
set_option maxHeartbeats 800000 in
theorem deviceOf (w : World) (a : Option Addr) (len cap : Nat) (zs : List Int) (h : IsRow .u8 w a len cap zs) :
    Calls Try.prog 13 #[.slice a len cap] w fun e w' => ∃ r ts xs, e = .returned r ∧ (Rt ts xs ∧ xs.length ≤ 8) ∧ DevO w' w.heap.size r ts xs ∧ Below w.heap.size w w' := by
  obtain ⟨W, eW, hB, hlt, r0, r1, f0, f1⟩ := News.place w 26
  have HI := Lib.hid (isRow_below h hB)
  have HB := Lib.hid hB
  have HF := Lib.hid (⟨hlt, r0, r1, f0, f1⟩ : _ ∧ _ ∧ _ ∧ _ ∧ _)
  clear h hB r0 r1 f0 f1
  go_enter Try.func13, Try.ntmps13
  go_wp2_with fail
  clear eW
  refine (Src.source W a len cap zs HI.out).mono ?_
  rintro e w1 ⟨rfl, HS⟩
  go_wp2_with fail
  refine (Draw2.device w1 W.heap.size a len cap _ HS.out.1).mono ?_
  rintro e w2 ⟨r, ts, xs, rfl, hr, ho, hg⟩
  obtain ⟨a6, p6, b6, q6, rfl⟩ := Ex.form ho.dev
  have hb2 : Below W.heap.size W w2 := HS.out.2.1.trans ⟨hg.os, hg.tape, hg.output, hg.size, fun k hk => hg.block k (by have := HS.out.2.1.size; omega) (fun e => by have := Option.some.inj e; omega)⟩
  obtain ⟨hlt, r0, r1, f0, f1⟩ := HF.out
  have c0 := (hb2.cell (p := ⟨w.heap.size, 0, none⟩) hlt).trans r0
  have c1 := (hb2.cell (p := ⟨w.heap.size, 1, none⟩) hlt).trans r1
  have c2 := (hb2.frozen (p := ⟨w.heap.size, 0, none⟩) hlt).trans f0
  have c3 := (hb2.frozen (p := ⟨w.heap.size, 1, none⟩) hlt).trans f1
  obtain ⟨F, eF, hdF, R0, R1, hbF⟩ := put_dev ho (show w.heap.size < w1.heap.size by have := HS.out.2.2; omega) c0 c1
  have HDF := Lib.hid (hdF.base (base' := w.heap.size) (by have := HS.out.2.2; omega))
  have HBF := Lib.hid (HB.out.trans ((hb2.mono HB.out.size).trans (hbF _ (Nat.le_refl _))))
  have HR := Lib.hid hr
  clear ho hg hb2 r0 r1 f0 f1 hdF hbF hr
  go_wp2_with fail
  refine bodyPost_ret (v := .agg #[.slice a6 ts.length p6, .slice b6 xs.length q6]) (by simp [results, Try.results13, go_sem, R0, R1]) rfl ⟨_, ts, xs, rfl, HR.out, HDF.out, HBF.out⟩

theorem ext_bN (a b : ByteArray) (h : a.size = b.size) (hj : ∀ j, j < a.size → bN a j = bN b j) : a = b := by
  apply ByteArray.ext
  apply Array.ext
  · exact h
  · intro i h1 h2
    have e := hj i h1
    rw [← bN_at a i h1, ← bN_at b i h2] at e
    exact UInt8.toNat_inj.1 e
theorem fl_twice (s : ByteArray) (p b : Nat) (hp : p < s.size) (hb : b < 256) : fl (fl s p b) p b = s := by
  apply ext_bN
  · rw [fl_size, fl_size]
  · intro j hj
    rw [fl_size, fl_size] at hj
    rw [fl_bN _ p b j (by rw [fl_size]; exact hj) hb]
    by_cases e : j = p
    · rw [if_pos e, fl_bN s p b p hp hb, if_pos rfl, Nat.xor_assoc, Nat.xor_self, Nat.xor_zero, e]
    · rw [if_neg e, fl_bN s p b j hj hb, if_neg e]
theorem fl_ne (s : ByteArray) (p b : Nat) (hp : p < s.size) (hb : b < 256) (h0 : b ≠ 0) : fl s p b ≠ s := by
  intro e
  have h := fl_bN s p b p hp hb
  rw [e, if_pos rfl] at h
  have h2 : bN s p ^^^ (bN s p ^^^ b) = bN s p ^^^ bN s p := by rw [← h]
  rw [← Nat.xor_assoc, Nat.xor_self, Nat.zero_xor] at h2
  exact h0 h2
/-- What the law on flips asks of the plain functions, where there is such a byte. -/
theorem flips {T : List ByteArray} (hr : Rt T []) {q P Y : Nat} (hq : q < 40) (hY0 : Y ≠ 0) (hY : Y ≤ 255) (hf : Flips.fok T q P) :
    ∃ T1, Flips.code T [] q P Y = 0 ∧ Flips.fts T [] q P Y = T1 ∧ Flips.fxs T [] q P Y = [] ∧ Flips.code T1 [] q P Y = 0 ∧ Flips.fts T1 [] q P Y = T ∧ Flips.fxs T1 [] q P Y = [] ∧ T1 ≠ T := by
  have hin : In (q : Int) := ⟨by omega, by omega⟩
  have hfa : fault T [] q = 0 := by unfold fault; rw [if_pos hr, if_pos hin]
  have hbk : Flips.bok (Y : Int) := ⟨by omega, by omega⟩
  obtain ⟨c1, c2, c3⟩ := Flips.case_ok T [] q P Y hfa hbk hf
  simp only [Int.toNat_natCast] at c2
  have hqT : q < T.length := by rw [hr.1]; exact hq
  obtain ⟨s0, hs0⟩ : ∃ s0, T.getD q ByteArray.empty = s0 := ⟨_, rfl⟩
  have hP : P < s0.size := by
    have h := hf.2
    rw [Int.toNat_natCast, hs0] at h
    omega
  rw [hs0] at c2
  have hg1 : (T.set q (fl s0 P Y)).getD q ByteArray.empty = fl s0 P Y := by rw [List.getD_eq_getElem?_getD, List.getElem?_set_self hqT]; rfl
  have hr1 : Rt (T.set q (fl s0 P Y)) [] := by
    refine ⟨by rw [List.length_set]; exact hr.1, by simp, fun j hj => ?_, fun j hj => absurd hj (by simp)⟩
    by_cases e : q = j
    · subst e
      rw [hg1, fl_size, ← hs0]
      exact hr.2.2.1 q hqT
    · rw [show (T.set q (fl s0 P Y)).getD j ByteArray.empty = T.getD j ByteArray.empty by rw [List.getD_eq_getElem?_getD, List.getD_eq_getElem?_getD, List.getElem?_set_ne e]]
      exact hr.2.2.1 j (by rw [List.length_set] at hj; exact hj)
  have hf1 : Flips.fok (T.set q (fl s0 P Y)) q P := by
    refine ⟨by omega, ?_⟩
    rw [Int.toNat_natCast, hg1, fl_size]
    omega
  have hfa1 : fault (T.set q (fl s0 P Y)) [] q = 0 := by unfold fault; rw [if_pos hr1, if_pos hin]
  obtain ⟨e1, e2, e3⟩ := Flips.case_ok (T.set q (fl s0 P Y)) [] q P Y hfa1 hbk hf1
  simp only [Int.toNat_natCast] at e2
  rw [hg1, fl_twice s0 P Y hP (by omega), List.set_set] at e2
  refine ⟨_, c1, c2, c3, e1, ?_, e3, fun e => ?_⟩
  · rw [e2]
    apply List.ext_getElem?
    intro j
    by_cases ej : q = j
    · subst ej
      rw [List.getElem?_set_self hqT, ← hs0, List.getD_eq_getElem?_getD, List.getElem?_eq_getElem hqT]
      rfl
    · rw [List.getElem?_set_ne ej]
  · have h := congrArg (fun l : List ByteArray => l.getD q ByteArray.empty) e
    simp only [hg1, hs0] at h
    exact fl_ne s0 P Y hP (by omega) hY0 h
theorem flips_none {T : List ByteArray} (hr : Rt T []) {q P Y : Nat} (hq : q < 40) (hY0 : Y ≠ 0) (hY : Y ≤ 255) (hf : ¬ Flips.fok T q P) :
    Flips.code T [] q P Y = 5 ∧ Flips.fts T [] q P Y = T ∧ Flips.fxs T [] q P Y = [] :=
  Flips.case_none T [] q P Y (by unfold fault; rw [if_pos hr, if_pos (show In (q : Int) from ⟨by omega, by omega⟩)]) ⟨by omega, by omega⟩ hf
theorem fts_len {T : List ByteArray} (h : T.length ≤ 1048576) (xs : List (Int × ByteArray)) (z pl by_ : Int) : (Flips.fts T xs z pl by_).length ≤ 1048576 := by
  unfold Flips.fts
  split
  · split
    · split
      · rw [List.length_set]; exact h
      · exact h
    · simp
  · simp
end Go.Proofs.Ytmgokpkogjdfhaa.DeviceOf
