/-
  What is proved: the laws' functions on devices: their size counted, copied, compared, marked and found marked (contracts for the walks).
-/
import Derived.Test.YtmgokpkogjdfhaaRows
import Derived.Test.YtmgokpkogjdfhaaLawI
import Derived.Test.YtmgokpkogjdfhaaMarks
namespace Go.Proofs.Ytmgokpkogjdfhaa.LawD
open Go.ChangeShapes Go.WideShapes Go.ChangeAt Go.RowKit
open Sl (Sl Own Off)
open OpenSl (tc nc pc)
open Dev
open Marks (mc mp)
set_option linter.unusedVariables false

theorem bcell {W w1 : World} (hb : Below W.heap.size W w1) : (∀ b o, b < W.heap.size → w1.cell? ⟨b, o, none⟩ = W.cell? ⟨b, o, none⟩) ∧ (∀ b o, b < W.heap.size → w1.frozen? ⟨b, o, none⟩ = W.frozen? ⟨b, o, none⟩) :=
  ⟨fun b o h => hb.cell (p := ⟨b, o, none⟩) h, fun b o h => hb.frozen (p := ⟨b, o, none⟩) h⟩
/-- Sizes that the laws go on with. -/
def Fits (ts : List ByteArray) (xs : List (Int × ByteArray)) : Prop := ts.length ≤ 1048576 ∧ xs.length ≤ 1048576 ∧ (∀ s ∈ ts, s.size ≤ 1048576) ∧ ∀ y ∈ xs, y.2.size ≤ 1048576

set_option maxRecDepth 100000 in
set_option maxHeartbeats 800000 in
theorem szDevice (w : World) (v : Value) (ts : List ByteArray) (xs : List (Int × ByteArray)) (h : Dev w v ts xs) (hs : ∀ s ∈ ts, s.size ≤ maxLen) (hx : ∀ y ∈ xs, y.2.size ≤ maxLen) (L : Nat) (hL : L ≤ 1048576) :
    Calls Try.prog 33 #[v, .int .i64 L] w fun e w' => (∃ r : Int, e = .returned (.int .i64 r) ∧ (r = -1 ∨ ∃ R : Nat, r = R ∧ R ≤ L ∧ Fits ts xs)) ∧ Below w.heap.size w w' := by
  obtain ⟨sv, uv, rfl, h1, h2⟩ := h
  have H1 := Lib.hid h1
  have H2 := Lib.hid h2
  have HS := Lib.hid hs
  have HX := Lib.hid hx
  clear h1 h2 hs hx
  have HB := Lib.hid ((Below.refl w.heap.size w).alloc (Nat.le_refl _) (.cells #[sv, uv] 48))
  go_enter Try.func33, Try.ntmps33
  go_wp2_with fail
  refine (LawS.szStringS _ sv ts (H1.out.below HB.out) HS.out L hL).mono ?_
  rintro e w1 ⟨⟨r, rfl, hr⟩, rfl⟩
  rcases hr with rfl | ⟨R, rfl, hR, f1, f2⟩
  · go_wp2_with fail
    go_ret
    exact ⟨⟨_, rfl, .inl rfl⟩, HB.out⟩
  · have F1 := Lib.hid f1
    have F2 := Lib.hid f2
    clear f1 f2
    go_wp2_with fail
    refine (LawI.szIoS _ uv xs (H2.out.below HB.out) HX.out R (by omega)).mono ?_
    rintro e w2 ⟨⟨r, rfl, hr⟩, hb⟩
    have HB2 := Lib.hid (HB.out.trans (hb.mono HB.out.size))
    clear hb
    rcases hr with rfl | ⟨R2, rfl, hR2, f1, f2⟩
    · go_wp2_with fail
      go_ret
      exact ⟨⟨_, rfl, .inl rfl⟩, HB2.out⟩
    · have F3 := Lib.hid f1
      have F4 := Lib.hid f2
      clear f1 f2
      go_wp2_with fail
      go_ret
      exact ⟨⟨_, rfl, .inr ⟨R2, rfl, by omega, by have := F1.out; omega, by have := F3.out; omega, fun s hs => by have := F2.out s hs; omega, fun s hs => by have := F4.out s hs; omega⟩⟩, HB2.out⟩

set_option maxRecDepth 100000 in
set_option maxHeartbeats 800000 in
theorem eqDevice (w : World) (u v : Value) (ts : List ByteArray) (xs : List (Int × ByteArray)) (h : Dev w u ts xs) (h' : Dev w v ts xs) :
    Calls Try.prog 30 #[u, v] w fun e w' => e = .returned (.bool true) ∧ Below w.heap.size w w' := by
  obtain ⟨sv, uv, rfl, h1, h2⟩ := h
  obtain ⟨sv', uv', rfl, h1', h2'⟩ := h'
  have H1 := Lib.hid h1
  have H2 := Lib.hid h2
  have H1' := Lib.hid h1'
  have H2' := Lib.hid h2'
  clear h1 h2 h1' h2'
  have HB := Lib.hid (((Below.refl w.heap.size w).alloc (Nat.le_refl _) (.cells #[sv, uv] 26)).alloc (by simp) (.cells #[sv', uv'] 26))
  go_enter Try.func30, Try.ntmps30
  go_wp2_with fail
  refine (LawS.eqStringS _ sv sv' ts (H1.out.below HB.out) (H1'.out.below HB.out)).mono ?_
  rintro e w1 ⟨rfl, hb⟩
  obtain ⟨hc, hf⟩ := bcell hb
  have HB2 := Lib.hid (HB.out.trans (hb.mono HB.out.size))
  clear hb hf
  simp only [World.size_alloc] at hc
  go_wp2_with fail
  refine (LawI.eqIoS _ uv uv' xs (H2.out.below HB2.out) (H2'.out.below HB2.out)).mono ?_
  rintro e w2 ⟨rfl, hb⟩
  have HB3 := Lib.hid (HB2.out.trans (hb.mono HB2.out.size))
  clear hb
  go_wp2_with fail
  go_ret
  exact ⟨rfl, HB3.out⟩

set_option maxRecDepth 100000 in
set_option maxHeartbeats 800000 in
theorem heldDevice (w : World) (sv uv : Value) (n m k : Nat) (h1 : Sl w 1 sv n (mc k)) (h2 : Sl w 2 uv m (mp (k + n))) (hk : k + n + m * 2 ≤ 10000000) :
    Calls Try.prog 32 #[.agg #[sv, uv], .int .i64 k] w fun e w' => e = .returned (.int .i64 ((k + n + m * 2 : Nat) : Int)) ∧ Below w.heap.size w w' := by
  have H1 := Lib.hid h1
  have H2 := Lib.hid h2
  clear h1 h2
  have HB := Lib.hid ((Below.refl w.heap.size w).alloc (Nat.le_refl _) (.cells #[sv, uv] 26))
  go_enter Try.func32, Try.ntmps32
  go_wp2_with fail
  refine (Marks.heldStringS _ sv n k (H1.out.below HB.out) (by omega)).mono ?_
  rintro e w1 ⟨rfl, hb⟩
  obtain ⟨hc, hf⟩ := bcell hb
  have HB2 := Lib.hid (HB.out.trans (hb.mono HB.out.size))
  clear hb hf
  simp only [World.size_alloc] at hc
  obtain ⟨q, eq⟩ : ∃ q, k + n = q := ⟨_, rfl⟩
  have EQ := Lib.hid eq
  have hq : q + m * 2 ≤ 10000000 := by omega
  rw [eq] at H2 ⊢
  clear eq hk
  go_wp2_with fail
  refine (Marks.heldIoS _ uv m q (H2.out.below HB2.out) hq).mono ?_
  rintro e w2 ⟨rfl, hb⟩
  have HB3 := Lib.hid (HB2.out.trans (hb.mono HB2.out.size))
  clear hb
  obtain ⟨q2, eq2⟩ : ∃ q2, q + m * 2 = q2 := ⟨_, rfl⟩
  have EQ2 := Lib.hid eq2
  rw [eq2]
  clear eq2
  go_wp2_with fail
  go_ret
  refine ⟨?_, HB3.out⟩
  rw [EQ.out, EQ2.out]
  rfl

set_option maxRecDepth 100000 in
set_option maxHeartbeats 800000 in
theorem markDevice (w : World) (base : Nat) (sv uv : Value) (n m k : Nat) (c d : Nat → Value) (h1 : Own w base 1 sv n c) (h2 : Own w base 2 uv m d) (ha : Apart sv uv) (hk : k + n + m * 2 ≤ 10000000) :
    Calls Try.prog 31 #[.agg #[sv, uv], .int .i64 k] w fun e w' => e = .returned (.int .i64 ((k + n + m * 2 : Nat) : Int)) ∧ Own w' base 1 sv n (mc k) ∧ Own w' base 2 uv m (mp (k + n)) ∧ Turns [sv, uv] w w' := by
  have HB := Lib.hid ((Below.refl w.heap.size w).alloc (Nat.le_refl _) (.cells #[sv, uv] 26))
  have H1 := Lib.hid (h1.below HB.out)
  have H2 := Lib.hid (h2.below HB.out)
  have HT := Lib.hid (Turns.of_below (vs := [sv, uv]) HB.out)
  have HA := Lib.hid ha
  have HO1 := Lib.hid (h1.sl.off (by omega) w.heap.size (Nat.le_refl _))
  have HO2 := Lib.hid (h2.sl.off (by omega) w.heap.size (Nat.le_refl _))
  clear h1 h2 ha HB
  have e1 : (w.alloc (.cells #[sv, uv] 26)).heap.size = w.heap.size + 1 := by simp
  have hcu : (w.alloc (.cells #[sv, uv] 26)).cell? ⟨w.heap.size, 1, none⟩ = some uv := by go_simp
  go_enter Try.func31, Try.ntmps31
  go_wp2_with fail
  generalize w.alloc (.cells #[sv, uv] 26) = W at *
  refine (Marks.markStringS W base sv n c H1.out k (by omega)).mono ?_
  rintro e w1 ⟨rfl, ho, ht⟩
  have hc1 : w1.cell? ⟨w.heap.size, 1, none⟩ = some uv := by
    rw [World.cell?_of_block (w := W) (ht.block w.heap.size (by omega) (fun v hv => by simp at hv; subst hv; exact HO1.out))]
    exact hcu
  have HO := Lib.hid ho
  have H2' := Lib.hid (own_turns H2.out ht (fun u hu => by simp at hu; subst hu; exact HA.out.symm))
  have HT1 := Lib.hid (HT.out.trans (ht.more (by simp)))
  clear ho ht hcu
  obtain ⟨q, eq⟩ : ∃ q, k + n = q := ⟨_, rfl⟩
  have EQ := Lib.hid eq
  have hq : q + m * 2 ≤ 10000000 := by omega
  rw [eq]
  clear eq hk
  go_wp2_with fail
  refine (Marks.markIoS w1 base uv m d H2'.out q hq).mono ?_
  rintro e w2 ⟨rfl, ho, ht⟩
  have HP := Lib.hid ho
  have HO3 := Lib.hid (own_turns HO.out ht (fun u hu => by simp at hu; subst hu; exact HA.out))
  have HT2 := Lib.hid (HT1.out.trans (ht.more (by simp)))
  clear ho ht
  obtain ⟨q2, eq2⟩ : ∃ q2, q + m * 2 = q2 := ⟨_, rfl⟩
  have EQ2 := Lib.hid eq2
  rw [eq2]
  clear eq2
  go_wp2_with fail
  go_ret
  refine ⟨?_, HO3.out, by rw [EQ.out]; exact HP.out, HT2.out⟩
  rw [EQ.out, EQ2.out]
  rfl

/-- A device's two fields, stored. -/
theorem stored {w : World} {g : Nat} {x0 x1 u v : Value} (h0 : w.cell? ⟨g, 0, none⟩ = some x0) (h1 : w.cell? ⟨g, 1, none⟩ = some x1) :
    ((w.setCell ⟨g, 0, none⟩ u).setCell ⟨g, 1, none⟩ v).cell? ⟨g, 0, none⟩ = some u ∧ ((w.setCell ⟨g, 0, none⟩ u).setCell ⟨g, 1, none⟩ v).cell? ⟨g, 1, none⟩ = some v := by
  have e1 : (w.setCell ⟨g, 0, none⟩ u).cell? ⟨g, 1, none⟩ = some x1 := by rw [World.cell?_setCell_other _ _ _ _ (by simp)]; exact h1
  refine ⟨?_, World.cell?_setCell_same _ _ _ e1⟩
  rw [World.cell?_setCell_other _ _ _ _ (by simp)]
  exact World.cell?_setCell_same _ _ _ h0

set_option maxRecDepth 100000 in
set_option maxHeartbeats 800000 in
theorem toDevice (w : World) (v : Value) (ts : List ByteArray) (xs : List (Int × ByteArray)) (h : Dev w v ts xs) (hn : ts.length ≤ 1048576) (hm : xs.length ≤ 1048576) :
    Calls Try.prog 35 #[v] w fun e w' => ∃ r, e = .returned r ∧ DevO w' w.heap.size r ts xs ∧ Below w.heap.size w w' := by
  obtain ⟨sv, uv, rfl, h1, h2⟩ := h
  have H1 := Lib.hid h1
  have H2 := Lib.hid h2
  clear h1 h2
  have HB := Lib.hid ((((Below.refl w.heap.size w).alloc (Nat.le_refl _) (.cells #[sv, uv] 48)).alloc (by simp) (.cells #[.slice none 0 0, .slice none 0 0] 26)).alloc (by simp; omega) (.cells #[.slice none 0 0, .slice none 0 0] 26))
  go_enter Try.func35, Try.ntmps35
  go_wp2_with fail
  refine (LawS.toStringS _ sv ts (H1.out.below HB.out) hn).mono ?_
  rintro e w1 ⟨r1, rfl, ho1, hb⟩
  obtain ⟨hc, hf⟩ := bcell hb
  have hz := hb.size
  have HO1 := Lib.hid (ho1.base HB.out.size)
  have HB1 := Lib.hid (HB.out.trans (hb.mono HB.out.size))
  have HR1 := Lib.hid (show Off r1 (w.heap.size + 1 + 1) from own_low ho1 _ (by simp))
  have HR0 := Lib.hid (show Off r1 (w.heap.size + 1) from own_low ho1 _ (by simp))
  obtain ⟨a1, cap1, rfl, _, _⟩ := ho1.sl.form
  clear hb ho1
  simp only [World.size_alloc] at hc hf hz
  have hx0 : w1.cell? ⟨w.heap.size + 1 + 1, 0, none⟩ = some (.slice none 0 0) := by rw [hc _ _ (by omega)]; go_simp
  have hx1 : w1.frozen? ⟨w.heap.size + 1 + 1, 0, none⟩ = false := by rw [hf _ _ (by omega)]; go_simp
  have hy0 : w1.cell? ⟨w.heap.size + 1 + 1, 1, none⟩ = some (.slice none 0 0) := by rw [hc _ _ (by omega)]; go_simp
  have hy1 : w1.frozen? ⟨w.heap.size + 1 + 1, 1, none⟩ = false := by rw [hf _ _ (by omega)]; go_simp
  have hz0 : w1.cell? ⟨w.heap.size + 1, 0, none⟩ = some (.slice none 0 0) := by rw [hc _ _ (by omega)]; go_simp
  have hz1 : w1.frozen? ⟨w.heap.size + 1, 0, none⟩ = false := by rw [hf _ _ (by omega)]; go_simp
  have hz2 : w1.cell? ⟨w.heap.size + 1, 1, none⟩ = some (.slice none 0 0) := by rw [hc _ _ (by omega)]; go_simp
  have hz3 : w1.frozen? ⟨w.heap.size + 1, 1, none⟩ = false := by rw [hf _ _ (by omega)]; go_simp
  go_wp2_with fail
  have HB2 := Lib.hid (HB1.out.setCell (p := ⟨w.heap.size + 1 + 1, 0, none⟩) (by simp; omega) (.slice a1 ts.length cap1))
  have HO2 := Lib.hid (own_set_off HO1.out HR1.out 0 (.slice a1 ts.length cap1))
  have hX0 : (w1.setCell ⟨w.heap.size + 1 + 1, 0, none⟩ (.slice a1 ts.length cap1)).cell? ⟨w.heap.size + 1 + 1, 0, none⟩ = some (.slice a1 ts.length cap1) := by go_simp
  have hY0 : (w1.setCell ⟨w.heap.size + 1 + 1, 0, none⟩ (.slice a1 ts.length cap1)).cell? ⟨w.heap.size + 1 + 1, 1, none⟩ = some (.slice none 0 0) := by go_simp
  have hY1 : (w1.setCell ⟨w.heap.size + 1 + 1, 0, none⟩ (.slice a1 ts.length cap1)).frozen? ⟨w.heap.size + 1 + 1, 1, none⟩ = false := by rw [Sl.frozen_set]; exact hy1
  have hZ0 : (w1.setCell ⟨w.heap.size + 1 + 1, 0, none⟩ (.slice a1 ts.length cap1)).cell? ⟨w.heap.size + 1, 0, none⟩ = some (.slice none 0 0) := by go_simp
  have hZ1 : (w1.setCell ⟨w.heap.size + 1 + 1, 0, none⟩ (.slice a1 ts.length cap1)).frozen? ⟨w.heap.size + 1, 0, none⟩ = false := by rw [Sl.frozen_set]; exact hz1
  have hZ2 : (w1.setCell ⟨w.heap.size + 1 + 1, 0, none⟩ (.slice a1 ts.length cap1)).cell? ⟨w.heap.size + 1, 1, none⟩ = some (.slice none 0 0) := by go_simp
  have hZ3 : (w1.setCell ⟨w.heap.size + 1 + 1, 0, none⟩ (.slice a1 ts.length cap1)).frozen? ⟨w.heap.size + 1, 1, none⟩ = false := by rw [Sl.frozen_set]; exact hz3
  have hS : w.heap.size + 1 + 1 < (w1.setCell ⟨w.heap.size + 1 + 1, 0, none⟩ (.slice a1 ts.length cap1)).heap.size := by simp; omega
  clear hc hf hx0 hx1 hy0 hy1 hz0 hz1 hz2 hz3
  generalize w1.setCell ⟨w.heap.size + 1 + 1, 0, none⟩ (.slice a1 ts.length cap1) = W at *
  refine (LawI.toIoS W uv xs (H2.out.below HB2.out) hm).mono ?_
  rintro e w2 ⟨r2, rfl, ho2, hb⟩
  have HAP := Lib.hid (apart_of HO2.out.sl (by omega) ho2 (Nat.le_refl _))
  have HO3 := Lib.hid (ho2.base HB2.out.size)
  have HO4 := Lib.hid (HO2.out.below hb)
  have HB3 := Lib.hid (HB2.out.trans (hb.mono HB2.out.size))
  have HQ1 := Lib.hid (show Off r2 (w.heap.size + 1 + 1) from own_low ho2 _ hS)
  have HQ0 := Lib.hid (show Off r2 (w.heap.size + 1) from own_low ho2 _ (by omega))
  rw [← hb.cell (show w.heap.size + 1 + 1 < W.heap.size from hS)] at hX0 hY0
  rw [← hb.frozen (show w.heap.size + 1 + 1 < W.heap.size from hS)] at hY1
  rw [← hb.cell (show w.heap.size + 1 < W.heap.size by omega)] at hZ0 hZ2
  rw [← hb.frozen (show w.heap.size + 1 < W.heap.size by omega)] at hZ1 hZ3
  obtain ⟨a2, cap2, rfl, _, _⟩ := ho2.sl.form
  clear hb ho2 hS
  go_wp2_with fail
  rw [← World.cell?_setCell_other w2 ⟨w.heap.size + 1 + 1, 1, none⟩ _ (.slice a2 xs.length cap2) (by simp)] at hZ0 hZ2
  obtain ⟨R0, R1⟩ := stored (u := .slice a1 ts.length cap1) (v := .slice a2 xs.length cap2) hZ0 hZ2
  have F1 := Lib.hid (own_set_off (own_set_off (own_set_off HO4.out HR1.out 1 (.slice a2 xs.length cap2)) HR0.out 0 (.slice a1 ts.length cap1)) HR0.out 1 (.slice a2 xs.length cap2))
  have F2 := Lib.hid (own_set_off (own_set_off (own_set_off HO3.out HQ1.out 1 (.slice a2 xs.length cap2)) HQ0.out 0 (.slice a1 ts.length cap1)) HQ0.out 1 (.slice a2 xs.length cap2))
  have F3 := Lib.hid (((HB3.out.setCell (p := ⟨w.heap.size + 1 + 1, 1, none⟩) (by simp; omega) (.slice a2 xs.length cap2)).setCell (p := ⟨w.heap.size + 1, 0, none⟩) (by simp) (.slice a1 ts.length cap1)).setCell (p := ⟨w.heap.size + 1, 1, none⟩) (by simp) (.slice a2 xs.length cap2))
  generalize World.setCell (World.setCell (World.setCell _ _ _) _ _) _ _ = Wf at *
  refine bodyPost_ret (v := .agg #[.slice a1 ts.length cap1, .slice a2 xs.length cap2]) (by simp [results, Try.results35, go_sem, R0, R1]) rfl ⟨_, rfl, ⟨_, _, rfl, F1.out, F2.out, HAP.out⟩, F3.out⟩
end Go.Proofs.Ytmgokpkogjdfhaa.LawD
