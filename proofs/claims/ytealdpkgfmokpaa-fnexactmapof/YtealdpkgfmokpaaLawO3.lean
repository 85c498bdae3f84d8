/-
  What is proved: the laws' functions on trees: copied into new memory, marked and found marked (contracts for the walks).
-/
import Derived.Test.YtealdpkgfmokpaaRows
import Derived.Test.YtealdpkgfmokpaaLawO2
import Derived.Test.YtealdpkgfmokpaaBox3
namespace Go.Proofs.Ytealdpkgfmokpaa.LawO3
open Go.ChangeShapes Go.WideShapes Go.ChangeAt Go.RowKit
open Sl (Sl Own Off)
open OpenSl (tc nc pc)
open Dev Orm LawO LawO2 Box3
open LawN (mi)
set_option linter.unusedVariables false

theorem len_le (bss : List (List Bk)) (m : Nat) (h : (bss.map List.length).sum ≤ m) : ∀ j, j < bss.length → (bss.getD j []).length ≤ m := by
  intro j hj
  have h1 := sm_succ bss j hj
  have h2 : sm bss (j + 1) ≤ (bss.map List.length).sum := by
    unfold sm
    conv => rhs; rw [← List.take_append_drop (j + 1) bss, List.map_append, List.sum_append]
    omega
  omega

set_option maxRecDepth 100000 in
set_option maxHeartbeats 1600000 in
theorem toOram (w : World) (v : Value) (o : Om) (h : Rd w v o) (hn : tot o ≤ 1048576) :
    Calls Try.prog 12 #[v] w fun e w' => ∃ r, e = .returned r ∧ RdO w' w.heap.size w'.heap.size r o ∧ Below w.heap.size w w' := by
  have HN := Lib.hid (show o.pos.length ≤ 1048576 ∧ o.st.length ≤ 1048576 ∧ o.bk.length ≤ 1048576 ∧ (o.bk.map List.length).sum ≤ 1048576 by unfold tot at hn; omega)
  obtain ⟨p, s, b, rfl, h1, h2, h3⟩ := h
  obtain ⟨U1, e1, hb1, hz1, B1⟩ := box3 w 26 p s b
  obtain ⟨U2, e2, hb2, hz2, B2⟩ := box3 U1 31 (.slice none 0 0) (.slice none 0 0) (.slice none 0 0)
  obtain ⟨U3, e3, hb3, hz3, B3⟩ := box3 U2 31 (.slice none 0 0) (.slice none 0 0) (.slice none 0 0)
  have hbb := hb1.trans ((hb2.mono hb1.size).trans (hb3.mono (by omega)))
  have HB := Lib.hid hbb
  have H1 := Lib.hid h1
  have H2 := Lib.hid h2
  have H3 := Lib.hid h3
  have X1 := (B1.below hb2).below hb3
  have X2 := B2.below hb3
  have X3 := B3
  obtain ⟨G1, eG1⟩ : ∃ G1, w.heap.size = G1 := ⟨_, rfl⟩
  obtain ⟨G2, eG2⟩ : ∃ G2, U1.heap.size = G2 := ⟨_, rfl⟩
  obtain ⟨G3, eG3⟩ : ∃ G3, U2.heap.size = G3 := ⟨_, rfl⟩
  obtain ⟨N, eN⟩ : ∃ N, U3.heap.size = N := ⟨_, rfl⟩
  have EN := Lib.hid eN
  have HZ := Lib.hid (show G1 < G2 ∧ G2 < G3 ∧ G3 < N by omega)
  have HG := Lib.hid eG1
  rw [eG1] at X1
  rw [eG2] at X2
  rw [eG3] at X3
  have HX1 := Lib.hid X1
  have HX2 := Lib.hid X2
  have HX3 := Lib.hid X3
  obtain ⟨c0, c1, c2, f0, f1, f2⟩ := X1
  obtain ⟨d0, d1, d2, j0, j1, j2⟩ := X2
  obtain ⟨k0, k1, k2, l0, l1, l2⟩ := X3
  clear hb1 hb2 hb3 hz1 hz2 hz3 B1 B2 B3 h1 h2 h3 hn hbb eN
  go_enter Try.func12, Try.ntmps12
  go_wp2_with fail
  clear c0 c1 c2 f0 f1 f2 d0 d1 d2 j0 j1 j2 k0 k1 k2 l0 l1 l2 e1 e2 e3 eG1 eG2 eG3
  refine (LawN.toIntS U3 p o.pos (H1.out.below HB.out) HN.out.1).mono ?_
  rintro e w1 ⟨r1, rfl, ho, hb⟩
  have K1 := HX1.out.below hb
  have K2 := HX2.out.below hb
  have K3 := HX3.out.below hb
  have HO1 := Lib.hid (ho.base (base' := N) (by rw [EN.out]; exact Nat.le_refl _))
  have HB1 := Lib.hid (show Below w.heap.size w w1 from HB.out.trans (hb.mono (by rw [← HG.out] at *; exact HB.out.size)))
  have HL1 := Lib.hid (show N ≤ w1.heap.size by rw [← EN.out]; exact hb.size)
  obtain ⟨a1, p1, rfl, _, _⟩ := ho.sl.form
  clear ho hb H1 HX1 HX2 HX3 HB
  obtain ⟨c0, c1, c2, f0, f1, f2⟩ := id K1
  obtain ⟨k0, k1, k2, l0, l1, l2⟩ := id K3
  have HK1 := Lib.hid K1
  have HK2 := Lib.hid K2
  have HK3 := Lib.hid K3
  clear K1 K2 K3
  go_wp2_with fail
  clear c0 c1 c2 f0 f1 f2 k0 k1 k2 l0 l1 l2
  generalize ew : World.setCell w1 _ _ = W1
  have om : G1 ≠ G3 ∧ G2 ≠ G3 ∧ w.heap.size ≤ G3 ∧ G3 < N := by have := HZ.out; have := HG.out; omega
  have HO2 := Lib.hid (show Own W1 N 1 (.slice a1 o.pos.length p1) o.pos.length (nc o.pos) from by rw [← ew]; exact own_set_off HO1.out (own_low HO1.out G3 om.2.2.2) _ _)
  have HB2 := Lib.hid (show Below w.heap.size w W1 from by rw [← ew]; exact HB1.out.setCell (p := ⟨G3, 0, none⟩) om.2.2.1 _)
  have HL2 := Lib.hid (show N ≤ W1.heap.size from by rw [← ew]; simpa using HL1.out)
  have HX1 := Lib.hid (show Bx W1 G1 p s b from by rw [← ew]; exact HK1.out.other om.1 _ _)
  have HX2 := Lib.hid (show Bx W1 G2 (.slice none 0 0) (.slice none 0 0) (.slice none 0 0) from by rw [← ew]; exact HK2.out.other om.2.1 _ _)
  have HX3 := Lib.hid (show Bx W1 G3 (.slice a1 o.pos.length p1) (.slice none 0 0) (.slice none 0 0) from by rw [← ew]; exact HK3.out.set0 _)
  clear ew HO1 HB1 HL1 HK1 HK2 HK3
  refine (toBlockS W1 s o.st (H2.out.below HB2.out) HN.out.2.1).mono ?_
  rintro e w2 ⟨r2, rfl, ho, hb⟩
  have K1 := HX1.out.below hb
  have K2 := HX2.out.below hb
  have K3 := HX3.out.below hb
  have HA12 := Lib.hid (apart_of HO2.out.sl (by omega) ho (Nat.le_refl _))
  have HO3 := Lib.hid (HO2.out.below hb)
  have HQ3 := Lib.hid (ho.base (base' := N) HL2.out)
  have HB3 := Lib.hid (show Below w.heap.size w w2 from HB2.out.trans (hb.mono HB2.out.size))
  have HL3 := Lib.hid (Nat.le_trans HL2.out hb.size)
  obtain ⟨a2, p2, rfl, _, _⟩ := ho.sl.form
  clear ho hb H2 HX1 HX2 HX3 HB2 HO2 HL2 om
  obtain ⟨c0, c1, c2, f0, f1, f2⟩ := id K1
  obtain ⟨k0, k1, k2, l0, l1, l2⟩ := id K3
  have HK1 := Lib.hid K1
  have HK2 := Lib.hid K2
  have HK3 := Lib.hid K3
  clear K1 K2 K3
  go_wp2_with fail
  clear c0 c1 c2 f0 f1 f2 k0 k1 k2 l0 l1 l2
  generalize ew : World.setCell w2 _ _ = W2
  have om : G1 ≠ G3 ∧ G2 ≠ G3 ∧ w.heap.size ≤ G3 ∧ G3 < N := by have := HZ.out; have := HG.out; omega
  have HO4 := Lib.hid (show Own W2 N 1 (.slice a1 o.pos.length p1) o.pos.length (nc o.pos) from by rw [← ew]; exact own_set_off HO3.out (own_low HO3.out G3 om.2.2.2) _ _)
  have HQ4 := Lib.hid (show Own W2 N 3 (.slice a2 o.st.length p2) o.st.length (bc o.st) from by rw [← ew]; exact own_set_off HQ3.out (own_low HQ3.out G3 om.2.2.2) _ _)
  have HB4 := Lib.hid (show Below w.heap.size w W2 from by rw [← ew]; exact HB3.out.setCell (p := ⟨G3, 1, none⟩) om.2.2.1 _)
  have HL4 := Lib.hid (show N ≤ W2.heap.size from by rw [← ew]; simpa using HL3.out)
  have HX2 := Lib.hid (show Bx W2 G2 (.slice none 0 0) (.slice none 0 0) (.slice none 0 0) from by rw [← ew]; exact HK2.out.other om.2.1 _ _)
  have HX3 := Lib.hid (show Bx W2 G3 (.slice a1 o.pos.length p1) (.slice a2 o.st.length p2) (.slice none 0 0) from by rw [← ew]; exact HK3.out.set1 _)
  clear ew HO3 HQ3 HB3 HL3 HK1 HK2 HK3
  refine (toBlockSS W2 b o.bk (H3.out.below HB4.out) HN.out.2.2.1 (len_le _ _ HN.out.2.2.2)).mono ?_
  rintro e w3 ⟨r3, vs, rfl, ho, hb⟩
  have K2 := HX2.out.below hb
  have K3 := HX3.out.below hb
  have HZ5 := Lib.hid (show N ≤ W2.heap.size ∧ W2.heap.size ≤ w3.heap.size from ⟨HL4.out, hb.size⟩)
  have HA := Lib.hid (show Apart (.slice a1 o.pos.length p1) r3 ∧ Apart (.slice a2 o.st.length p2) r3 ∧ (∀ j, j < o.bk.length → Apart (.slice a1 o.pos.length p1) (vs j)) ∧ (∀ j, j < o.bk.length → Apart (.slice a2 o.st.length p2) (vs j)) from
    ⟨apart_of HO4.out.sl (by omega) ho.out (Nat.le_refl _), apart_of HQ4.out.sl (by omega) ho.out (Nat.le_refl _), fun j hj => apart_of HO4.out.sl (by omega) (ho.inn j hj) (Nat.le_refl _), fun j hj => apart_of HQ4.out.sl (by omega) (ho.inn j hj) (Nat.le_refl _)⟩)
  have HO5 := Lib.hid (HO4.out.below hb)
  have HQ5 := Lib.hid (HQ4.out.below hb)
  have HP5 := Lib.hid (ho.base (lo' := N) HL4.out)
  have HB5 := Lib.hid (show Below w.heap.size w w3 from HB4.out.trans (hb.mono HB4.out.size))
  obtain ⟨a3, p3, rfl, _, _⟩ := ho.out.sl.form
  clear ho hb H3 HX2 HX3 HB4 HO4 HQ4 HL4 om
  obtain ⟨d0, d1, d2, j0, j1, j2⟩ := id K2
  obtain ⟨k0, k1, k2, l0, l1, l2⟩ := id K3
  have HK2 := Lib.hid K2
  have HK3 := Lib.hid K3
  clear K2 K3
  have gn1 : ¬ G2 = G3 := by have := HZ.out; omega
  have gn2 : ¬ G3 = G2 := by have := HZ.out; omega
  go_wp2_with fail
  have om : G1 ≠ G3 ∧ G2 ≠ G3 ∧ w.heap.size ≤ G3 ∧ G3 < N ∧ w.heap.size ≤ G2 ∧ G2 < N := by have := HZ.out; have := HG.out; omega
  obtain ⟨R0, R1, R2, _, _, _⟩ := (((HK2.out.other om.2.1 2 (.slice a3 o.bk.length p3)).set0 (.slice a1 o.pos.length p1)).set1 (.slice a2 o.st.length p2)).set2 (.slice a3 o.bk.length p3)
  have F : TurnsR 0 N w3 ((((w3.setCell ⟨G3, 2, none⟩ (.slice a3 o.bk.length p3)).setCell ⟨G2, 0, none⟩ (.slice a1 o.pos.length p1)).setCell ⟨G2, 1, none⟩ (.slice a2 o.st.length p2)).setCell ⟨G2, 2, none⟩ (.slice a3 o.bk.length p3)) :=
    ⟨rfl, rfl, rfl, by simp, fun k hk hh => by
      rw [Below.heap_setCell _ _ _ k (by show k ≠ G2; omega), Below.heap_setCell _ _ _ k (by show k ≠ G2; omega), Below.heap_setCell _ _ _ k (by show k ≠ G2; omega), Below.heap_setCell _ _ _ k (by show k ≠ G3; omega)]⟩
  have F3 := Lib.hid ((((HB5.out.setCell (p := ⟨G3, 2, none⟩) om.2.2.1 (.slice a3 o.bk.length p3)).setCell (p := ⟨G2, 0, none⟩) om.2.2.2.2.1 (.slice a1 o.pos.length p1)).setCell (p := ⟨G2, 1, none⟩) om.2.2.2.2.1 (.slice a2 o.st.length p2)).setCell (p := ⟨G2, 2, none⟩) om.2.2.2.2.1 (.slice a3 o.bk.length p3))
  have hs : w3.heap.size = ((((w3.setCell ⟨G3, 2, none⟩ (.slice a3 o.bk.length p3)).setCell ⟨G2, 0, none⟩ (.slice a1 o.pos.length p1)).setCell ⟨G2, 1, none⟩ (.slice a2 o.st.length p2)).setCell ⟨G2, 2, none⟩ (.slice a3 o.bk.length p3)).heap.size := by simp
  have FR := Lib.hid (show RdO ((((w3.setCell ⟨G3, 2, none⟩ (.slice a3 o.bk.length p3)).setCell ⟨G2, 0, none⟩ (.slice a1 o.pos.length p1)).setCell ⟨G2, 1, none⟩ (.slice a2 o.st.length p2)).setCell ⟨G2, 2, none⟩ (.slice a3 o.bk.length p3)) w.heap.size w3.heap.size (.agg #[.slice a1 o.pos.length p1, .slice a2 o.st.length p2, .slice a3 o.bk.length p3]) o from by
    refine RdO.wide (lo := N) (hi := w3.heap.size) (RdO.turns (lo' := 0) (hi' := N) (w := w3) ?_ F (.inl (Nat.le_refl _))) (by omega) (Nat.le_refl _)
    exact ⟨_, _, _, vs, rfl, HO5.out, HQ5.out, HP5.out, ⟨HA12.out, HA.out.1, HA.out.2.1, HA.out.2.2.1, HA.out.2.2.2⟩, lies_of HO5.out (by omega), lies_of HQ5.out (by omega), lies_of HP5.out.out (by omega), fun j hj => lies_of (HP5.out.inn j hj) (by omega)⟩)
  rw [hs] at FR
  clear F hs d0 d1 d2 j0 j1 j2 k0 k1 k2 l0 l1 l2
  generalize World.setCell (World.setCell (World.setCell _ _ _) _ _) _ _ = Wf at *
  refine bodyPost_ret (v := .agg #[.slice a1 o.pos.length p1, .slice a2 o.st.length p2, .slice a3 o.bk.length p3]) (by simp [results, Try.results12, go_sem, R0, R1, R2]) rfl ⟨_, rfl, FR.out, F3.out⟩
end Go.Proofs.Ytealdpkgfmokpaa.LawO3
