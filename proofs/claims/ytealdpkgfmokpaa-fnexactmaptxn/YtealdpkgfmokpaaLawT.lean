/-
  What is proved: the laws' functions on one transaction: its size counted, copied, compared, marked (contracts for the walks).
-/
import Derived.Test.YtealdpkgfmokpaaRows
import Derived.Test.YtealdpkgfmokpaaLawB
import Derived.Test.YtealdpkgfmokpaaBatB
namespace Go.Proofs.Ytealdpkgfmokpaa.LawT
open Go.ChangeShapes Go.WideShapes Go.ChangeAt Go.RowKit
open Sl (Sl Own Off)
open Dev Orm LawB
set_option linter.unusedVariables false

theorem boxF (u : World) (t : TypeId) (a : Value) : ∃ U, u.alloc (.cells #[a] t) = U ∧ Below u.heap.size u U ∧ U.heap.size = u.heap.size + 1 ∧ U.cell? ⟨u.heap.size, 0, none⟩ = some a ∧ U.frozen? ⟨u.heap.size, 0, none⟩ = false :=
  ⟨_, rfl, (Below.refl _ u).alloc (Nat.le_refl _) _, by simp, by go_simp, by go_simp⟩
set_option maxRecDepth 100000 in
theorem szTxn (w : World) (v : Value) (xs : List Bk) (h : Sl w 3 v xs.length (bc xs)) (L : Nat) (hL : L ≤ 1048576) :
    Calls Try.prog 20 #[.agg #[v], .int .i64 L] w fun e w' => (∃ r : Int, e = .returned (.int .i64 r) ∧ (r = -1 ∨ ∃ R : Nat, r = R ∧ R + xs.length = L)) ∧ Below w.heap.size w w' := by
  obtain ⟨U, e1, hb, hz, c0⟩ := BatB.box1 w 44 v
  obtain ⟨G, eG⟩ : ∃ G, w.heap.size = G := ⟨_, rfl⟩
  have HB := Lib.hid hb
  have H := Lib.hid (h.below hb)
  rw [eG] at c0
  clear hb hz h
  go_enter Try.func20, Try.ntmps20
  go_wp2_with fail
  clear e1 eG
  refine (szOpS U v xs H.out L hL).mono ?_
  rintro e w1 ⟨⟨r, rfl, hr⟩, hu⟩
  have hu2 := hu.symm
  subst hu2
  rcases hr with rfl | ⟨R, rfl, hR⟩
  · go_wp2_with fail
    go_ret
    exact ⟨⟨_, rfl, .inl rfl⟩, HB.out⟩
  have HR := Lib.hid hR
  clear hR
  go_wp2_with fail
  go_ret
  exact ⟨⟨_, rfl, .inr ⟨R, rfl, HR.out⟩⟩, HB.out⟩
set_option maxRecDepth 100000 in
theorem eqTxn (w : World) (u v : Value) (xs : List Bk) (h : Sl w 3 u xs.length (bc xs)) (h' : Sl w 3 v xs.length (bc xs)) :
    Calls Try.prog 27 #[.agg #[u], .agg #[v]] w fun e w' => e = .returned (.bool true) ∧ Below w.heap.size w w' := by
  obtain ⟨U1, e1, hb1, hz1, c0⟩ := BatB.box1 w 55 u
  obtain ⟨U2, e2, hb2, hz2, d0⟩ := BatB.box1 U1 55 v
  have hbb := hb1.trans (hb2.mono hb1.size)
  have c1 := (hb2.cell (World.block_lt_of_cell? _ _ c0)).trans c0
  have HB := Lib.hid hbb
  have H1 := Lib.hid (h.below hbb)
  have H2 := Lib.hid (h'.below hbb)
  obtain ⟨G1, eG1⟩ : ∃ G, w.heap.size = G := ⟨_, rfl⟩
  obtain ⟨G2, eG2⟩ : ∃ G, U1.heap.size = G := ⟨_, rfl⟩
  rw [eG1] at c1
  rw [eG2] at d0
  clear hb1 hb2 hz1 hz2 hbb h h' c0
  go_enter Try.func27, Try.ntmps27
  go_wp2_with fail
  clear e1 e2 eG1 eG2
  refine (eqOpS _ u v xs H1.out H2.out).mono ?_
  rintro e w1 ⟨rfl, hb⟩
  have HB2 := Lib.hid (HB.out.trans (hb.mono HB.out.size))
  clear hb
  go_wp2_with fail
  go_ret
  exact ⟨rfl, HB2.out⟩
set_option maxRecDepth 100000 in
theorem markTxn (w : World) (base : Nat) (v : Value) (n : Nat) (c : Nat → Value) (h : Own w base 3 v n c) (k : Nat) (hk : k + n * 3 ≤ 10000000) :
    Calls Try.prog 29 #[.agg #[v], .int .i64 k] w fun e w' => e = .returned (.int .i64 ((k + n * 3 : Nat) : Int)) ∧ Own w' base 3 v n (LawN.mi k) ∧ Turns [v] w w' := by
  obtain ⟨U, e1, hb, hz, c0⟩ := BatB.box1 w 55 v
  obtain ⟨G, eG⟩ : ∃ G, w.heap.size = G := ⟨_, rfl⟩
  have HB := Lib.hid hb
  have HK := Lib.hid (markOpS U base v n c (h.below hb) k hk)
  rw [eG] at c0
  obtain ⟨M, eM⟩ : ∃ M, k + n * 3 = M := ⟨_, rfl⟩
  rw [eM] at HK ⊢
  clear hb hz h eM
  go_enter Try.func29, Try.ntmps29
  go_wp2_with fail
  clear e1 eG
  refine HK.out.mono ?_
  rintro e w1 ⟨rfl, ho, ht⟩
  have HO := Lib.hid ho
  have HT := Lib.hid ((Turns.of_below (vs := [v]) HB.out).trans ht)
  clear ho ht
  go_wp2_with fail
  go_ret
  exact ⟨rfl, HO.out, HT.out⟩
set_option maxRecDepth 100000 in
set_option maxHeartbeats 1600000 in
theorem toTxn (w : World) (v : Value) (xs : List Bk) (h : Sl w 3 v xs.length (bc xs)) (hn : xs.length ≤ 1048576) :
    Calls Try.prog 23 #[.agg #[v]] w fun e w' => ∃ r, e = .returned (.agg #[r]) ∧ Own w' w.heap.size 3 r xs.length (bc xs) ∧ Below w.heap.size w w' := by
  obtain ⟨U1, e1, hb1, hz1, c0⟩ := BatB.box1 w 44 v
  obtain ⟨U2, e2, hb2, hz2, d0, q0⟩ := boxF U1 55 (.slice none 0 0)
  obtain ⟨U3, e3, hb3, hz3, k0, f2⟩ := boxF U2 55 (.slice none 0 0)
  have hbb := hb1.trans ((hb2.mono hb1.size).trans (hb3.mono (Nat.le_trans hb1.size hb2.size)))
  have c1 := (hb3.cell (World.block_lt_of_cell? _ _ ((hb2.cell (World.block_lt_of_cell? _ _ c0)).trans c0))).trans ((hb2.cell (World.block_lt_of_cell? _ _ c0)).trans c0)
  have d1 := (hb3.cell (World.block_lt_of_cell? _ _ d0)).trans d0
  have f1 : U3.frozen? ⟨U1.heap.size, 0, none⟩ = false := (World.frozen?_of_block (w := U2) (hb3.block U1.heap.size (by omega))).trans q0
  have HB := Lib.hid hbb
  have H1 := Lib.hid (h.below hbb)
  obtain ⟨G1, eG1⟩ : ∃ G, w.heap.size = G := ⟨_, rfl⟩
  obtain ⟨G2, eG2⟩ : ∃ G, U1.heap.size = G := ⟨_, rfl⟩
  obtain ⟨G3, eG3⟩ : ∃ G, U2.heap.size = G := ⟨_, rfl⟩
  have HOM := Lib.hid (show w.heap.size = G1 ∧ G1 < G2 ∧ G2 < G3 ∧ G3 < U3.heap.size by omega)
  rw [eG1] at c1
  rw [eG2] at d1 f1
  rw [eG3] at k0 f2
  clear hb1 hb2 hb3 hz1 hz2 hz3 hbb h c0 d0 q0
  go_enter Try.func23, Try.ntmps23
  go_wp2_with fail
  clear e1 e2 e3 eG1 eG2 eG3
  refine (toOpS U3 v xs H1.out hn).mono ?_
  rintro e w1 ⟨r, rfl, ho, hb⟩
  obtain ⟨a1, p1, rfl, _, _⟩ := ho.sl.form
  have D1 := (hb.cell (World.block_lt_of_cell? _ _ d1)).trans d1
  have K1 := (hb.cell (World.block_lt_of_cell? _ _ k0)).trans k0
  have F1 : w1.frozen? ⟨G2, 0, none⟩ = false := (World.frozen?_of_block (w := U3) (hb.block G2 (by have := HOM.out; omega))).trans f1
  have F2 : w1.frozen? ⟨G3, 0, none⟩ = false := (World.frozen?_of_block (w := U3) (hb.block G3 (by have := HOM.out; omega))).trans f2
  have HO := Lib.hid ho
  have HB2 := Lib.hid (HB.out.trans (hb.mono HB.out.size))
  have ne1 : ¬ G2 = G3 := by have := HOM.out; omega
  have ne2 : ¬ G3 = G2 := by have := HOM.out; omega
  have HFO := Lib.hid (own_set_off (own_set_off HO.out (own_low HO.out G3 (by have := HOM.out; omega)) 0 (.slice a1 xs.length p1)) (own_low HO.out G2 (by have := HOM.out; omega)) 0 (.slice a1 xs.length p1))
  have HFB := Lib.hid ((HB2.out.setCell (p := ⟨G3, 0, none⟩) (by have := HOM.out; show w.heap.size ≤ G3; omega) (.slice a1 xs.length p1)).setCell (p := ⟨G2, 0, none⟩) (by have := HOM.out; show w.heap.size ≤ G2; omega) (.slice a1 xs.length p1))
  have R0 : ((w1.setCell ⟨G3, 0, none⟩ (.slice a1 xs.length p1)).setCell ⟨G2, 0, none⟩ (.slice a1 xs.length p1)).cell? ⟨G2, 0, none⟩ = some (.slice a1 xs.length p1) := World.cell?_setCell_same _ _ _ (by rw [World.cell?_setCell_other _ _ _ _ (by first | (simp; done) | (simp; omega))]; exact D1)
  clear ho hb d1 k0 c1 f1 f2
  go_wp2_with fail
  refine bodyPost_ret (v := .agg #[.slice a1 xs.length p1]) (by simp [results, Try.results23, go_sem, R0]) rfl ⟨_, rfl, HFO.out.base (by have := HB.out.size; omega), HFB.out⟩
end Go.Proofs.Ytealdpkgfmokpaa.LawT
