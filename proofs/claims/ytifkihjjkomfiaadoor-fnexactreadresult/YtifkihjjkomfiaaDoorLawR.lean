/-
  What is proved: results (a code and numbers): how one that comes in is read, and the laws' functions on them: their size counted, copied, compared (contracts for the walks).
-/
import Derived.Test.YtifkihjjkomfiaaDoorRows
import Derived.Test.YtifkihjjkomfiaaDoorBox2
import Derived.Test.YtifkihjjkomfiaaDoorLawN
namespace Go.Proofs.YtifkihjjkomfiaaDoor.LawR
open Go.ChangeShapes Go.WideShapes Go.ChangeAt Go.RowKit Go.Joins Go.Deep
open Sl (Sl Own Off)
open OpenSl (tc nc pc)
open Dev Orm Box2
open LawN (mi)
set_option linter.unusedVariables false

/-- A result: its code, its values. -/
def Rr (w : World) (v : Value) (c : Int) (vs : List Int) : Prop := ∃ s, v = .agg #[.int .i64 c, s] ∧ Sl w 1 s vs.length (nc vs)
theorem Rr.below {w w' : World} {v : Value} {c : Int} {vs : List Int} (h : Rr w v c vs) (hb : Below w.heap.size w w') : Rr w' v c vs := by
  obtain ⟨s, rfl, h1⟩ := h
  exact ⟨s, rfl, h1.below hb⟩
theorem Rr.form {w : World} {v : Value} {c : Int} {vs : List Int} (h : Rr w v c vs) : ∃ a cap, v = .agg #[.int .i64 c, .slice a vs.length cap] := by
  obtain ⟨s, rfl, h1⟩ := h
  obtain ⟨a, cap, rfl, _, _⟩ := h1.form
  exact ⟨a, cap, rfl⟩
theorem cellsR : Tryd.prog.cellsOf 24 = 2 := by kernel_rfl
theorem cellsN : Tryd.prog.cellsOf 3 = 1 := by kernel_rfl
theorem cellsI : Tryd.prog.cellsOf 22 = 1 := by kernel_rfl
theorem array2 {cs : Array Value} (h : cs.size = 2) : ∃ c0 c1, cs = #[c0, c1] := by
  rcases cs with ⟨l⟩
  match l, h with
  | [c0, c1], _ => exact ⟨c0, c1, rfl⟩
set_option maxRecDepth 100000 in
/-- A result by value that comes in. -/
theorem open_result {H : Type} {enc : TypeId × Value → H} {W : World} {base b0 : Nat} {spare : Nat → Bool} {held : Bool} {v : Value} {d : DataW H} {p : List MemPlace}
    (o : Value.okWide Tryd.prog W .any b0 24 v) (h : DataW.Trod enc Tryd.prog W base spare held 24 v d p) : ∃ c vs, Rr W v c vs := by
  obtain ⟨cs, rfl, hsz⟩ := okWide_struct Tryd.underlying24 o
  obtain ⟨c0, c1, rfl⟩ := array2 (hsz.trans cellsR)
  obtain ⟨fuel, hf⟩ := h
  obtain ⟨y0, y1, m, _, _, h0, h1⟩ := trod_struct2 Tryd.underlying24 hf
  simp only [Value.cells, cellsN, cellsI, List.drop_zero, List.drop_succ_cons, List.take_succ_cons, List.take_zero] at h0 h1
  obtain ⟨z0, e0, _, _⟩ := DataW.trod_int Tryd.underlying3 h0
  obtain rfl : c0 = .int .i64 z0 := by simpa using e0
  obtain ⟨zs, k1, _⟩ := OpenSl.numbers Tryd.underlying22 Tryd.underlying3 cellsN h1
  exact ⟨z0, zs, c1, rfl, k1⟩
theorem szIntS (w : World) (v : Value) (zs : List Int) (h : Sl w 1 v zs.length (nc zs)) (L : Nat) (hL : L ≤ 1048576) :
    Calls Tryd.prog 14 #[v, .int .i64 L] w fun e w' => (∃ r : Int, e = .returned (.int .i64 r) ∧ (r = -1 ∨ ∃ R : Nat, r = R ∧ R + zs.length = L)) ∧ w' = w := by
  obtain ⟨a, cap, rfl, h1, h2, h3⟩ := h
  clear h3
  unfold maxLen at h2
  by_cases hlt : L < zs.length
  · go_enter Tryd.func14, Tryd.ntmps14
    go_wp2
    go_ret
    exact ⟨⟨_, rfl, .inl rfl⟩, rfl⟩
  · obtain ⟨R, eR⟩ : ∃ R, L - zs.length = R := ⟨_, rfl⟩
    have hR : R + zs.length = L := by omega
    have e1 : (L : Int) - (zs.length : Int) = (R : Int) := by omega
    have HR := Lib.hid hR
    go_enter Tryd.func14, Tryd.ntmps14
    go_wp2
    go_ret
    exact ⟨⟨_, rfl, .inr ⟨R, rfl, HR.out⟩⟩, rfl⟩
set_option maxRecDepth 100000 in
theorem szResult (w : World) (v : Value) (c : Int) (vs : List Int) (h : Rr w v c vs) (L : Nat) (hL : L ≤ 1048576) :
    Calls Tryd.prog 5 #[v, .int .i64 L] w fun e w' => (∃ r : Int, e = .returned (.int .i64 r) ∧ (r = -1 ∨ ∃ R : Nat, r = R ∧ R + vs.length = L)) ∧ Below w.heap.size w w' := by
  obtain ⟨s, rfl, h1⟩ := h
  obtain ⟨U, e1, hb, hz, X⟩ := box2 w 24 (.int .i64 c) s
  obtain ⟨G, eG⟩ : ∃ G, w.heap.size = G := ⟨_, rfl⟩
  have HB := Lib.hid hb
  have H1 := Lib.hid (h1.below hb)
  rw [eG] at X
  obtain ⟨c0, c1, _, _⟩ := X
  clear hb hz h1
  go_enter Tryd.func5, Tryd.ntmps5
  go_wp2_with fail
  clear e1 eG
  refine (szIntS _ s vs H1.out L hL).mono ?_
  rintro e w1 ⟨⟨r, rfl, hr⟩, rfl⟩
  rcases hr with rfl | ⟨R, rfl, hR⟩
  · go_wp2_with fail
    go_ret
    exact ⟨⟨_, rfl, .inl rfl⟩, HB.out⟩
  have HR := Lib.hid hR
  clear hR
  go_wp2_with fail
  go_ret
  exact ⟨⟨_, rfl, .inr ⟨R, rfl, HR.out⟩⟩, HB.out⟩
set_option maxRecDepth 100000 in
set_option maxHeartbeats 1600000 in
theorem toResult (w : World) (v : Value) (c : Int) (vs : List Int) (h : Rr w v c vs) (hn : vs.length ≤ 1048576) :
    Calls Tryd.prog 7 #[v] w fun e w' => ∃ s, e = .returned (.agg #[.int .i64 c, s]) ∧ Own w' w.heap.size 1 s vs.length (nc vs) ∧ Below w.heap.size w w' := by
  obtain ⟨p, rfl, h1⟩ := h
  obtain ⟨U1, e1, hb1, hz1, B1⟩ := box2 w 24 (.int .i64 c) p
  obtain ⟨U2, e2, hb2, hz2, B2⟩ := box2 U1 28 (.int .i64 0) (.slice none 0 0)
  obtain ⟨U3, e3, hb3, hz3, B3⟩ := box2 U2 28 (.int .i64 0) (.slice none 0 0)
  have hbb := hb1.trans ((hb2.mono hb1.size).trans (hb3.mono (by omega)))
  have HB := Lib.hid hbb
  have H1 := Lib.hid h1
  have X1 := (B1.below hb2).below hb3
  have X2 := B2.below hb3
  have X3 := B3
  obtain ⟨G1, eG1⟩ : ∃ G1, w.heap.size = G1 := ⟨_, rfl⟩
  obtain ⟨G2, eG2⟩ : ∃ G2, U1.heap.size = G2 := ⟨_, rfl⟩
  obtain ⟨G3, eG3⟩ : ∃ G3, U2.heap.size = G3 := ⟨_, rfl⟩
  have om : G1 < G2 ∧ G2 < G3 ∧ w.heap.size ≤ G3 ∧ G3 < U3.heap.size ∧ w.heap.size ≤ G2 := by omega
  rw [eG1] at X1
  rw [eG2] at X2
  rw [eG3] at X3
  have HX1 := Lib.hid X1
  have HX2 := Lib.hid X2
  have HX3 := Lib.hid X3
  have HOM := Lib.hid om
  obtain ⟨c0, c1, f0, f1⟩ := X1
  obtain ⟨d0, d1, j0, j1⟩ := X2
  obtain ⟨k0, k1, l0, l1⟩ := X3
  clear hb1 hb2 hb3 hz1 hz2 hz3 B1 B2 B3 h1 hbb
  have hne : G1 ≠ G3 := by omega
  go_enter Tryd.func7, Tryd.ntmps7
  go_wp2_with fail
  clear c0 c1 f0 f1 d0 d1 j0 j1 k0 k1 l0 l1 e1 e2 e3 eG1 eG2 eG3 om hne
  generalize ew : World.setCell U3 _ _ = W1
  have HB1 := Lib.hid (show Below w.heap.size w W1 from by rw [← ew]; exact HB.out.setCell (p := ⟨G3, 0, none⟩) HOM.out.2.2.1 _)
  have K1 : Bx W1 G1 (.int .i64 c) p := by rw [← ew]; exact HX1.out.other (by have := HOM.out; omega) _ _
  have K2 : Bx W1 G2 (.int .i64 0) (.slice none 0 0) := by rw [← ew]; exact HX2.out.other (by have := HOM.out; omega) _ _
  have K3 : Bx W1 G3 (.int .i64 c) (.slice none 0 0) := by rw [← ew]; exact HX3.out.set0 _
  have HS := Lib.hid (show G3 < W1.heap.size by rw [← ew]; simpa using HOM.out.2.2.2.1)
  refine (LawN.toIntS W1 p vs (H1.out.below HB1.out) hn).mono ?_
  rintro e w1 ⟨r1, rfl, ho, hb⟩
  obtain ⟨a1, p1, rfl, _, _⟩ := ho.sl.form
  have HK1 := Lib.hid (K1.below hb)
  have HK2 := Lib.hid (K2.below hb)
  have HK3 := Lib.hid (K3.below hb)
  have HO := Lib.hid ho
  have HB2 := Lib.hid (HB1.out.trans (hb.mono HB1.out.size))
  obtain ⟨k0, k1, l0, l1⟩ := HK3.out
  obtain ⟨d0, d1, j0, j1⟩ := HK2.out
  have ne1 : ¬ G3 = G2 := by have := HOM.out; omega
  have ne2 : ¬ G2 = G3 := by have := HOM.out; omega
  clear ho hb K1 K2 K3 ew
  go_wp2_with fail
  obtain ⟨R0, R1, _, _⟩ := ((HK2.out.other ne2 1 (.slice a1 vs.length p1)).set0 (.int .i64 c)).set1 (.slice a1 vs.length p1)
  have om := HOM.out
  have FB := Lib.hid (((HB2.out.setCell (p := ⟨G3, 1, none⟩) om.2.2.1 (.slice a1 vs.length p1)).setCell (p := ⟨G2, 0, none⟩) om.2.2.2.2 (.int .i64 c)).setCell (p := ⟨G2, 1, none⟩) om.2.2.2.2 (.slice a1 vs.length p1))
  have FO := Lib.hid (own_set_off (own_set_off (own_set_off HO.out (own_low HO.out G3 HS.out) 1 (.slice a1 vs.length p1)) (own_low HO.out G2 (by have := HS.out; omega)) 0 (.int .i64 c)) (own_low HO.out G2 (by have := HS.out; omega)) 1 (.slice a1 vs.length p1))
  have FO2 := Lib.hid (FO.out.base HB1.out.size)
  clear d0 d1 j0 j1 k0 k1 l0 l1 om
  generalize World.setCell (World.setCell (World.setCell _ _ _) _ _) _ _ = Wf at *
  refine bodyPost_ret (v := .agg #[.int .i64 c, .slice a1 vs.length p1]) (by simp [results, Tryd.results7, go_sem, R0, R1]) rfl ⟨_, rfl, FO2.out, FB.out⟩
set_option maxRecDepth 100000 in
set_option maxHeartbeats 1600000 in
theorem eqResult (w : World) (u v : Value) (c : Int) (vs : List Int) (h : Rr w u c vs) (h' : Rr w v c vs) :
    Calls Tryd.prog 9 #[u, v] w fun e w' => e = .returned (.bool true) ∧ Below w.heap.size w w' := by
  obtain ⟨s, rfl, h1⟩ := h
  obtain ⟨s', rfl, h1'⟩ := h'
  obtain ⟨U1, e1, hb1, hz1, B1⟩ := box2 w 28 (.int .i64 c) s
  obtain ⟨U2, e2, hb2, hz2, B2⟩ := box2 U1 28 (.int .i64 c) s'
  have hbb := hb1.trans (hb2.mono hb1.size)
  have HB := Lib.hid hbb
  have H1 := Lib.hid (h1.below hbb)
  have H2 := Lib.hid (h1'.below hbb)
  have X1 := B1.below hb2
  obtain ⟨G1, eG1⟩ : ∃ G1, w.heap.size = G1 := ⟨_, rfl⟩
  obtain ⟨G2, eG2⟩ : ∃ G2, U1.heap.size = G2 := ⟨_, rfl⟩
  rw [eG1] at X1
  rw [eG2] at B2
  obtain ⟨c0, c1, _, _⟩ := X1
  obtain ⟨d0, d1, _, _⟩ := B2
  have b1 : (c != c) = false := by simp
  clear hb1 hb2 hz1 hz2 hbb h1 h1' B1
  go_enter Tryd.func9, Tryd.ntmps9
  go_wp2_with fail
  clear e1 e2 eG1 eG2
  refine (LawN.eqIntS _ s s' vs H1.out H2.out).mono ?_
  rintro e w1 ⟨rfl, hb⟩
  have HB2 := Lib.hid (HB.out.trans (hb.mono HB.out.size))
  clear hb
  go_wp2_with fail
  go_ret
  exact ⟨rfl, HB2.out⟩
end Go.Proofs.YtifkihjjkomfiaaDoor.LawR
