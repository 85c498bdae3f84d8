/-
  What is proved: both ReadOp answer what the text's words say; the exact law on ReadOp returns true (the walk), where the package's words, the library's table of tens and the library's two errors stand in their places.
-/
import Derived.Test.YtidbkamadclchaaDoorRows
import Derived.Test.YtidbkamadclchaaDoorToOpM
import Derived.Test.YtidbkamadclchaaDoorLawB
namespace Go.Proofs.YtidbkamadclchaaDoor.ReadL
open Go.ChangeShapes Go.WideShapes Go.ChangeAt Go.RowKit
open Sl (Sl Own Off)
open OpenSl (tc)
open Dev Orm Box3 OpB BatB Txt TxtB TxtR Dig TextM TextJ ReadI ToOpM
set_option linter.unusedVariables false

/-- What is answered. -/
def RB (s : ByteArray) (x : Bk) (c : Int) : Prop := (65536 < s.size ∧ x = (0, 0, 0) ∧ c = 2) ∨ (¬ 65536 < s.size ∧ ((c = 0 ∧ Rt (wds s.data.toList) x) ∨ (c = 3 ∧ x = (0, 0, 0) ∧ ∀ y, ¬ Rt (wds s.data.toList) y)))
theorem rb_same {s : ByteArray} {x y : Bk} {c d : Int} (h : RB s x c) (k : RB s y d) : x = y ∧ c = d := by
  rcases h with ⟨h1, rfl, rfl⟩ | ⟨h1, h⟩
  · rcases k with ⟨_, rfl, rfl⟩ | ⟨k1, _⟩
    · exact ⟨rfl, rfl⟩
    · exact absurd h1 k1
  · rcases k with ⟨k1, _⟩ | ⟨_, k⟩
    · exact absurd k1 h1
    · rcases h with ⟨rfl, h⟩ | ⟨rfl, rfl, h⟩
      · rcases k with ⟨rfl, k⟩ | ⟨rfl, rfl, k⟩
        · exact ⟨parts_inj h.1 k.1 (h.2.symm.trans k.2), rfl⟩
        · exact absurd h (k x)
      · rcases k with ⟨rfl, k⟩ | ⟨rfl, rfl, k⟩
        · exact absurd k (h y)
        · exact ⟨rfl, rfl⟩
def RPost (s : ByteArray) (e : Ending) : Prop := ∃ (x : Bk) (c : Int), e = .returned (.tuple #[bv x, .int .i64 c]) ∧ Hid (RB s x c)
set_option maxRecDepth 100000 in
set_option maxHeartbeats 1600000 in
theorem implRead (w : World) (hT : Tr w) (s : ByteArray) : Calls Tryd.prog 11 #[.string s] w fun e w' => RPost s e ∧ Below w.heap.size w w' := by
  obtain ⟨U, e1, hb, hz, X⟩ := box3 w 26 (.int .i64 0) (.int .i64 0) (.int .i64 0)
  obtain ⟨G1, eG⟩ : ∃ G, w.heap.size = G := ⟨_, rfl⟩
  have HB0 := Lib.hid hb
  have HG1 := Lib.hid (show w.heap.size ≤ G1 by omega)
  have HGU := Lib.hid (show G1 < U.heap.size by omega)
  have HTU := Lib.hid (hT.below hb)
  rw [eG] at X
  have HX0 := Lib.hid X
  clear hb hz X hT
  by_cases hl : 65536 < s.size
  · have g1 : (65536 : Int) < (s.size : Int) := by omega
    have HR := Lib.hid (show RB s (0, 0, 0) 2 from .inl ⟨hl, rfl, rfl⟩)
    clear hl
    obtain ⟨F, eF, HXF, _, hbF, _⟩ := put3 HX0.out (.int .i64 0) (.int .i64 0) (.int .i64 0)
    have HBF := Lib.hid (HB0.out.trans (hbF w.heap.size HG1.out))
    obtain ⟨d0, d1, d2, j0, j1, j2⟩ := HX0.out
    obtain ⟨R0, R1, R2, _, _, _⟩ := HXF
    clear hbF
    go_enter Tryd.func11, Tryd.ntmps11
    go_wp2
    refine bodyPost_ret (v := .tuple #[.agg #[.int .i64 0, .int .i64 0, .int .i64 0], .int .i64 2]) (by simp [results, Tryd.results11, go_sem, R0, R1, R2]) rfl ⟨⟨(0, 0, 0), 2, rfl, HR⟩, HBF.out⟩
  have g1 : ¬ (65536 : Int) < (s.size : Int) := by omega
  have HC := Lib.hid (fun u (hu : Tr u) => readOp u hu s (by omega))
  have HL := Lib.hid hl
  clear hl
  go_enter Tryd.func11, Tryd.ntmps11
  go_wp2_with fail
  refine (HC.out _ HTU.out).mono ?_
  rintro e w1 ⟨⟨k, y, v⟩, q, he, hA, hb⟩
  have e0 : e = .returned (.tuple #[.agg #[.int .i64 k, .int .i64 y, .int .i64 v], .bool q]) := he
  subst e0
  have HA := Lib.hid hA
  have HX1a := Lib.hid (HX0.out.below hb)
  have HB1 := Lib.hid (HB0.out.trans (hb.mono HB0.out.size))
  have HGW := Lib.hid (show U.heap.size ≤ w1.heap.size from hb.size)
  clear hb e1 eG he HC hA HTU
  obtain ⟨V, e2, hb2, hz2, X2⟩ := box3 w1 26 (.int .i64 0) (.int .i64 0) (.int .i64 0)
  obtain ⟨G2, eG2⟩ : ∃ G, w1.heap.size = G := ⟨_, rfl⟩
  have HG2 := Lib.hid (show G1 < G2 ∧ w.heap.size ≤ G2 by have := HGU.out; have := HGW.out; have := HG1.out; omega)
  rw [eG2] at X2
  have HX1V := Lib.hid (HX1a.out.below hb2)
  have HBV := Lib.hid (HB1.out.trans (hb2.mono HB1.out.size))
  obtain ⟨W2, eW2, hxW, _, hbW, hoW⟩ := put3 X2 (.int .i64 k) (.int .i64 y) (.int .i64 v)
  have HX2W := Lib.hid hxW
  have HX1W := Lib.hid (hoW G1 _ _ _ (by have := HG2.out; omega) HX1V.out)
  have HBW := Lib.hid (HBV.out.trans (hbW w.heap.size HG2.out.2))
  obtain ⟨c0, c1, c2, f0, f1, f2⟩ := X2
  clear hb2 hz2 hxW hbW hoW
  go_upto_region 4 with (fail)
  clear c0 c1 c2 f0 f1 f2 e2 eG2 eW2
  obtain ⟨c0, c1, c2, f0, f1, f2⟩ := HX2W.out
  cases q with
  | false =>
    have HR := Lib.hid (show RB s (0, 0, 0) 3 from .inr ⟨HL.out, .inr ⟨rfl, rfl, fun z hz => by have := HA.out.2 z hz; cases this⟩⟩)
    obtain ⟨F, eF, HXF, _, hbF, _⟩ := put3 HX1W.out (.int .i64 0) (.int .i64 0) (.int .i64 0)
    have HBF := Lib.hid (HBW.out.trans (hbF w.heap.size HG1.out))
    obtain ⟨d0, d1, d2, j0, j1, j2⟩ := HX1W.out
    obtain ⟨R0, R1, R2, _, _, _⟩ := HXF
    clear hbF
    go_wp2
    refine bodyPost_ret (v := .tuple #[.agg #[.int .i64 0, .int .i64 0, .int .i64 0], .int .i64 3]) (by simp [results, Tryd.results11, go_sem, R0, R1, R2]) rfl ⟨⟨(0, 0, 0), 3, rfl, HR⟩, HBF.out⟩
  | true =>
    have HR := Lib.hid (show RB s (k, y, v) 0 from .inr ⟨HL.out, .inl ⟨rfl, HA.out.1 rfl⟩⟩)
    obtain ⟨F, eF, HXF, _, hbF, _⟩ := put3 HX1W.out (.int .i64 k) (.int .i64 y) (.int .i64 v)
    have HBF := Lib.hid (HBW.out.trans (hbF w.heap.size HG1.out))
    obtain ⟨d0, d1, d2, j0, j1, j2⟩ := HX1W.out
    obtain ⟨R0, R1, R2, _, _, _⟩ := HXF
    clear hbF
    go_wp2
    refine bodyPost_ret (v := .tuple #[.agg #[.int .i64 k, .int .i64 y, .int .i64 v], .int .i64 0]) (by simp [results, Tryd.results11, go_sem, R0, R1, R2]) rfl ⟨⟨(k, y, v), 0, rfl, HR⟩, HBF.out⟩
set_option maxRecDepth 100000 in
set_option maxHeartbeats 1600000 in
theorem specRead (w : World) (s : ByteArray) : Calls Tryd.prog 10 #[.string s] w fun e w' => RPost s e ∧ Below w.heap.size w w' := by
  obtain ⟨U, e1, hb, hz, X⟩ := box3 w 26 (.int .i64 0) (.int .i64 0) (.int .i64 0)
  obtain ⟨G1, eG⟩ : ∃ G, w.heap.size = G := ⟨_, rfl⟩
  have HB0 := Lib.hid hb
  have HG1 := Lib.hid (show w.heap.size ≤ G1 by omega)
  have HGU := Lib.hid (show G1 < U.heap.size by omega)

  rw [eG] at X
  have HX0 := Lib.hid X
  clear hb hz X
  by_cases hl : 65536 < s.size
  · have g1 : (65536 : Int) < (s.size : Int) := by omega
    have HR := Lib.hid (show RB s (0, 0, 0) 2 from .inl ⟨hl, rfl, rfl⟩)
    clear hl
    obtain ⟨F, eF, HXF, _, hbF, _⟩ := put3 HX0.out (.int .i64 0) (.int .i64 0) (.int .i64 0)
    have HBF := Lib.hid (HB0.out.trans (hbF w.heap.size HG1.out))
    obtain ⟨d0, d1, d2, j0, j1, j2⟩ := HX0.out
    obtain ⟨R0, R1, R2, _, _, _⟩ := HXF
    clear hbF
    go_enter Tryd.func10, Tryd.ntmps10
    go_wp2
    refine bodyPost_ret (v := .tuple #[.agg #[.int .i64 0, .int .i64 0, .int .i64 0], .int .i64 2]) (by simp [results, Tryd.results10, go_sem, R0, R1, R2]) rfl ⟨⟨(0, 0, 0), 2, rfl, HR⟩, HBF.out⟩
  have g1 : ¬ (65536 : Int) < (s.size : Int) := by omega
  have HC := Lib.hid (fun u => l09ToOp u s (by omega))
  have HL := Lib.hid hl
  clear hl
  go_enter Tryd.func10, Tryd.ntmps10
  go_wp2_with fail
  refine (HC.out _).mono ?_
  rintro e w1 ⟨⟨⟨k, y, v⟩, q, he, HA⟩, hb⟩
  have e0 : e = .returned (.tuple #[.agg #[.int .i64 k, .int .i64 y, .int .i64 v], .bool q]) := he
  subst e0

  have HX1a := Lib.hid (HX0.out.below hb)
  have HB1 := Lib.hid (HB0.out.trans (hb.mono HB0.out.size))
  have HGW := Lib.hid (show U.heap.size ≤ w1.heap.size from hb.size)
  clear hb e1 eG he HC
  obtain ⟨V, e2, hb2, hz2, X2⟩ := box3 w1 26 (.int .i64 0) (.int .i64 0) (.int .i64 0)
  obtain ⟨G2, eG2⟩ : ∃ G, w1.heap.size = G := ⟨_, rfl⟩
  have HG2 := Lib.hid (show G1 < G2 ∧ w.heap.size ≤ G2 by have := HGU.out; have := HGW.out; have := HG1.out; omega)
  rw [eG2] at X2
  have HX1V := Lib.hid (HX1a.out.below hb2)
  have HBV := Lib.hid (HB1.out.trans (hb2.mono HB1.out.size))
  obtain ⟨W2, eW2, hxW, _, hbW, hoW⟩ := put3 X2 (.int .i64 k) (.int .i64 y) (.int .i64 v)
  have HX2W := Lib.hid hxW
  have HX1W := Lib.hid (hoW G1 _ _ _ (by have := HG2.out; omega) HX1V.out)
  have HBW := Lib.hid (HBV.out.trans (hbW w.heap.size HG2.out.2))
  obtain ⟨c0, c1, c2, f0, f1, f2⟩ := X2
  clear hb2 hz2 hxW hbW hoW
  go_upto_region 4 with (fail)
  clear c0 c1 c2 f0 f1 f2 e2 eG2 eW2
  obtain ⟨c0, c1, c2, f0, f1, f2⟩ := HX2W.out
  cases q with
  | false =>
    have HR := Lib.hid (show RB s (0, 0, 0) 3 from .inr ⟨HL.out, .inr ⟨rfl, rfl, fun z hz => by have := HA.out.2 z hz; cases this⟩⟩)
    obtain ⟨F, eF, HXF, _, hbF, _⟩ := put3 HX1W.out (.int .i64 0) (.int .i64 0) (.int .i64 0)
    have HBF := Lib.hid (HBW.out.trans (hbF w.heap.size HG1.out))
    obtain ⟨d0, d1, d2, j0, j1, j2⟩ := HX1W.out
    obtain ⟨R0, R1, R2, _, _, _⟩ := HXF
    clear hbF
    go_wp2
    refine bodyPost_ret (v := .tuple #[.agg #[.int .i64 0, .int .i64 0, .int .i64 0], .int .i64 3]) (by simp [results, Tryd.results10, go_sem, R0, R1, R2]) rfl ⟨⟨(0, 0, 0), 3, rfl, HR⟩, HBF.out⟩
  | true =>
    have HR := Lib.hid (show RB s (k, y, v) 0 from .inr ⟨HL.out, .inl ⟨rfl, HA.out.1 rfl⟩⟩)
    obtain ⟨F, eF, HXF, _, hbF, _⟩ := put3 HX1W.out (.int .i64 k) (.int .i64 y) (.int .i64 v)
    have HBF := Lib.hid (HBW.out.trans (hbF w.heap.size HG1.out))
    obtain ⟨d0, d1, d2, j0, j1, j2⟩ := HX1W.out
    obtain ⟨R0, R1, R2, _, _, _⟩ := HXF
    clear hbF
    go_wp2
    refine bodyPost_ret (v := .tuple #[.agg #[.int .i64 k, .int .i64 y, .int .i64 v], .int .i64 0]) (by simp [results, Tryd.results10, go_sem, R0, R1, R2]) rfl ⟨⟨(k, y, v), 0, rfl, HR⟩, HBF.out⟩

set_option maxRecDepth 100000 in
set_option maxHeartbeats 1600000 in
theorem walk (w : World) (hT : Tr w) (s : ByteArray) : Calls Tryd.prog 4 #[.string s] w fun e w' => e = .returned (.bool true) ∧ Below w.heap.size w w' := by
  by_cases hl : 1048576 < s.size
  · have g1 : (1048576 : Int) < (s.size : Int) := by omega
    clear hl
    go_enter Tryd.func4, Tryd.ntmps4
    go_wp2
    go_ret
    exact ⟨rfl, Below.refl _ _⟩
  have g1 : ¬ (1048576 : Int) < (s.size : Int) := by omega
  have HTW := Lib.hid hT
  clear hl hT
  go_enter Tryd.func4, Tryd.ntmps4
  go_wp2_with fail
  refine (specRead _ s).mono ?_
  rintro e w1 ⟨⟨⟨k, y, v⟩, c, he, HR⟩, hb⟩
  have e0 : e = .returned (.tuple #[.agg #[.int .i64 k, .int .i64 y, .int .i64 v], .int .i64 c]) := he
  subst e0
  have HB1 := Lib.hid hb
  clear hb he
  obtain ⟨V, e2, hb2, hz2, X2⟩ := box3 w1 26 (.int .i64 0) (.int .i64 0) (.int .i64 0)
  obtain ⟨G1, eG1⟩ : ∃ G, w1.heap.size = G := ⟨_, rfl⟩
  have HG1 := Lib.hid (show w.heap.size ≤ G1 by have := HB1.out.size; omega)
  have HG1V := Lib.hid (show G1 < V.heap.size by omega)
  rw [eG1] at X2
  obtain ⟨W2, eW2, hxW, _, hbW, hoW⟩ := put3 X2 (.int .i64 k) (.int .i64 y) (.int .i64 v)
  have HX1 := Lib.hid hxW
  have HB2 := Lib.hid ((HB1.out.trans (hb2.mono HB1.out.size)).trans (hbW w.heap.size HG1.out))
  have HT2 := Lib.hid (HTW.out.below HB2.out)
  obtain ⟨c0, c1, c2, f0, f1, f2⟩ := X2
  clear hb2 hz2 hxW hbW hoW
  go_wp2_with fail
  clear c0 c1 c2 f0 f1 f2 e2 eG1 eW2
  refine (implRead _ HT2.out s).mono ?_
  rintro e w3 ⟨⟨⟨k', y', v'⟩, c', he, HR'⟩, hb⟩
  have hsame := rb_same HR'.out HR.out
  obtain ⟨hx, rfl⟩ := hsame
  obtain ⟨rfl, rfl, rfl⟩ : k' = k ∧ y' = y ∧ v' = v := by simpa using hx
  have e0 : e = .returned (.tuple #[.agg #[.int .i64 k', .int .i64 y', .int .i64 v'], .int .i64 c']) := he
  subst e0
  have HX3 := Lib.hid (HX1.out.below hb)
  have HB3 := Lib.hid (HB2.out.trans (hb.mono HB2.out.size))
  clear hb he hx
  obtain ⟨V4, e4, hb4, hz4, X4⟩ := box3 w3 26 (.int .i64 0) (.int .i64 0) (.int .i64 0)
  obtain ⟨G2, eG2⟩ : ∃ G, w3.heap.size = G := ⟨_, rfl⟩
  have HG2 := Lib.hid (show w.heap.size ≤ G2 by have := HB3.out.size; omega)
  have hne : G1 ≠ G2 := by have := HX3.out.lt; omega
  rw [eG2] at X4
  obtain ⟨W5, eW5, hxW, _, hbW, hoW⟩ := put3 X4 (.int .i64 k') (.int .i64 y') (.int .i64 v')
  have HX5 := Lib.hid hxW
  have HX15 := Lib.hid (hoW G1 _ _ _ hne (HX3.out.below hb4))
  have HB5 := Lib.hid ((HB3.out.trans (hb4.mono HB3.out.size)).trans (hbW w.heap.size HG2.out))
  obtain ⟨c0, c1, c2, f0, f1, f2⟩ := X4
  clear hb4 hz4 hxW hbW hoW hne
  go_upto_region 5 with (fail)
  clear c0 c1 c2 f0 f1 f2 e4 eG2 eW5
  obtain ⟨c0, c1, c2, f0, f1, f2⟩ := HX5.out
  obtain ⟨d0, d1, d2, j0, j1, j2⟩ := HX15.out
  go_wp2_with fail
  refine (LawB.eqOp k' y' v' _).mono ?_
  rintro e w6 ⟨rfl, hb⟩
  have HB6 := Lib.hid (HB5.out.trans (hb.mono HB5.out.size))
  clear hb c0 c1 c2 f0 f1 f2 d0 d1 d2 j0 j1 j2
  go_wp2_with fail
  go_ret
  exact ⟨rfl, HB6.out⟩
end Go.Proofs.YtidbkamadclchaaDoor.ReadL
