/-
  What is proved: the program's ReadResult answers what the text's words say; the exact law on ReadResult returns true (the walk), where the package's words, the library's table of tens and the library's two errors stand in their places.
-/
import Derived.Test.YtifkihjjkomfiaaDoorRows
import Derived.Test.YtifkihjjkomfiaaDoorReadRi
import Derived.Test.YtifkihjjkomfiaaDoorReadSw
import Derived.Test.YtifkihjjkomfiaaDoorLawR
import Derived.Test.YtifkihjjkomfiaaDoorHeldN
namespace Go.Proofs.YtifkihjjkomfiaaDoor.ReadRx
open Go.ChangeShapes Go.WideShapes Go.ChangeAt Go.RowKit
open Sl (Sl Own Off)
open OpenSl (nc tc)
open Dev Box2 LawR ReadP ReadS ReadRi
set_option linter.unusedVariables false

/-- Values that are the call's own, behind the storing of a result in a box of the call. -/
theorem own_put {w : World} {base n G : Nat} {v a b : Value} {c : Nat → Value} (h : Own w base 1 v n c) (hG : G < base) : Own ((w.setCell ⟨G, 0, none⟩ a).setCell ⟨G, 1, none⟩ b) base 1 v n c :=
  own_set_off (own_set_off h (own_low h G hG) 0 a) (own_low h G hG) 1 b
set_option maxRecDepth 100000 in
set_option maxHeartbeats 1600000 in
theorem implRead (w : World) (hT : Te w) (s : ByteArray) : Calls Tryd.prog 11 #[.string s] w fun e w' => RPost s w.heap.size w' e ∧ Below w.heap.size w w' := by
  obtain ⟨U, e1, hb, hz, X⟩ := box2 w 28 (.int .i64 0) (.slice none 0 0)
  obtain ⟨G1, eG⟩ : ∃ G, w.heap.size = G := ⟨_, rfl⟩
  have HB0 := Lib.hid (show Below G1 w U from eG ▸ hb)
  have HG1 := Lib.hid eG
  have HGU := Lib.hid (show G1 < U.heap.size by omega)
  have HTU := Lib.hid (hT.below hb)
  rw [eG] at X
  have HX0 := Lib.hid X
  rw [eG]
  clear hb hz X hT
  by_cases hl : 65536 < s.size
  · have g1 : (65536 : Int) < (s.size : Int) := by omega
    have HR := Lib.hid (ra_long hl)
    clear hl
    obtain ⟨F, eF, HXF, hbF, _⟩ := put2 U G1 _ _ (.int .i64 0) (.slice none 0 0) HX0.out
    have HBF := Lib.hid (HB0.out.trans (hbF G1 (Nat.le_refl _)))
    obtain ⟨d0, d1, j0, j1⟩ := HX0.out
    obtain ⟨R0, R1, _, _⟩ := HXF
    clear hbF
    go_enter Tryd.func11, Tryd.ntmps11
    go_wp2
    refine bodyPost_ret (v := .tuple #[.agg #[.int .i64 0, .slice none 0 0], .int .i64 2]) (by simp [results, Tryd.results11, go_sem, R0, R1]) rfl ⟨⟨0, _, [], 2, rfl, Lib.hid ⟨HR.out, zero_own _ _⟩⟩, HBF.out⟩
  have g1 : ¬ (65536 : Int) < (s.size : Int) := by omega
  have HC := Lib.hid (fun u (hu : Te u) => readResult s (by omega) u hu)
  have HL := Lib.hid hl
  clear hl
  go_enter Tryd.func11, Tryd.ntmps11
  go_wp2_with fail
  refine (HC.out _ HTU.out).mono ?_
  rintro e w1 ⟨⟨c, v, vs, q, rfl, HQ⟩, hb⟩
  obtain ⟨a, cap, rfl, _, _⟩ := HQ.out.2.sl.form
  have HX1a := Lib.hid (HX0.out.below hb)
  have HB1 := Lib.hid (HB0.out.trans (hb.mono (Nat.le_of_lt HGU.out)))
  have HGW := Lib.hid (show U.heap.size ≤ w1.heap.size from hb.size)
  clear hb e1 eG HC HTU
  obtain ⟨V, e2, hb2, hz2, X2⟩ := box2 w1 28 (.int .i64 0) (.slice none 0 0)
  obtain ⟨G2, eG2⟩ : ∃ G, w1.heap.size = G := ⟨_, rfl⟩
  have HG2 := Lib.hid (show G1 < G2 by have := HGU.out; have := HGW.out; omega)
  rw [eG2] at X2
  have HX1V := Lib.hid (HX1a.out.below hb2)
  obtain ⟨W2, eW2, hxW, hbW, hoW⟩ := put2 V G2 _ _ (.int .i64 c) (.slice a vs.length cap) X2
  have hbb := hb2.trans (hbW w1.heap.size (by omega))
  have HO2 := Lib.hid (HQ.out.2.below hbb)
  have HX2W := Lib.hid hxW
  have HX1W := Lib.hid (HX1V.out.block (hoW G1 (by have := HG2.out; omega)))
  have HBW := Lib.hid (HB1.out.trans (hbb.mono (by have := HGU.out; have := HGW.out; omega)))
  obtain ⟨c0, c1, f0, f1⟩ := X2
  clear hb2 hz2 hxW hbW hoW hbb
  go_upto_region 4 with (fail)
  clear c0 c1 f0 f1 e2 eG2 eW2
  obtain ⟨c0, c1, f0, f1⟩ := HX2W.out
  cases q with
  | false =>
    have HR := Lib.hid (ra_no HL.out HQ.out.1)
    obtain ⟨F, eF, HXF, hbF, _⟩ := put2 W2 G1 _ _ (.int .i64 0) (.slice none 0 0) HX1W.out
    have HBF := Lib.hid (HBW.out.trans (hbF G1 (Nat.le_refl _)))
    obtain ⟨d0, d1, j0, j1⟩ := HX1W.out
    obtain ⟨R0, R1, _, _⟩ := HXF
    clear hbF
    go_wp2
    refine bodyPost_ret (v := .tuple #[.agg #[.int .i64 0, .slice none 0 0], .int .i64 3]) (by simp [results, Tryd.results11, go_sem, R0, R1]) rfl ⟨⟨0, _, [], 3, rfl, Lib.hid ⟨HR.out, zero_own _ _⟩⟩, HBF.out⟩
  | true =>
    have HR := Lib.hid (ra_yes HL.out HQ.out.1)
    obtain ⟨F, eF, HXF, hbF, _⟩ := put2 W2 G1 _ _ (.int .i64 c) (.slice a vs.length cap) HX1W.out
    have HBF := Lib.hid (HBW.out.trans (hbF G1 (Nat.le_refl _)))
    have HOF := Lib.hid (show Own F G1 1 (.slice a vs.length cap) vs.length (nc vs) from by
      rw [← eF]
      exact (own_put HO2.out HGU.out).base (Nat.le_of_lt HGU.out))
    obtain ⟨d0, d1, j0, j1⟩ := HX1W.out
    obtain ⟨R0, R1, _, _⟩ := HXF
    clear hbF
    go_wp2
    refine bodyPost_ret (v := .tuple #[.agg #[.int .i64 c, .slice a vs.length cap], .int .i64 0]) (by simp [results, Tryd.results11, go_sem, R0, R1]) rfl ⟨⟨c, _, vs, 0, rfl, Lib.hid ⟨HR.out, HOF.out⟩⟩, HBF.out⟩
theorem off_top {w : World} {sz n : Nat} {v : Value} {c : Nat → Value} (h : Sl w sz v n c) (hsz : 0 < sz) {k : Nat} (hk : w.heap.size ≤ k) : Off v k := by
  obtain ⟨a, cap, rfl, h1, h2, h3⟩ := h
  intro a' n' cap' e hn
  obtain ⟨rfl, rfl, rfl⟩ : a = some a' ∧ n = n' ∧ cap = cap' := by simpa using e
  obtain ⟨b, o, ha, hc⟩ := h3 hn
  obtain rfl := Option.some.inj ha
  have hlt : b < w.heap.size := World.block_lt_of_cell? w _ (hc 0 (Nat.mul_pos hn hsz))
  show b ≠ k
  omega
set_option maxRecDepth 100000 in
theorem markResult (w : World) (base : Nat) (r : Int) (v : Value) (n : Nat) (c : Nat → Value) (h : Own w base 1 v n c) (k : Nat) (hk : k + n ≤ 10000000) :
    Calls Tryd.prog 12 #[.agg #[.int .i64 r, v], .int .i64 k] w fun e w' => e = .returned (.int .i64 ((k + n : Nat) : Int)) ∧ Own w' base 1 v n (LawN.mi k) ∧ Turns [v] w w' := by
  obtain ⟨U, e1, hb, hz, X⟩ := box2 w 28 (.int .i64 r) v
  obtain ⟨G, eG⟩ : ∃ G, w.heap.size = G := ⟨_, rfl⟩
  have HB := Lib.hid hb
  have HK := Lib.hid (LawN.markIntS U base v n c (h.below hb) k hk)
  rw [eG] at X
  obtain ⟨c0, c1, _, _⟩ := X
  obtain ⟨M, eM⟩ : ∃ M, k + n = M := ⟨_, rfl⟩
  rw [eM] at HK ⊢
  clear hb hz h eM
  go_enter Tryd.func12, Tryd.ntmps12
  go_wp2_with fail
  clear e1 eG
  refine HK.out.mono ?_
  rintro e w1 ⟨rfl, ho, ht⟩
  have HO := Lib.hid ho
  have HT := Lib.hid ((Turns.of_below (vs := [v]) HB.out).trans ht)
  clear ho ht
  go_wp2_with fail
  go_ret
  exact ⟨rfl, HO.out, HT.out⟩
set_option maxRecDepth 100000 in
theorem heldResult (w : World) (r : Int) (v : Value) (n : Nat) (k : Nat) (h : Sl w 1 v n (LawN.mi k)) (hk : k + n ≤ 10000000) :
    Calls Tryd.prog 13 #[.agg #[.int .i64 r, v], .int .i64 k] w fun e w' => e = .returned (.int .i64 ((k + n : Nat) : Int)) ∧ Below w.heap.size w w' := by
  obtain ⟨U, e1, hb, hz, X⟩ := box2 w 28 (.int .i64 r) v
  obtain ⟨G, eG⟩ : ∃ G, w.heap.size = G := ⟨_, rfl⟩
  have HB := Lib.hid hb
  have HK := Lib.hid (HeldN.heldIntS U v n k (h.below hb) hk)
  rw [eG] at X
  obtain ⟨c0, c1, _, _⟩ := X
  obtain ⟨M, eM⟩ : ∃ M, k + n = M := ⟨_, rfl⟩
  rw [eM] at HK ⊢
  have hM : ¬ (M : Int) < 0 := by omega
  clear hb hz h eM
  go_enter Tryd.func13, Tryd.ntmps13
  go_wp2_with fail
  clear e1 eG
  refine HK.out.mono ?_
  rintro e w1 ⟨rfl, hb⟩
  have HB2 := Lib.hid (HB.out.trans (hb.mono HB.out.size))
  clear hb
  go_wp2_with fail
  go_ret
  exact ⟨rfl, HB2.out⟩
theorem ra_len {s : ByteArray} {c : Int} {vs : List Int} {k : Int} (h : RA s c vs k) : vs.length ≤ 32 := by
  rcases h with ⟨_, _, rfl, _⟩ | ⟨_, ⟨_, h, _⟩ | ⟨_, _, rfl, _⟩⟩
  · exact Nat.zero_le _
  · exact h.2.1
  · exact Nat.zero_le _
set_option maxRecDepth 100000 in
set_option maxHeartbeats 3200000 in
theorem walk (w : World) (hT : Te w) (s : ByteArray) : Calls Tryd.prog 4 #[.string s] w fun e w' => e = .returned (.bool true) ∧ Below w.heap.size w w' := by
  by_cases hl : 1048576 < s.size
  · have g1 : (1048576 : Int) < (s.size : Int) := by omega
    clear hl
    go_enter Tryd.func4, Tryd.ntmps4
    go_wp2
    go_ret
    exact ⟨rfl, Below.refl _ _⟩
  have g1 : ¬ (1048576 : Int) < (s.size : Int) := by omega
  have HTW := Lib.hid hT
  clear hl hT
  go_enter Tryd.func4, Tryd.ntmps4
  go_wp2_with fail
  refine (ReadSw.specRead s _).mono ?_
  rintro e w1 ⟨⟨c, v, vs, k, rfl, HP⟩, hb⟩
  obtain ⟨a0, cap0, rfl, _, _⟩ := HP.out.2.sl.form
  obtain ⟨n, hn⟩ : ∃ n, vs.length = n := ⟨_, rfl⟩
  have HN := Lib.hid hn
  have HN32 := Lib.hid (show n ≤ 32 by rw [← hn]; exact ra_len HP.out.1)
  rw [hn] at HP ⊢
  clear hn
  have HB1 := Lib.hid hb
  clear hb
  obtain ⟨V, e2, hb2, hz2, X2⟩ := box2 w1 28 (.int .i64 0) (.slice none 0 0)
  obtain ⟨G1, eG1⟩ : ∃ G, w1.heap.size = G := ⟨_, rfl⟩
  rw [eG1] at X2
  obtain ⟨W2, eW2, hxW, hbW, hoW⟩ := put2 V G1 _ _ (.int .i64 c) (.slice a0 n cap0) X2
  have hbb := hb2.trans (hbW w1.heap.size (by omega))
  have HX2 := Lib.hid hxW
  have HO2 := Lib.hid (HP.out.2.below hbb)
  have HB2 := Lib.hid (HB1.out.trans (hbb.mono HB1.out.size))
  have HT2 := Lib.hid (HTW.out.below HB2.out)
  have HG1 := Lib.hid (show w.heap.size ≤ G1 by have := HB1.out.size; omega)
  obtain ⟨c0, c1, f0, f1⟩ := X2
  clear hb2 hz2 hxW hbW hoW hbb
  go_wp2_with fail
  clear c0 c1 f0 f1 e2 eG1 eW2
  refine (implRead _ HT2.out s).mono ?_
  rintro e w3 ⟨⟨c', v', vs', k', rfl, HQ⟩, hb⟩
  obtain ⟨rfl, rfl, rfl⟩ := ra_same HQ.out.1 HP.out.1
  rw [HN.out] at HQ
  obtain ⟨a1, cap1, rfl, _, _⟩ := HQ.out.2.sl.form
  have HX3 := Lib.hid (HX2.out.below hb)
  have HO3 := Lib.hid (HO2.out.below hb)
  have HB3 := Lib.hid (HB2.out.trans (hb.mono HB2.out.size))
  have HGL := Lib.hid (show G1 < W2.heap.size from HX2.out.lt)
  have HLO := Lib.hid HB2.out.size
  have HLW := Lib.hid hb.size
  have HAP := Lib.hid (apart_of HO2.out.sl (by decide) HQ.out.2 (Nat.le_refl _))
  clear hb
  obtain ⟨V4, e4, hb4, hz4, X4⟩ := box2 w3 28 (.int .i64 0) (.slice none 0 0)
  obtain ⟨G2, eG2⟩ : ∃ G, w3.heap.size = G := ⟨_, rfl⟩
  rw [eG2] at X4
  obtain ⟨W5, eW5, hxW, hbW, hoW⟩ := put2 V4 G2 _ _ (.int .i64 c') (.slice a1 n cap1) X4
  have hbb := hb4.trans (hbW w3.heap.size (by omega))
  have HX5 := Lib.hid hxW
  have HX15 := Lib.hid (HX3.out.below hbb)
  have HO5 := Lib.hid (HO3.out.below hbb)
  have HQ5 := Lib.hid (HQ.out.2.below hbb)
  have HB5 := Lib.hid (HB3.out.trans (hbb.mono HB3.out.size))
  have HOH := Lib.hid (show Off (.slice a1 n cap1) G2 from off_top HQ.out.2.sl (by decide) (Nat.le_of_eq eG2))
  have HOG := Lib.hid (show Off (.slice a1 n cap1) G1 from own_low HQ.out.2 G1 HGL.out)
  have HG2 := Lib.hid (show w3.heap.size = G2 from eG2)
  have HGW := Lib.hid (show G2 < W5.heap.size from HX5.out.lt)
  obtain ⟨c0, c1, f0, f1⟩ := X4
  clear hb4 hz4 hxW hbW hoW hbb
  go_upto_region 5 with (fail)
  clear c0 c1 f0 f1 e4 eG2 eW5
  obtain ⟨c0, c1, f0, f1⟩ := HX5.out
  obtain ⟨d0, d1, j0, j1⟩ := HX15.out
  have HRA := Lib.hid (show Rr W5 (.agg #[.int .i64 c', .slice a1 n cap1]) c' vs' from ⟨_, rfl, by rw [HN.out]; exact HQ5.out.sl⟩)
  have HRB := Lib.hid (show Rr W5 (.agg #[.int .i64 c', .slice a0 n cap0]) c' vs' from ⟨_, rfl, by rw [HN.out]; exact HO5.out.sl⟩)
  go_wp2_with fail
  refine (eqResult _ _ _ c' vs' HRA.out HRB.out).mono ?_
  rintro e w6 ⟨rfl, hb⟩
  have HB6 := Lib.hid (HB5.out.trans (hb.mono HB5.out.size))
  have HX6 := Lib.hid (HX5.out.below hb)
  have HX16 := Lib.hid (HX15.out.below hb)
  have HO6 := Lib.hid (HO5.out.below hb)
  have HQ6 := Lib.hid (HQ5.out.below hb)
  have HW6 := Lib.hid (show W5.heap.size ≤ w6.heap.size from hb.size)
  clear hb c0 c1 f0 f1 d0 d1 j0 j1
  obtain ⟨c0, c1, f0, f1⟩ := HX6.out
  go_wp2_with fail
  have HMK := Lib.hid (markResult w6 _ c' _ n _ HQ6.out 1 (by have := HN32.out; omega))
  have HHD := Lib.hid (fun u h => heldResult u c' (.slice a1 n cap1) n 1 h (by have := HN32.out; omega))
  obtain ⟨M, eM⟩ : ∃ M, 1 + n = M := ⟨_, rfl⟩
  rw [eM] at HMK HHD
  clear eM
  refine HMK.out.mono ?_
  rintro e w7 ⟨rfl, hm, ht⟩
  have HB7 := Lib.hid (show Below w.heap.size w w7 from HB6.out.trans (ht.below HB6.out.size (fun u hu i hi => by
    obtain rfl : u = .slice a1 n cap1 := by simpa using hu
    exact own_low HQ6.out i (by have := HLO.out; omega))))
  have HX17 := Lib.hid (HX16.out.turns ht (fun u hu => by
    obtain rfl : u = .slice a1 n cap1 := by simpa using hu
    exact HOG.out))
  have HO7 := Lib.hid (own_turns HO6.out ht (fun u hu => by
    obtain rfl : u = .slice a1 n cap1 := by simpa using hu
    exact HAP.out))
  have HX7 := Lib.hid (HX6.out.turns ht (fun u hu => by
    obtain rfl : u = .slice a1 n cap1 := by simpa using hu
    exact HOH.out))
  have HM7 := Lib.hid hm.sl
  have hM : ¬ (M : Int) < 0 := by omega
  clear hm ht HMK c0 c1 f0 f1
  obtain ⟨c0, c1, f0, f1⟩ := HX7.out
  go_wp2_with fail
  refine (HHD.out _ HM7.out).mono ?_
  rintro e w8 ⟨rfl, hb⟩
  have HB8 := Lib.hid (HB7.out.trans (hb.mono HB7.out.size))
  have HX8 := Lib.hid (HX7.out.below hb)
  have HX18 := Lib.hid (HX17.out.below hb)
  have HO8 := Lib.hid (HO7.out.below hb)
  have HM8 := Lib.hid (HM7.out.below hb)
  have HT8 := Lib.hid (HTW.out.below HB8.out)
  clear hb c0 c1 f0 f1
  go_wp2_with fail
  refine (implRead _ HT8.out s).mono ?_
  rintro e w9 ⟨⟨c2, v2, vs2, k2, rfl, HR⟩, hb⟩
  obtain ⟨rfl, rfl, rfl⟩ := ra_same HR.out.1 HP.out.1
  rw [HN.out] at HR
  obtain ⟨a2, cap2, rfl, _, _⟩ := HR.out.2.sl.form
  have HX9 := Lib.hid (HX8.out.below hb)
  have HX19 := Lib.hid (HX18.out.below hb)
  have HO9 := Lib.hid (HO8.out.below hb)
  have HM9 := Lib.hid (HM8.out.below hb)
  have HB9 := Lib.hid (HB8.out.trans (hb.mono HB8.out.size))
  clear hb
  obtain ⟨V6, e6, hb6, hz6, X6⟩ := box2 w9 28 (.int .i64 0) (.slice none 0 0)
  obtain ⟨G3, eG3⟩ : ∃ G, w9.heap.size = G := ⟨_, rfl⟩
  rw [eG3] at X6
  obtain ⟨W7, eW7, hxW, hbW, hoW⟩ := put2 V6 G3 _ _ (.int .i64 c2) (.slice a2 n cap2) X6
  have hbb := hb6.trans (hbW w9.heap.size (by omega))
  have HY := Lib.hid hxW
  have HXA := Lib.hid (HX9.out.below hbb)
  have HX1A := Lib.hid (HX19.out.below hbb)
  have HOA := Lib.hid (HO9.out.below hbb)
  have HMA := Lib.hid (HM9.out.below hbb)
  have HRS := Lib.hid (HR.out.2.below hbb)
  have HBA := Lib.hid (HB9.out.trans (hbb.mono HB9.out.size))
  obtain ⟨c0, c1, f0, f1⟩ := X6
  clear hb6 hz6 hxW hbW hoW hbb
  go_upto_region 16 with (fail)
  clear c0 c1 f0 f1 e6 eG3 eW7
  obtain ⟨c0, c1, f0, f1⟩ := HY.out
  obtain ⟨d0, d1, j0, j1⟩ := HX1A.out
  have HRA := Lib.hid (show Rr W7 (.agg #[.int .i64 c2, .slice a2 n cap2]) c2 vs2 from ⟨_, rfl, by rw [HN.out]; exact HRS.out.sl⟩)
  have HRB := Lib.hid (show Rr W7 (.agg #[.int .i64 c2, .slice a0 n cap0]) c2 vs2 from ⟨_, rfl, by rw [HN.out]; exact HOA.out.sl⟩)
  go_wp2_with fail
  refine (eqResult _ _ _ c2 vs2 HRA.out HRB.out).mono ?_
  rintro e wa ⟨rfl, hb⟩
  have HBB := Lib.hid (HBA.out.trans (hb.mono HBA.out.size))
  have HXB := Lib.hid (HXA.out.below hb)
  have HMB := Lib.hid (HMA.out.below hb)
  clear hb c0 c1 f0 f1 d0 d1 j0 j1
  obtain ⟨c0, c1, f0, f1⟩ := HXB.out
  go_wp2_with fail
  refine (HHD.out _ HMB.out).mono ?_
  rintro e wb ⟨rfl, hb⟩
  have HBC := Lib.hid (HBB.out.trans (hb.mono HBB.out.size))
  clear hb c0 c1 f0 f1
  go_wp2_with fail
  go_ret
  exact ⟨rfl, HBC.out⟩
end Go.Proofs.YtifkihjjkomfiaaDoor.ReadRx
