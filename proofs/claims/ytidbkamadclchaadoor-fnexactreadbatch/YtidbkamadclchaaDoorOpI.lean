/-
  What is proved: the program's text of an operation is the plain one, where the package's words and the library's table of tens stand in their places (a contract for the walks).
-/
import Derived.Test.YtidbkamadclchaaDoorRows
import Derived.Test.YtidbkamadclchaaDoorTextM
import Derived.Test.YtidbkamadclchaaDoorShelf1
namespace Go.Proofs.YtidbkamadclchaaDoor.OpI
open Go.ChangeShapes Go.WideShapes Go.ChangeAt Go.RowKit
open Sl (Sl Own Off)
open Dev Orm Box3 OpB BatB Txt TxtB Dig TextM
open Shelf1 (Pow)
set_option linter.unusedVariables false

/-- The package's words, and the table of tens, are in their places. -/
def OW (w : World) : Prop := ∀ k : Nat, k < 7 → w.cell? ⟨0, k, none⟩ = some (.string (wB k))
structure Tb (w : World) : Prop where
  ow : OW w
  pow : Pow w
theorem OW.below {w w' : World} (h : OW w) (hb : Below w.heap.size w w') : OW w' := fun k hk => (hb.cell (World.block_lt_of_cell? w _ (h k hk))).trans (h k hk)
theorem Tb.below {w w' : World} (h : Tb w) (hb : Below w.heap.size w w') : Tb w' := ⟨h.ow.below hb, h.pow.below hb⟩

set_option maxRecDepth 100000 in
set_option maxHeartbeats 1600000 in
theorem opText (w : World) (hT : Tb w) (k y v : Int) (h : Ok (k, y, v)) :
    Calls Tryd.prog 25 #[.agg #[.int .i64 k, .int .i64 y, .int .i64 v]] w fun e w' => e = .returned (.string (opB (k, y, v))) ∧ Below w.heap.size w w' := by
  have hy := h.1
  have hy2 := h.2.1
  have hkk := ok_kind h
  have HOB := Lib.hid (fun hb => opB_bare (x := (k, y, v)) hb)
  have HOF := Lib.hid (fun hb => opB_full (x := (k, y, v)) hb)
  have hv9 : ¬ Bare k → 0 ≤ v ∧ v ≤ 999999 := fun hb => by
    rcases h.2.2 with h | h | h
    · exact absurd h.1 hb
    · exact h.2
    · have := h.2; simp only at this; omega
  have HSO := Lib.hid (fun u => sortOf u k y v)
  have HSR := Lib.hid (show (Bare k → srt (k, y, v) = .iface 70 (bv (k, y, v))) ∧ (k = 6 → srt (k, y, v) = .iface 73 (bv (k, y, v))) ∧ (Cell k → srt (k, y, v) = .iface 71 (bv (k, y, v))) from ⟨fun h => srt_bare h, fun h => srt_scan h, fun h => srt_cell h⟩)
  simp only [bv] at HSR
  simp only at hy hy2 hkk HOB HOF
  obtain ⟨n, rfl⟩ : ∃ n : Nat, y = n := ⟨y.toNat, by omega⟩
  obtain ⟨j, rfl⟩ : ∃ j : Nat, k = j := ⟨k.toNat, by unfold K6 at hkk; omega⟩
  have hj : j < 7 := by unfold K6 at hkk; omega
  rw [Int.toNat_natCast] at HOB HOF
  have HI := Lib.hid (fun u (hu : Tb u) => Shelf1.itoa n (by omega) u hu.pow)
  have HS := ds_size n (by omega)
  have HWS := wB_size (k := (j : Int))
  obtain ⟨U, e1, hb, hz, X⟩ := box3 w 26 (.int .i64 (j : Int)) (.int .i64 (n : Int)) (.int .i64 v)
  obtain ⟨G, eG⟩ : ∃ G, w.heap.size = G := ⟨_, rfl⟩
  have HBW := Lib.hid hb
  have HTU := Lib.hid (hT.below hb)
  have HTW := Lib.hid hT
  rw [eG] at X
  have HX := Lib.hid X
  obtain ⟨c0, c1, c2, _, _, _⟩ := X
  have cw := HTU.out.ow j hj
  clear hb hz h hT
  have hs1 : ¬ 9223372036854775807 < (wB (j : Int)).size + 1 := by omega
  have hs2 : ¬ 9223372036854775807 < (wB (j : Int)).size + 1 + (ds n).size := by omega
  have hj0 : (0 : Int) ≤ (j : Int) := by omega
  have hj7 : (j : Int) < 7 := by omega
  go_enter Tryd.func25, Tryd.ntmps25
  go_upto_region 1 with (fail)
  clear e1 eG
  go_cut [3] from 4 to 28 (fun v3 wx => v3 = .string (wB (j : Int) ++ bl ++ ds n) ∧ Hid (Below U.heap.size U wx))
  case first =>
    go_region_held3 (fun w' => w'.cell? ⟨G, 0, none⟩ = some (.int .i64 (j : Int)) ∧ w'.cell? ⟨G, 1, none⟩ = some (.int .i64 (n : Int)) ∧ w'.cell? ⟨0, j, none⟩ = some (.string (wB (j : Int))))
      (first | exact ⟨c0, c1, cw⟩ | exact ⟨e20, e21, e22⟩)
      ((go_at_call 46; refine (HI.out _ (HTU.out.below (by first | exact Below.refl _ _ | exact below_drewN (Below.refl _ _) _))).mono ?_; rintro e z1 ⟨rfl, hb1⟩; have HEZ : Hid (Below U.heap.size U z1) := Lib.hid (by first | exact hb1 | exact (below_drewN (Below.refl _ _) _).trans hb1); obtain ⟨e20, e21, _⟩ := HX.out.below HEZ.out; have e22 := (HTU.out.below HEZ.out).ow j hj; clear hb1))
    all_goals
      go_wp2_with fail
      go_meet
      exact ⟨rfl, HEZ⟩
  case rest =>
    obtain ⟨rfl, HBU⟩ := hcut
    clear c0 c1 c2 cw HI
    obtain ⟨c0, c1, c2, _⟩ := HX.out.below HBU.out
    have HF0 := Lib.hid (HBW.out.trans (HBU.out.mono HBW.out.size))
    obtain ⟨T, eT⟩ : ∃ T, wB (j : Int) ++ bl ++ ds n = T := ⟨_, rfl⟩
    have hT : T.size ≤ 24 := by rw [← eT, ByteArray.size_append, ByteArray.size_append, bl_size]; omega
    rw [eT] at HOB HOF
    rw [eT]
    clear eT hs1 hs2 HWS
    by_cases h1 : Bare (j : Int)
    · have HR := Lib.hid (HOB.out h1)
      rw [HSR.out.1 h1] at HSO
      clear h1 HOB HOF hv9 hkk HSR
      go_wp2_with fail
      refine (HSO.out _).mono ?_
      rintro e w2 ⟨rfl, hb2⟩
      have HF1 := Lib.hid (HF0.out.trans (hb2.mono HF0.out.size))
      clear hb2
      go_wp2_with fail
      go_ret
      exact ⟨by rw [HR.out]; rfl, by first | exact HF1.out | exact HF1.out.alloc (by have := HF1.out.size; omega) _⟩
    have HR := Lib.hid (HOF.out h1)
    obtain ⟨m, rfl⟩ : ∃ m : Nat, v = m := ⟨v.toNat, by have := hv9 h1; omega⟩
    have hm := (hv9 h1).2
    rw [Int.toNat_natCast] at HR
    have HD := Lib.hid (fun u (hu : Tb u) => Shelf1.itoa m (by omega) u hu.pow)
    have HS2 := ds_size m (by omega)
    have t1 : ¬ 9223372036854775807 < T.size + 1 := by omega
    have t2 : ¬ 9223372036854775807 < T.size + 1 + (ds m).size := by omega
    have hassoc : ∀ a b c : ByteArray, a ++ b ++ c = a ++ (b ++ c) := fun a b c => by
      apply ByteArray.ext
      simp [ByteArray.data_append]
    have HRR := Lib.hid (show opB ((j : Int), (n : Int), (m : Int)) = T ++ bl ++ ds m from HR.out.trans (hassoc _ _ _).symm)
    have HKK : Hid (srt ((j : Int), (n : Int), (m : Int)) = .iface 73 (.agg #[.int .i64 (j : Int), .int .i64 (n : Int), .int .i64 (m : Int)]) ∨ srt ((j : Int), (n : Int), (m : Int)) = .iface 71 (.agg #[.int .i64 (j : Int), .int .i64 (n : Int), .int .i64 (m : Int)])) := Lib.hid (by
      by_cases h6 : (j : Int) = 6
      · exact .inl (HSR.out.2.1 h6)
      · exact .inr (HSR.out.2.2 (by unfold Cell; unfold Bare at h1; unfold K6 at hkk; omega)))
    clear h1 HOB HOF hv9 hkk HSR HR hassoc
    rcases HKK.out with hk | hk <;> rw [hk] at HSO <;> clear hk HKK
    all_goals
      go_wp2_with fail
      refine (HSO.out _).mono ?_
      rintro e w2 ⟨rfl, hb2⟩
      have HF1 := Lib.hid (HF0.out.trans (hb2.mono HF0.out.size))
      have HBU2 := Lib.hid (HBU.out.trans (hb2.mono HBU.out.size))
      obtain ⟨c0, c1, c2, _⟩ := HX.out.below HBU2.out
      clear hb2
      have hG : G < w2.heap.size := World.block_lt_of_cell? w2 _ c2
      have HF2 := Lib.hid (HF1.out.alloc (by have := HF1.out.size; omega) (.cells #[.int .i64 0, .int .i64 0, .int .i64 0] 70))
      have HAL := Lib.hid (fun v : Value => HF1.out.alloc (by have := HF1.out.size; omega) (.cells #[.int .i64 (j : Int), .int .i64 (n : Int), .int .i64 (m : Int)] 70))
      have HTV := Lib.hid (HTW.out.below HF2.out)
      go_wp2_with fail
      refine (HD.out _ HTV.out).mono ?_
      rintro e w3 ⟨rfl, hb3⟩
      have HF3 := Lib.hid (HF2.out.trans (hb3.mono HF2.out.size))
      clear hb3
      go_wp2_with fail
      go_ret
      exact ⟨by rw [HRR.out]; rfl, HF3.out⟩
end Go.Proofs.YtidbkamadclchaaDoor.OpI
