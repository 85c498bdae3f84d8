/-
  What is proved: the laws' functions on slices of numbers: copied, compared, marked (contracts for the walks).
-/
import Derived.Test.YtealdpkgfmokpaaRows
import Derived.Test.YtealdpkgfmokpaaLawS
namespace Go.Proofs.Ytealdpkgfmokpaa.LawN
open Go.ChangeShapes Go.WideShapes Go.ChangeAt Go.RowKit
open Sl (Sl Own Off)
open OpenSl (tc nc pc)
open Dev
set_option linter.unusedVariables false

theorem info3 : (Try.prog.info? 3).map (fun i => (i.zero, i.size, i.bytes)) = some (some (.int .i64 0), 1, 8) := by kernel_rfl
def mi (k j : Nat) : Value := .int .i64 ((k + j : Nat) : Int)
set_option maxRecDepth 100000 in
set_option maxHeartbeats 800000 in
theorem eqIntS (w : World) (u v : Value) (zs : List Int) (hu : Sl w 1 u zs.length (nc zs)) (hv : Sl w 1 v zs.length (nc zs)) :
    Calls Try.prog 46 #[u, v] w fun e w' => e = .returned (.bool true) ∧ Below w.heap.size w w' := by
  obtain ⟨a, cap, rfl, h1, h2, h3⟩ := hu
  obtain ⟨a', cap', rfl, h1', h2', h3'⟩ := hv
  have H3 := Lib.hid h3
  have H3' := Lib.hid h3'
  clear h3 h3'
  unfold maxLen at h2 h2'
  generalize zs.length = n at *
  go_enter Try.func46, Try.ntmps46
  go_wp2
  go_loopw [5] (fun i wr => ∃ k m : Nat, k ≤ n ∧ i = .int .i64 k ∧ wr = w.drewN m) (fun i _ => n - (intOf i).toNat)
  case atStart => exact ⟨0, 0, by omega, rfl, rfl⟩
  case round =>
    obtain ⟨k, m, hk, rfl, rfl⟩ := hrel
    by_cases hlt : k < n
    · obtain ⟨b, o, rfl, hc⟩ := H3.out (by omega)
      obtain ⟨b', o', rfl, hc'⟩ := H3'.out (by omega)
      have c0 := hc k (by omega)
      have c1 := hc' k (by omega)
      unfold nc at c0 c1
      clear hc hc'
      generalize zs.getD k 0 = s at *
      go_wp2
      go_quiet (fail)
      go_wp2
      go_roundw
      case rel => exact ⟨k + 1, _, by omega, by go_num, rfl⟩
      case measure => simp [intOf]; omega
    · go_wp2
      go_ret
      exact ⟨rfl, below_drewN (Below.refl _ _) m⟩

set_option maxRecDepth 100000 in
set_option maxHeartbeats 800000 in
theorem toIntS (w : World) (v : Value) (zs : List Int) (h : Sl w 1 v zs.length (nc zs)) (hn : zs.length ≤ 1048576) :
    Calls Try.prog 43 #[v] w fun e w' => ∃ r, e = .returned r ∧ Own w' w.heap.size 1 r zs.length (nc zs) ∧ Below w.heap.size w w' := by
  obtain ⟨a, cap, rfl, h1, h2, h3⟩ := h
  have H3 := Lib.hid h3
  clear h3
  unfold maxLen at h2
  generalize zs.length = n at *
  obtain ⟨g, o, w1, hmk, hown, hbel⟩ := made (P := Try.prog) w 22 3 1 (.int .i64 0) 8 Try.underlying22 info3 n (by omega) (by unfold maxLen; omega) (fun _ => .int .i64 0) (LawS.made_one _ rfl n)
  have HO := Lib.hid hown
  have HB := Lib.hid hbel
  clear hown hbel
  go_enter Try.func43, Try.ntmps43
  go_wp2
  go_loopw [4] (fun i wr => ∃ k : Nat, k ≤ n ∧ i = .int .i64 k ∧ Hid (Own wr w.heap.size 1 (.slice (some ⟨g, o, none⟩) n n) n (fun j => if j < k then nc zs j else .int .i64 0) ∧ Below w.heap.size w wr)) (fun i _ => n - (intOf i).toNat)
  case atStart => exact ⟨0, by omega, rfl, Lib.hid ⟨HO.out.congr (fun j _ => by rw [if_neg (by omega)]), HB.out⟩⟩
  case round =>
    rename_i wr
    obtain ⟨k, hk, rfl, HX⟩ := hrel
    by_cases hlt : k < n
    · obtain ⟨b, o2, rfl, hc⟩ := H3.out (by omega)
      have c0 := hc k (by omega)
      have c1 : wr.cell? ⟨b, o2 + k, none⟩ = some (nc zs k) := (HX.out.2.cell (World.block_lt_of_cell? w _ c0)).trans c0
      obtain ⟨b', o', e', hb', hc'⟩ := HX.out.1.at (by omega)
      obtain ⟨rfl, rfl⟩ : g = b' ∧ o = o' := by simpa using e'
      obtain ⟨c2, f2⟩ := hc' k (by omega)
      have HG := Lib.hid hb'
      unfold nc at c1
      rw [if_neg (by omega)] at c2
      have HT := Lib.hid (show nc zs k = .int .i64 (zs.getD k 0) from rfl)
      clear hc hc' c0 hb' e'
      generalize zs.getD k 0 = s at *
      go_wp2
      go_roundw
      case rel =>
        refine ⟨k + 1, by omega, by go_num, Lib.hid ⟨(HX.out.1.set k (by omega) _).congr (fun j hj => ?_), HX.out.2.setCell HG.out _⟩⟩
        show (if j = k then _ else if j < k then _ else _) = if j < k + 1 then _ else _
        by_cases ej : j = k
        · rw [if_pos ej, if_pos (by omega), ej, HT.out]
        · rw [if_neg ej]
          by_cases h5 : j < k
          · rw [if_pos h5, if_pos (by omega)]
          · rw [if_neg h5, if_neg (by omega)]
      case measure => simp [intOf]; omega
    · have hk2 := Lib.hid (show k = n by omega)
      go_wp2
      go_ret
      exact ⟨_, rfl, HX.out.1.congr (fun j hj => by rw [if_pos (by rw [hk2.out]; omega)]), HX.out.2⟩
set_option maxRecDepth 100000 in
set_option maxHeartbeats 800000 in
theorem markIntS (w : World) (base : Nat) (v : Value) (n : Nat) (c : Nat → Value) (h : Own w base 1 v n c) (k : Nat) (hk : k + n ≤ 10000000) :
    Calls Try.prog 47 #[v, .int .i64 k] w fun e w' => e = .returned (.int .i64 ((k + n : Nat) : Int)) ∧ Own w' base 1 v n (mi k) ∧ Turns [v] w w' := by
  obtain ⟨a, cap, rfl, h1, h2, h3⟩ := h
  have HO := Lib.hid (show Own w base 1 (.slice a n cap) n c from ⟨a, cap, rfl, h1, h2, h3⟩)
  clear h3
  unfold maxLen at h2
  go_enter Try.func47, Try.ntmps47
  go_wp2
  go_loopw [1, 5] (fun q i wr => ∃ j m : Nat, j ≤ n ∧ q = .int .i64 m ∧ i = .int .i64 j ∧ Hid (m = k + j ∧ Own wr base 1 (.slice a n cap) n (fun l => if l < j then mi k l else c l) ∧ Turns [.slice a n cap] w wr)) (fun q i _ => n - (intOf i).toNat)
  case atStart => exact ⟨0, k, by omega, rfl, rfl, Lib.hid ⟨rfl, HO.out.congr (fun j _ => by rw [if_neg (by omega)]), Turns.refl _ _⟩⟩
  case round =>
    rename_i wr
    obtain ⟨j, m, hj, rfl, rfl, HX⟩ := hrel
    by_cases hlt : j < n
    · have hm : m ≤ 10000000 := by have := HX.out.1; omega
      have HX2 := Lib.hid (show Own wr base 1 (.slice a n cap) n (fun l => if l < j then mi k l else c l) ∧ Turns [.slice a n cap] w wr from ⟨HX.out.2.1, HX.out.2.2⟩)
      have HM := Lib.hid (show mi k j = .int .i64 (m : Int) by unfold mi; rw [HX.out.1])
      obtain ⟨b, o, rfl, hb', hc'⟩ := HX2.out.1.at (by omega)
      obtain ⟨c2, f2⟩ := hc' j (by omega)
      rw [if_neg (by omega)] at c2
      clear hc' hb'
      generalize c j = cj at *
      go_wp2
      go_roundw
      case rel =>
        refine ⟨j + 1, m + 1, by omega, by go_num, by go_num, Lib.hid ⟨by have := HX.out.1; omega, (HX2.out.1.set j (by omega) _).congr (fun l hl => ?_), HX2.out.2.set (o := o) (n := n) (cap := cap) (by simp) (by omega) _ _⟩⟩
        show (if l = j then _ else if l < j then _ else _) = if l < j + 1 then _ else _
        by_cases ej : l = j
        · rw [if_pos ej, if_pos (by omega), ej, HM.out]
        · rw [if_neg ej]
          by_cases h5 : l < j
          · rw [if_pos h5, if_pos (by omega)]
          · rw [if_neg h5, if_neg (by omega)]
      case measure => simp [intOf]; omega
    · have hj2 := Lib.hid (show j = n by omega)
      go_wp2
      go_ret
      refine ⟨?_, HX.out.2.1.congr (fun l hl => by rw [if_pos (by rw [hj2.out]; omega)]), HX.out.2.2⟩
      show Ending.returned (Value.int .i64 (m : Int)) = _
      rw [HX.out.1, hj2.out]

end Go.Proofs.Ytealdpkgfmokpaa.LawN
