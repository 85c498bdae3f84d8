/-
  What is proved: the laws' functions on slices of results: compared, marked and found marked (contracts for the walks).
-/
import Derived.Test.YtealdpkgfmokpaaRows
import Derived.Test.YtealdpkgfmokpaaBatR
import Derived.Test.YtealdpkgfmokpaaLawR
import Derived.Test.YtealdpkgfmokpaaHeldN
namespace Go.Proofs.Ytealdpkgfmokpaa.LawRS
open Go.ChangeShapes Go.WideShapes Go.ChangeAt Go.RowKit
open Sl (Sl Own Off)
open OpenSl (nc)
open Dev Orm BatR LawR
open LawN (mi)
set_option linter.unusedVariables false

/-- How many cells the first j results have. -/
def sr (rs : List Re) (j : Nat) : Nat := ((rs.take j).map (fun r => r.2.length + 1)).sum
theorem sr_zero (rs : List Re) : sr rs 0 = 0 := rfl
theorem sr_succ (rs : List Re) (j : Nat) (h : j < rs.length) : sr rs (j + 1) = sr rs j + 1 + (rs.getD j (0, [])).2.length := by
  unfold sr
  rw [List.take_add_one, List.getElem?_eq_getElem h, List.getD_eq_getElem?_getD, List.getElem?_eq_getElem h, List.map_append, List.sum_append]
  simp
  omega
theorem sr_le (rs : List Re) (j : Nat) (hj : j < rs.length) : sr rs j + 1 + (rs.getD j (0, [])).2.length ≤ sr rs rs.length := by
  rw [← sr_succ rs j hj]
  unfold sr
  conv => rhs; rw [List.take_length, ← List.take_append_drop (j + 1) rs, List.map_append, List.sum_append]
  omega
theorem sr_bound (rs : List Re) (h : rs.length ≤ 2) (hv : ∀ r ∈ rs, r.2.length ≤ 32) : sr rs rs.length ≤ 66 := by
  unfold sr
  rw [List.take_length]
  match rs, h with
  | [], _ => simp
  | [a], _ => have := hv a (by simp); simp; omega
  | [a, b], _ => have := hv a (by simp); have := hv b (by simp); simp; omega
/-- The cells of a marked slice of results. -/
def mk (rs : List Re) (us : Nat → Value) (k i : Nat) : Value := if i % 2 = 0 then .int .i64 ((k + sr rs (i / 2) : Nat) : Int) else us (i / 2)
theorem mk0 (rs : List Re) (us : Nat → Value) (k j : Nat) : mk rs us k (j * 2) = .int .i64 ((k + sr rs j : Nat) : Int) := by unfold mk; rw [if_pos (by omega), show j * 2 / 2 = j by omega]
theorem mk1 (rs : List Re) (us : Nat → Value) (k j : Nat) : mk rs us k (j * 2 + 1) = us j := by unfold mk; rw [if_neg (by omega), show (j * 2 + 1) / 2 = j by omega]
/-- .. marked up to the j-th. -/
def mo (rs : List Re) (us : Nat → Value) (k j i : Nat) : Value := if i < j * 2 then mk rs us k i else rc rs us i
def mn (rs : List Re) (k j i : Nat) : Nat → Value := if i < j then mi (k + sr rs i + 1) else nc (rs.getD i (0, [])).2
/-- A slice of results that is marked from k on. -/
structure MrO (w : World) (lo : Nat) (v : Value) (rs : List Re) (us : Nat → Value) (k : Nat) : Prop where
  out : Own w lo 2 v rs.length (mk rs us k)
  inn : ∀ j, j < rs.length → Own w lo 1 (us j) (rs.getD j (0, [])).2.length (mi (k + sr rs j + 1))
theorem MrO.below {w w' : World} {lo k : Nat} {v : Value} {rs : List Re} {us : Nat → Value} (h : MrO w lo v rs us k) (hb : Below w.heap.size w w') : MrO w' lo v rs us k := ⟨h.out.below hb, fun j hj => (h.inn j hj).below hb⟩

set_option maxRecDepth 100000 in
set_option maxHeartbeats 800000 in
theorem eqResultS (w : World) (u v : Value) (rs : List Re) (us ts : Nat → Value) (hu : Nr w u rs us) (hv : Nr w v rs ts) :
    Calls Try.prog 37 #[u, v] w fun e w' => e = .returned (.bool true) ∧ Below w.heap.size w w' := by
  have HU := Lib.hid hu
  have HV := Lib.hid hv
  obtain ⟨a, cap, rfl, h1, h2, h3⟩ := hu.out
  obtain ⟨a', cap', rfl, h1', h2', h3'⟩ := hv.out
  have H3 := Lib.hid h3
  have H3' := Lib.hid h3'
  clear h3 h3' hu hv
  unfold maxLen at h2 h2'
  obtain ⟨n, en⟩ : ∃ n, rs.length = n := ⟨_, rfl⟩
  have HEN := Lib.hid en
  rw [en] at H3 H3' h1 h1' ⊢
  clear en
  go_enter Try.func37, Try.ntmps37
  go_wp2
  go_loopw [5] (fun i wr => ∃ k : Nat, k ≤ n ∧ i = .int .i64 k ∧ Hid (Below w.heap.size w wr)) (fun i _ => n - (intOf i).toNat)
  case atStart => exact ⟨0, by omega, rfl, Lib.hid (Below.refl _ _)⟩
  case round =>
    rename_i wr
    obtain ⟨k, hk, rfl, HB⟩ := hrel
    by_cases hlt : k < n
    · obtain ⟨b, o, rfl, hc⟩ := H3.out (by omega)
      obtain ⟨b', o', rfl, hc'⟩ := H3'.out (by omega)
      have c0 := hc (k * 2) (by omega)
      have c1 := hc (k * 2 + 1) (by omega)
      have d0 := hc' (k * 2) (by omega)
      have d1 := hc' (k * 2 + 1) (by omega)
      rw [← HB.out.cell (World.block_lt_of_cell? w _ c0), rc0] at c0
      rw [← HB.out.cell (World.block_lt_of_cell? w _ d0), rc0] at d0
      rw [← HB.out.cell (World.block_lt_of_cell? w _ c1), rc1, ← Nat.add_assoc] at c1
      rw [← HB.out.cell (World.block_lt_of_cell? w _ d1), rc1, ← Nat.add_assoc] at d1
      have HU2 := Lib.hid ((HU.out.inn k (by rw [HEN.out]; exact hlt)).below HB.out)
      have HV2 := Lib.hid ((HV.out.inn k (by rw [HEN.out]; exact hlt)).below HB.out)
      clear hc hc'
      generalize rs.getD k (0, []) = x at *
      obtain ⟨c, vs⟩ := x
      simp only at c0 d0 HU2 HV2
      obtain ⟨a2, cap2, e2, _, _⟩ := HU2.out.form
      obtain ⟨a3, cap3, e3, _, _⟩ := HV2.out.form
      rw [e2] at c1 HU2
      rw [e3] at d1 HV2
      have i1 : (k : Int) < (n : Int) := by omega
      have i3 : (0 : Int) ≤ (k : Int) := by omega
      go_wp2
      go_region_with ((go_at_call 26; refine (eqResult _ _ _ c vs ⟨_, rfl, HU2.out.below (below_drewN (Below.refl _ _) _)⟩ ⟨_, rfl, HV2.out.below (below_drewN (Below.refl _ _) _)⟩).mono ?_; rintro e u1 ⟨rfl, hb⟩))
      all_goals
        have HB2 := Lib.hid ((below_drewN HB.out _).trans (hb.mono HB.out.size))
        clear hb
        go_wp2
        go_roundw
        case rel => exact ⟨k + 1, by omega, by go_num, HB2⟩
        case measure => simp [intOf]; omega
    · go_wp2
      go_ret
      exact ⟨rfl, HB.out⟩

set_option maxRecDepth 100000 in
set_option maxHeartbeats 800000 in
theorem markResultS (w : World) (lo : Nat) (v : Value) (rs : List Re) (us : Nat → Value) (h : NrO w lo v rs us) (k : Nat) (hk : k + sr rs rs.length ≤ 10000000) :
    Calls Try.prog 40 #[v, .int .i64 k] w fun e w' => e = .returned (.int .i64 ((k + sr rs rs.length : Nat) : Int)) ∧ MrO w' lo v rs us k ∧ Turns (v :: (List.range rs.length).map us) w w' := by
  have HS := Lib.hid (sr_succ rs)
  have HE := Lib.hid (sr_le rs)
  have HNR := Lib.hid h
  obtain ⟨a, cap, rfl, h1, h2, _⟩ := h.out
  unfold maxLen at h2
  have H0 := Lib.hid (show Own w lo 2 (.slice a rs.length cap) rs.length (mo rs us k 0) ∧ ∀ i, i < rs.length → Own w lo 1 (us i) (rs.getD i (0, [])).2.length (mn rs k 0 i) from
    ⟨h.out.congr fun i _ => by unfold mo; rw [if_neg (by omega)], fun i hi => by unfold mn; rw [if_neg (by omega)]; exact h.inn i hi⟩)
  have HAP := Lib.hid h.off
  have HEA := Lib.hid h.each
  clear h
  obtain ⟨n, en⟩ : ∃ n, rs.length = n := ⟨_, rfl⟩
  have EN := Lib.hid en
  obtain ⟨M, eM⟩ : ∃ M, sr rs n = M := ⟨_, rfl⟩
  have EM := Lib.hid eM
  rw [en] at HS HE H0 HAP HEA h1 hk ⊢
  rw [eM] at HE hk ⊢
  clear en eM HNR
  go_enter Try.func40, Try.ntmps40
  go_wp2
  go_loopw [1, 5] (fun q i wz => ∃ (j m : Nat) (wr : World), wr = wz ∧ j ≤ n ∧ q = .int .i64 m ∧ i = .int .i64 j ∧ Hid (m = k + sr rs j ∧ Own wr lo 2 (.slice a n cap) n (mo rs us k j) ∧ (∀ i, i < n → Own wr lo 1 (us i) (rs.getD i (0, [])).2.length (mn rs k j i)) ∧ Turns (.slice a n cap :: (List.range n).map us) w wr)) (fun q i _ => n - (intOf i).toNat)
  case atStart => exact ⟨0, k, _, rfl, by omega, rfl, rfl, Lib.hid ⟨by rw [sr_zero]; omega, H0.out.1, H0.out.2, Turns.refl _ _⟩⟩
  case round =>
    obtain ⟨j, m, wr, rfl, hj, rfl, rfl, HX⟩ := hrel
    by_cases hlt : j < n
    · obtain ⟨b, o, rfl, hb', hc'⟩ := HX.out.2.1.at (by omega)
      obtain ⟨c0, f0⟩ := hc' (j * 2) (by omega)
      obtain ⟨c1, f1⟩ := hc' (j * 2 + 1) (by omega)
      have e1 : mo rs us k j (j * 2 + 1) = us j := by unfold mo; rw [if_neg (by omega), rc1]
      rw [e1, ← Nat.add_assoc] at c1
      rw [← Nat.add_assoc] at f1
      have hoff : ∀ i, i < n → Off (us i) b := fun i hi => HAP.out i hi ⟨b, o, none⟩ n cap rfl (by omega)
      have HOF := Lib.hid hoff
      have hm : m + 1 + (rs.getD j (0, [])).2.length ≤ 10000000 := by have := HX.out.1; have := HE.out j hlt; omega
      have HI := Lib.hid (own_set_off (HX.out.2.2.1 j hlt) (hoff j hlt) (o + j * 2) (.int .i64 (m : Int)))
      obtain ⟨L, eL⟩ : ∃ L, (rs.getD j (0, [])).2.length = L := ⟨_, rfl⟩
      have EL := Lib.hid eL
      rw [eL] at HI hm
      obtain ⟨m1, em1⟩ : ∃ m1, m + 1 = m1 := ⟨_, rfl⟩
      have EM1 := Lib.hid em1
      have x1 : (m : Int) + 1 = (m1 : Int) := by omega
      rw [em1] at hm
      have HM := Lib.hid hm
      have hm1 : m1 ≤ 10000000 := by omega
      obtain ⟨a2, cap2, e2, _, _⟩ := HI.out.sl.form
      have E2 := Lib.hid e2
      rw [e2] at c1 HI
      have hne : us j = .slice a2 L cap2 := e2
      generalize mo rs us k j (j * 2) = d0 at *
      clear hc' hb' hm eL em1 e2 hoff hne e1
      go_wp2_with fail
      refine (LawN.markIntS _ lo _ L _ HI.out m1 HM.out).mono ?_
      rintro e w1 ⟨rfl, ho, ht⟩
      have HP := Lib.hid (show Own w1 lo 2 (.slice (some ⟨b, o, none⟩) n cap) n (mo rs us k (j + 1)) ∧ (∀ i, i < n → Own w1 lo 1 (us i) (rs.getD i (0, [])).2.length (mn rs k (j + 1) i)) ∧ Turns (.slice (some ⟨b, o, none⟩) n cap :: (List.range n).map us) w w1 from by
        have hj1 : Apart (.slice (some ⟨b, o, none⟩) n cap) (.slice a2 L cap2) := E2.out ▸ HAP.out j hlt
        refine ⟨(own_turns (HX.out.2.1.set (j * 2) (by omega) _) ht (fun u hu => by obtain rfl := List.mem_singleton.1 hu; exact hj1)).congr fun l hl => ?_, fun i hi => ?_, (HX.out.2.2.2.set (o := o) (n := n) (cap := cap) (by simp) (by omega) _ _).trans (ht.more (fun u hu => ?_))⟩
        · unfold mo
          by_cases e1 : l = j * 2
          · rw [if_pos e1, if_pos (by omega), e1, mk0, HX.out.1]
          · rw [if_neg e1]
            by_cases h5 : l < j * 2
            · rw [if_pos h5, if_pos (by omega)]
            · rw [if_neg h5]
              by_cases h6 : l < (j + 1) * 2
              · rw [if_pos h6, show l = j * 2 + 1 by omega, mk1, rc1]
              · rw [if_neg h6]
        · by_cases e : i = j
          · subst e
            rw [E2.out, EL.out]
            unfold mn
            rw [if_pos (by omega), ← HX.out.1, EM1.out]
            exact ho
          · refine (own_turns (own_set_off (HX.out.2.2.1 i hi) (HOF.out i hi) (o + j * 2) (.int .i64 (m : Int))) ht (fun u hu => by
              obtain rfl := List.mem_singleton.1 hu
              rw [← E2.out]
              exact HEA.out i j hi hlt e)).congr fun l _ => ?_
            unfold mn
            by_cases h5 : i < j
            · rw [if_pos h5, if_pos (by omega)]
            · rw [if_neg h5, if_neg (by omega)]
        · obtain rfl := List.mem_singleton.1 hu
          rw [← E2.out]
          exact List.mem_cons_of_mem _ (List.mem_map.2 ⟨j, List.mem_range.2 hlt, rfl⟩))
      have HQ := Lib.hid (show m1 + L = k + sr rs (j + 1) by rw [HS.out j hlt, EL.out, ← EM1.out, HX.out.1]; omega)
      obtain ⟨m', em⟩ : ∃ m', m1 + L = m' := ⟨_, rfl⟩
      rw [em] at HQ ⊢
      clear ho ht em c0 f0 c1 f1
      go_wp2
      go_roundw
      case rel => exact ⟨j + 1, m', _, rfl, by omega, by rfl, by go_num, Lib.hid ⟨HQ.out, HP.out⟩⟩
      case measure => simp [intOf]; omega
    · have hj2 := Lib.hid (show j = n by omega)
      go_wp2
      go_ret
      refine ⟨?_, ⟨?_, fun i hi => ?_⟩, HX.out.2.2.2⟩
      · show Ending.returned (Value.int .i64 (m : Int)) = _
        rw [HX.out.1, hj2.out, EM.out]
      · rw [EN.out]
        refine HX.out.2.1.congr fun l hl => ?_
        unfold mo
        rw [if_pos (by rw [hj2.out]; exact hl)]
      · have := HX.out.2.2.1 i (by rw [← EN.out]; exact hi)
        unfold mn at this
        rw [if_pos (by rw [hj2.out, ← EN.out]; exact hi)] at this
        exact this

set_option maxRecDepth 100000 in
set_option maxHeartbeats 800000 in
theorem heldResultS (w : World) (lo : Nat) (v : Value) (rs : List Re) (us : Nat → Value) (k : Nat) (h : MrO w lo v rs us k) (hk : k + sr rs rs.length ≤ 10000000) :
    Calls Try.prog 41 #[v, .int .i64 k] w fun e w' => e = .returned (.int .i64 ((k + sr rs rs.length : Nat) : Int)) ∧ Below w.heap.size w w' := by
  have HS := Lib.hid (sr_succ rs)
  have HE := Lib.hid (sr_le rs)
  have HI0 := Lib.hid h.inn
  obtain ⟨a, cap, rfl, h1, h2, h3⟩ := h.out.sl
  have H3 := Lib.hid h3
  unfold maxLen at h2
  clear h h3
  obtain ⟨n, en⟩ : ∃ n, rs.length = n := ⟨_, rfl⟩
  obtain ⟨M, eM⟩ : ∃ M, sr rs n = M := ⟨_, rfl⟩
  have EM := Lib.hid eM
  rw [en] at HS HE HI0 H3 h1 hk ⊢
  rw [eM] at HE hk ⊢
  clear en eM
  go_enter Try.func41, Try.ntmps41
  go_wp2
  go_loopw [1, 5] (fun q i wz => ∃ (j m : Nat) (wr : World), wr = wz ∧ j ≤ n ∧ q = .int .i64 m ∧ i = .int .i64 j ∧ Hid (m = k + sr rs j ∧ Below w.heap.size w wr)) (fun q i _ => n - (intOf i).toNat)
  case atStart => exact ⟨0, k, _, rfl, by omega, rfl, rfl, Lib.hid ⟨by rw [sr_zero]; omega, Below.refl _ _⟩⟩
  case round =>
    obtain ⟨j, m, wr, rfl, hj, rfl, rfl, HX⟩ := hrel
    by_cases hlt : j < n
    · obtain ⟨b, o, rfl, hc⟩ := H3.out (by omega)
      have c0 := hc (j * 2) (by omega)
      have c1 := hc (j * 2 + 1) (by omega)
      rw [← HX.out.2.cell (World.block_lt_of_cell? w _ c0), mk0, ← HX.out.1] at c0
      rw [← HX.out.2.cell (World.block_lt_of_cell? w _ c1), mk1, ← Nat.add_assoc] at c1
      have hm : m + 1 + (rs.getD j (0, [])).2.length ≤ 10000000 := by have := HX.out.1; have := HE.out j hlt; omega
      have HI := Lib.hid ((HI0.out j hlt).sl.below HX.out.2)
      rw [← HX.out.1] at HI
      obtain ⟨L, eL⟩ : ∃ L, (rs.getD j (0, [])).2.length = L := ⟨_, rfl⟩
      have EL := Lib.hid eL
      obtain ⟨m1, em1⟩ : ∃ m1, m + 1 = m1 := ⟨_, rfl⟩
      have EM1 := Lib.hid em1
      have x1 : (m : Int) + 1 = (m1 : Int) := by omega
      rw [eL, em1] at HI hm
      have HM := Lib.hid hm
      have hm1 : m1 ≤ 10000000 := by omega
      have hm0 : m ≤ 10000000 := by omega
      obtain ⟨a2, cap2, e2, _, _⟩ := HI.out.form
      rw [e2] at c1 HI
      have b1 : ((m : Int) != (m : Int)) = false := by simp
      clear hc hm eL em1 e2
      go_wp2_with fail
      refine (HeldN.heldIntS _ _ L m1 HI.out HM.out).mono ?_
      rintro e w1 ⟨rfl, hb⟩
      have HB := Lib.hid (HX.out.2.trans (hb.mono HX.out.2.size))
      have HQ := Lib.hid (show m1 + L = k + sr rs (j + 1) by rw [HS.out j hlt, EL.out, ← EM1.out, HX.out.1]; omega)
      obtain ⟨m', em⟩ : ∃ m', m1 + L = m' := ⟨_, rfl⟩
      have hm2 : m' ≤ 10000000 := by have := HM.out; omega
      rw [em] at HQ ⊢
      clear em hb c0 c1
      have d0 : decide ((m' : Int) < 0) = false := decide_eq_false (by omega)
      go_wp2
      go_roundw
      case rel => exact ⟨j + 1, m', _, rfl, by omega, by rfl, by go_num, Lib.hid ⟨HQ.out, HB.out⟩⟩
      case measure => simp [intOf]; omega
    · have hj2 := Lib.hid (show j = n by omega)
      go_wp2
      go_ret
      refine ⟨?_, HX.out.2⟩
      show Ending.returned (Value.int .i64 (m : Int)) = _
      rw [HX.out.1, hj2.out, EM.out]
end Go.Proofs.Ytealdpkgfmokpaa.LawRS
