/-
  What is proved: the laws' functions on batches: marked and found marked (contracts for the walks).
-/
import Derived.Test.YtealdpkgfmokpaaRows
import Derived.Test.YtealdpkgfmokpaaLawB
namespace Go.Proofs.Ytealdpkgfmokpaa.LawB2
open Go.ChangeShapes Go.WideShapes Go.ChangeAt Go.RowKit
open Sl (Sl Own Off)
open OpenSl (tc nc pc)
open Dev Orm LawB
open LawN (mi)
set_option linter.unusedVariables false

/-- Inner slice i's cells behind j rounds of marking from k on. -/
def mcell (bss : List (List Bk)) (k j i : Nat) : Nat → Value := if i < j then mi (k + sm bss i * 3) else bc (bss.getD i [])
theorem sm_le (bss : List (List Bk)) (j : Nat) (hj : j < bss.length) : sm bss j + (bss.getD j []).length ≤ sm bss bss.length := by
  rw [← sm_succ bss j hj]
  unfold sm
  conv => rhs; rw [List.take_length, ← List.take_append_drop (j + 1) bss, List.map_append, List.sum_append]
  omega

set_option maxRecDepth 100000 in
set_option maxHeartbeats 800000 in
theorem markTxnS (w : World) (base : Nat) (v : Value) (bss : List (List Bk)) (vs : Nat → Value) (h : NsO w base v bss vs) (k : Nat) (hk : k + sm bss bss.length * 3 ≤ 10000000) :
    Calls Try.prog 39 #[v, .int .i64 k] w fun e w' => e = .returned (.int .i64 ((k + sm bss bss.length * 3 : Nat) : Int)) ∧ Own w' base 1 v bss.length vs ∧ (∀ j, j < bss.length → Own w' base 3 (vs j) (bss.getD j []).length (mi (k + sm bss j * 3))) ∧ Turns ((List.range bss.length).map vs) w w' := by
  have HS := Lib.hid (sm_succ bss)
  have HE := Lib.hid (sm_le bss)
  have HNS := Lib.hid h
  obtain ⟨a, cap, rfl, h1, h2, h3⟩ := h.out
  clear h3 h
  unfold maxLen at h2
  have HAP := Lib.hid HNS.out.off
  have HEA := Lib.hid HNS.out.each
  have H0 := Lib.hid (show Own w base 1 (.slice a bss.length cap) bss.length vs ∧ (∀ i, i < bss.length → Own w base 3 (vs i) (bss.getD i []).length (mcell bss k 0 i)) from ⟨HNS.out.out, fun i hi => by unfold mcell; rw [if_neg (by omega)]; exact HNS.out.inn i hi⟩)
  clear HNS
  generalize eM : sm bss bss.length = M at *
  generalize en : bss.length = n at *
  have EN := Lib.hid en
  have EM := Lib.hid eM
  clear en eM
  go_enter Try.func39, Try.ntmps39
  go_wp2
  go_loopw [1, 5] (fun q i wz => ∃ (j m : Nat) (wr : World), wr = wz ∧ j ≤ n ∧ q = .int .i64 m ∧ i = .int .i64 j ∧ Hid (m = k + sm bss j * 3 ∧ Own wr base 1 (.slice a n cap) n vs ∧ (∀ i, i < n → Own wr base 3 (vs i) (bss.getD i []).length (mcell bss k j i)) ∧ Turns ((List.range n).map vs) w wr)) (fun q i _ => n - (intOf i).toNat)
  case atStart => exact ⟨0, k, _, rfl, by omega, rfl, rfl, Lib.hid ⟨by rw [sm_zero]; omega, H0.out.1, H0.out.2, Turns.refl _ _⟩⟩
  case round =>
    obtain ⟨j, m, wr, rfl, hj, rfl, rfl, HX⟩ := hrel
    by_cases hlt : j < n
    · obtain ⟨b, o, rfl, hb', hc'⟩ := HX.out.2.1.at (by omega)
      have c0 := (hc' j (by omega)).1
      have HI := Lib.hid (HX.out.2.2.1 j hlt)
      have hm : m + (bss.getD j []).length * 3 ≤ 10000000 := by have := HX.out.1; have := HE.out j hlt; omega
      have HM := Lib.hid hm
      have hm2 : m ≤ 10000000 := by omega
      obtain ⟨L, eL⟩ : ∃ L, (bss.getD j []).length = L := ⟨_, rfl⟩
      have EL := Lib.hid eL
      rw [eL] at HI HM
      obtain ⟨a2, cap2, e2, _, _⟩ := HI.out.sl.form
      have E2 := Lib.hid e2
      rw [e2] at c0 HI
      clear hc' hb' hm eL e2
      go_wp2_with fail
      refine (markOpS wr base _ L _ HI.out m HM.out).mono ?_
      rintro e w1 ⟨rfl, ho, ht⟩
      have HP := Lib.hid (show Own w1 base 1 (.slice (some ⟨b, o, none⟩) n cap) n vs ∧ (∀ i, i < n → Own w1 base 3 (vs i) (bss.getD i []).length (mcell bss k (j + 1) i)) ∧ Turns ((List.range n).map vs) w w1 from by
        refine ⟨own_turns HX.out.2.1 ht (fun u hu => ?_), fun i hi => ?_, HX.out.2.2.2.trans (ht.more (fun u hu => ?_))⟩
        · obtain rfl := List.mem_singleton.1 hu
          rw [← E2.out]
          exact HAP.out j hlt
        · by_cases e : i = j
          · subst e
            rw [E2.out, EL.out]
            unfold mcell
            rw [if_pos (by omega), ← HX.out.1]
            exact ho
          · have := own_turns (HX.out.2.2.1 i hi) ht (fun u hu => by
              obtain rfl := List.mem_singleton.1 hu
              rw [← E2.out]
              exact HEA.out i j hi hlt e)
            refine this.congr fun l _ => ?_
            unfold mcell
            by_cases h5 : i < j
            · rw [if_pos h5, if_pos (by omega)]
            · rw [if_neg h5, if_neg (by omega)]
        · obtain rfl := List.mem_singleton.1 hu
          rw [← E2.out]
          exact List.mem_map.2 ⟨j, List.mem_range.2 hlt, rfl⟩)
      have HQ := Lib.hid (show m + L * 3 = k + sm bss (j + 1) * 3 by rw [HS.out j hlt, EL.out, HX.out.1]; omega)
      obtain ⟨m', em⟩ : ∃ m', m + L * 3 = m' := ⟨_, rfl⟩
      rw [em] at HQ ⊢
      clear ho ht em
      go_wp2
      go_roundw
      case rel => exact ⟨j + 1, m', _, rfl, by omega, by rfl, by go_num, Lib.hid ⟨HQ.out, HP.out⟩⟩
      case measure => simp [intOf]; omega
    · have hj2 := Lib.hid (show j = n by omega)
      go_wp2
      go_ret
      refine ⟨?_, HX.out.2.1, fun i hi => ?_, HX.out.2.2.2⟩
      · show Ending.returned (Value.int .i64 (m : Int)) = _
        rw [HX.out.1, hj2.out, EM.out]
      · have := HX.out.2.2.1 i hi
        unfold mcell at this
        rw [if_pos (by rw [hj2.out]; exact hi)] at this
        exact this

end Go.Proofs.Ytealdpkgfmokpaa.LawB2
