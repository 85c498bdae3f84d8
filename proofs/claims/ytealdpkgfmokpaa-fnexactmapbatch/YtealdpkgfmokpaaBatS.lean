/-
  What is proved: the model's BatchOK answers the plain test of a batch (contracts for the walks).
-/
import Derived.Test.YtealdpkgfmokpaaRows
import Derived.Test.YtealdpkgfmokpaaBatB
namespace Go.Proofs.Ytealdpkgfmokpaa.BatS
open Go.ChangeShapes Go.WideShapes Go.ChangeAt Go.RowKit
open Sl (Sl Own Off)
open Dev Orm Box3 OpB BatB
set_option linter.unusedVariables false

set_option maxRecDepth 100000 in
set_option maxHeartbeats 800000 in
theorem l09Txn (w : World) (v : Value) (xs : List Bk) (h : Sl w 3 v xs.length (bc xs)) :
    Calls Try.prog 80 #[.agg #[v]] w fun e w' => e = .returned (.bool (decide (TOk xs))) ∧ Below w.heap.size w w' := by
  obtain ⟨U, e1, hb, hz, c0⟩ := box1 w 55 v
  obtain ⟨G, eG⟩ : ∃ G, w.heap.size = G := ⟨_, rfl⟩
  have HB := Lib.hid (show Below G w U from eG ▸ hb)
  have HZ := Lib.hid (show G < U.heap.size ∧ w.heap.size = G from ⟨by omega, eG⟩)
  have H := Lib.hid (h.below hb)
  rw [eG] at c0
  have HC0 := Lib.hid c0
  have HP := Lib.hid (show Below U.heap.size U U from Below.refl _ _)
  obtain ⟨a, cap, rfl, h1, h2⟩ := h.form
  unfold maxLen at h2
  have HT := Lib.hid (fun k h => all_take (p := Ok) xs (0, 0, 0) k h)
  have HA2 := Lib.hid (show ∀ k : Nat, k < xs.length → ¬ Ok (xs.getD k (0, 0, 0)) → decide (TOk xs) = false from fun k hk hn => decide_eq_false (fun ha => hn (ha.2 _ (getD_mem xs _ k hk))))
  have HA3 := Lib.hid (show (∀ x ∈ xs, Ok x) → decide (TOk xs) = decide ((1 : Int) ≤ xs.length ∧ (xs.length : Int) ≤ 4) from fun ha => decide_eq_decide.2 ⟨fun h => ⟨by have := h.1; omega, by have := h.1; omega⟩, fun h => ⟨by omega, ha⟩⟩)
  have HTL := Lib.hid (List.take_length (l := xs))
  have HL := Lib.hid (fun q (hq : decide ((1 : Int) ≤ xs.length ∧ (xs.length : Int) ≤ 4) = q) u => hq ▸ l01In (xs.length : Int) 1 4 u)
  clear h hb hz
  generalize decide (TOk xs) = Q at *
  obtain ⟨q, eq⟩ : ∃ q, decide ((1 : Int) ≤ xs.length ∧ (xs.length : Int) ≤ 4) = q := ⟨_, rfl⟩
  have HQ := Lib.hid eq
  rw [eq] at HA3
  clear eq
  generalize xs.length = n at *
  go_enter Try.func80, Try.ntmps80
  go_wp2
  clear e1 eG c0
  go_loopw [3] (fun i wz => ∃ (k : Nat) (wr : World), wr = wz ∧ k ≤ n ∧ i = .int .i64 k ∧ Hid (Below U.heap.size U wr ∧ ∀ x ∈ xs.take k, Ok x)) (fun i _ => n - (intOf i).toNat)
  case atStart => exact ⟨0, _, rfl, by omega, rfl, Lib.hid ⟨HP.out, by simp⟩⟩
  case round =>
    obtain ⟨k, wr, rfl, hk, rfl, HJ⟩ := hrel
    have c0 := (HJ.out.1.cell (World.block_lt_of_cell? U _ HC0.out)).trans HC0.out
    by_cases hlt : k < n
    · obtain ⟨b, o, rfl, hc⟩ := H.out.at (by omega)
      have d0 := hc (k * 3) (by omega)
      have d1 := hc (k * 3 + 1) (by omega)
      have d2 := hc (k * 3 + 2) (by omega)
      rw [← HJ.out.1.cell (World.block_lt_of_cell? U _ d0), bc0] at d0
      rw [← HJ.out.1.cell (World.block_lt_of_cell? U _ d1), bc1, ← Nat.add_assoc] at d1
      rw [← HJ.out.1.cell (World.block_lt_of_cell? U _ d2), bc2, ← Nat.add_assoc] at d2
      have HTK := Lib.hid (HT.out k hlt HJ.out.2)
      have HAK := Lib.hid (HA2.out k hlt)
      clear hc
      generalize xs.getD k (0, 0, 0) = y at *
      obtain ⟨y0, y1, y2⟩ := y
      simp only at d0 d1 d2
      go_wp2_with fail
      refine (specOk wr y0 y1 y2).mono ?_
      rintro e w1 ⟨rfl, hb⟩
      have HB2 := Lib.hid (HJ.out.1.trans (hb.mono HJ.out.1.size))
      clear hb c0 d0 d1 d2
      have c0 := (HB2.out.cell (World.block_lt_of_cell? U _ HC0.out)).trans HC0.out
      by_cases hy : Ok (y0, y1, y2)
      · rw [decide_eq_true hy]
        have HN := Lib.hid (HTK.out hy)
        clear hy
        go_wp2
        go_roundw
        case rel => exact ⟨k + 1, _, rfl, by omega, by go_num, Lib.hid ⟨HB2.out, HN.out⟩⟩
        case measure => simp [intOf]; omega
      · rw [decide_eq_false hy]
        have HR := Lib.hid (HAK.out hy)
        clear hy
        go_wp2
        go_ret
        exact ⟨by first | rfl | (rw [HR.out]; rfl), by first | exact HB.out.trans (HB2.out.mono (by have := HZ.out; omega)) | (rw [HZ.out.2]; exact HB.out.trans (HB2.out.mono (by have := HZ.out; omega)))⟩
    · have HR := Lib.hid (HA3.out (by
        obtain rfl : k = n := by omega
        have := HJ.out.2
        rwa [HTL.out] at this))
      go_wp2_with fail
      refine (HL.out q HQ.out _).mono ?_
      rintro e w1 ⟨rfl, rfl⟩
      go_wp2_with fail
      go_ret
      exact ⟨by first | rfl | (rw [HR.out]; rfl), by first | exact HB.out.trans (HJ.out.1.mono (by have := HZ.out; omega)) | (rw [HZ.out.2]; exact HB.out.trans (HJ.out.1.mono (by have := HZ.out; omega)))⟩
set_option maxRecDepth 100000 in
set_option maxHeartbeats 800000 in
theorem specOk (w : World) (v : Value) (bss : List (List Bk)) (h : Ns w v bss) :
    Calls Try.prog 92 #[v] w fun e w' => e = .returned (.bool (decide (BOk bss))) ∧ Below w.heap.size w w' := by
  obtain ⟨vs, ⟨a, cap, rfl, h1, h2, h3⟩, hin⟩ := h
  have H3 := Lib.hid h3
  have HI := Lib.hid hin
  unfold maxLen at h2
  clear h3 hin
  have HL := Lib.hid (fun q (hq : decide ((1 : Int) ≤ bss.length ∧ (bss.length : Int) ≤ 2) = q) u => hq ▸ l01In (bss.length : Int) 1 2 u)
  by_cases hl : 4096 < bss.length
  · have e : decide (BOk bss) = false := decide_eq_false (fun h => by have := h.1; omega)
    rw [e]
    clear e
    go_enter Try.func92, Try.ntmps92
    go_wp2_with fail
    go_ret
    exact ⟨rfl, Below.refl _ _⟩
  by_cases hl2 : 1 ≤ bss.length ∧ bss.length ≤ 2
  case neg =>
    have e : decide (BOk bss) = false := decide_eq_false (fun h => hl2 h.1)
    have HQ := Lib.hid (decide_eq_false (show ¬ ((1 : Int) ≤ bss.length ∧ (bss.length : Int) ≤ 2) by omega))
    rw [e]
    clear e hl2
    go_enter Try.func92, Try.ntmps92
    go_wp2_with fail
    refine (HL.out false HQ.out _).mono ?_
    rintro e w1 ⟨rfl, rfl⟩
    go_wp2_with fail
    go_ret
    exact ⟨rfl, Below.refl _ _⟩
  have HQ := Lib.hid (decide_eq_true (show (1 : Int) ≤ bss.length ∧ (bss.length : Int) ≤ 2 by omega))
  have HT := Lib.hid (fun k h => all_take (p := TOk) bss [] k h)
  have HA2 := Lib.hid (show ∀ k : Nat, k < bss.length → ¬ TOk (bss.getD k []) → decide (BOk bss) = false from fun k hk hn => decide_eq_false (fun ha => hn (ha.2 _ (getD_mem bss _ k hk))))
  have HA3 := Lib.hid (show (∀ x ∈ bss, TOk x) → decide (BOk bss) = true from fun ha => decide_eq_true ⟨hl2, ha⟩)
  have HTL := Lib.hid (List.take_length (l := bss))
  have hn2 : bss.length ≤ 2 := hl2.2
  clear hl2
  generalize decide (BOk bss) = Q at *
  generalize bss.length = n at *
  go_enter Try.func92, Try.ntmps92
  go_wp2_with fail
  refine (HL.out true HQ.out _).mono ?_
  rintro e w1 ⟨rfl, rfl⟩
  go_wp2
  go_loopw [3] (fun i wz => ∃ (k : Nat) (wr : World), wr = wz ∧ k ≤ n ∧ i = .int .i64 k ∧ Hid (Below w1.heap.size w1 wr ∧ ∀ x ∈ bss.take k, TOk x)) (fun i _ => n - (intOf i).toNat)
  case atStart => exact ⟨0, _, rfl, by omega, rfl, Lib.hid ⟨Below.refl _ _, by simp⟩⟩
  case round =>
    obtain ⟨k, wr, rfl, hk, rfl, HJ⟩ := hrel
    by_cases hlt : k < n
    · obtain ⟨b, o, rfl, hc⟩ := H3.out (by omega)
      have c0 := hc k (by omega)
      rw [← HJ.out.1.cell (World.block_lt_of_cell? _ _ c0)] at c0
      have HV := Lib.hid ((HI.out k hlt).below HJ.out.1)
      have HTK := Lib.hid (HT.out k hlt HJ.out.2)
      have HAK := Lib.hid (HA2.out k hlt)
      clear hc
      generalize bss.getD k [] = xs at *
      obtain ⟨a', cap', e9, _, _⟩ := HV.out.form
      rw [e9] at c0 HV
      go_wp2_with fail
      refine (l09Txn wr _ xs HV.out).mono ?_
      rintro e w2 ⟨rfl, hb⟩
      have HB := Lib.hid (HJ.out.1.trans (hb.mono HJ.out.1.size))
      clear hb
      by_cases hy : TOk xs
      · rw [decide_eq_true hy]
        have HN := Lib.hid (HTK.out hy)
        clear hy e9
        go_wp2
        go_roundw
        case rel => exact ⟨k + 1, _, rfl, by omega, by go_num, Lib.hid ⟨HB.out, HN.out⟩⟩
        case measure => simp [intOf]; omega
      · rw [decide_eq_false hy]
        have HR := Lib.hid (HAK.out hy)
        clear hy e9
        go_wp2
        go_ret
        exact ⟨by rw [HR.out]; rfl, HB.out⟩
    · have HR := Lib.hid (HA3.out (by
        obtain rfl : k = n := by omega
        have := HJ.out.2
        rwa [HTL.out] at this))
      go_wp2
      go_ret
      exact ⟨by rw [HR.out]; rfl, HJ.out.1⟩
end Go.Proofs.Ytealdpkgfmokpaa.BatS
