/-
  What is proved: the model's root of a list of leaves, and its proof of a leaf, with their codes, the proof in new memory (contracts for the walks).
-/
import Derived.Test.YtemlmffoehclhaaDoorRows
import Derived.Test.YtemlmffoehclhaaDoorTree6
namespace Go.Proofs.YtemlmffoehclhaaDoor.Tree7
open Go.ChangeShapes Go.WideShapes Go.ChangeAt Go.RowKit
open Sl (Sl Own Off)
open OpenSl (tc nc pc)
open Dev
open Tree1 (joinT)
open Tree2 (lv lv_size tx sc tc_sc ask_zero)
open Tree4 Tree6
set_option linter.unusedVariables false

theorem half (k n : Nat) (hk : k < 4) (h : n * 2 ^ k = 16) : ∃ m, n = 2 * m ∧ m ≤ 8 ∧ 1 ≤ m ∧ m * 2 ^ (k + 1) = 16 := by
  refine ⟨n / 2, ?_⟩
  obtain rfl | rfl | rfl | rfl : k = 0 ∨ k = 1 ∨ k = 2 ∨ k = 3 := by omega
  all_goals (simp at h ⊢; omega)
theorem last (n : Nat) (h : n * 2 ^ 4 = 16) : n = 1 := by simp at h; omega
theorem sc_next (L : Nat → Nat → ByteArray) (hL : ∀ k j, L (k + 1) j = joinT (L k (2 * j)) (L k (2 * j + 1))) (k : Nat) : (sc fun j => joinT (L k (2 * j)) (L k (2 * j + 1))) = sc (L (k + 1)) := by
  funext j
  unfold sc
  rw [hL]

set_option maxRecDepth 100000 in
set_option maxHeartbeats 1600000 in
theorem l07Root (w : World) (v : Value) (f : Nat → ByteArray) (hf : ∀ j, (f j).size ≤ 700) (h : Sl w 1 v 16 (sc f)) :
    Calls Tryd.prog 53 #[v] w fun e w' => e = .returned (.string (lv f 4 0)) ∧ Below w.heap.size w w' := by
  have HLS := Lib.hid (show ∀ k j, lv f (k + 1) j = joinT (lv f k (2 * j)) (lv f k (2 * j + 1)) from fun _ _ => rfl)
  have HSZ := Lib.hid (lv_size f)
  have HL := Lib.hid (Tree2.l07Leaves w v 16 (by omega) f hf h)
  generalize lv f = L at *
  clear h hf
  go_enter Tryd.func53, Tryd.ntmps53
  go_wp2_with fail
  refine HL.out.mono ?_
  rintro e w1 ⟨r1, rfl, ho, hb⟩
  have HO1 := Lib.hid ho
  have HB1 := Lib.hid hb
  clear ho hb HL
  go_wp2_with fail
  go_loopg [3] 4 (fun g s3 wz => ∃ (k n : Nat) (wr : World), wr = wz ∧ k + g = 4 ∧ Hid (n * 2 ^ k = 16) ∧ Hid (Own wr w.heap.size 1 s3 n (sc (L k))) ∧ Hid (Below w.heap.size w wr))
  case atStart => exact ⟨0, 16, _, rfl, by omega, Lib.hid rfl, HO1, HB1⟩
  case round =>
    obtain ⟨k, n, wr, rfl, hkg, HN, HO, HB⟩ := hrel
    obtain ⟨ad, cap, rfl, h1, h2⟩ := HO.out.sl.form
    unfold maxLen at h2
    cases gk with
    | zero =>
      have HK := Lib.hid (show k = 4 by omega)
      obtain ⟨b, o, rfl, hc⟩ := HO.out.sl.at (by have := HN.out; rw [HK.out] at this; have := last n this; omega)
      have HN1 := Lib.hid (last n (by have := HN.out; rw [HK.out] at this; exact this))
      have c0 := hc 0 (by have := HN1.out; omega)
      rw [Nat.add_zero, HK.out] at c0
      unfold sc at c0
      have hn1 : ¬ (1 : Int) < (n : Int) := by have := HN1.out; omega
      have hn0 : (0 : Int) < (n : Int) := by have := HN1.out; omega
      obtain ⟨X, HX⟩ : ∃ X, Hid (X = L 4 0) := ⟨_, Lib.hid rfl⟩
      rw [← HX.out] at c0
      clear hc hkg
      go_wp2
      go_ret
      exact ⟨by rw [HX.out]; rfl, HB.out⟩
    | succ g =>
      obtain ⟨m, e1, e2, e3, e4⟩ := half k n (by omega) HN.out
      have hn1 : (1 : Int) < (n : Int) := by omega
      have HV := Lib.hid (Tree2.l07Level wr _ m n e1 e2 (L k) (HSZ.out k) HO.out.sl)
      rw [sc_next L HLS.out k] at HV
      have HM := Lib.hid e4
      have HKG := Lib.hid hkg
      clear e1 e4 hkg
      go_wp2_with fail
      refine HV.out.mono ?_
      rintro e w2 ⟨r2, rfl, ho, hb⟩
      have HO2 := Lib.hid (ho.base (base' := w.heap.size) HB.out.size)
      have HB2 := Lib.hid (HB.out.trans (hb.mono HB.out.size))
      clear ho hb HV
      go_wp2_with fail
      go_roundg g
      case measure => omega
      case rel => exact ⟨k + 1, m, _, rfl, by have := HKG.out; omega, HM, HO2, HB2⟩

set_option maxRecDepth 100000 in
set_option maxHeartbeats 1600000 in
theorem rootSpec (w : World) (v : Value) (ts : List ByteArray) (h : Sl w 1 v ts.length (tc ts)) (hs : ∀ s ∈ ts, s.size ≤ maxLen) :
    Calls Tryd.prog 23 #[v] w fun e w' => e = .returned (.tuple #[.string (rootR ts).1, .int .i64 (rootR ts).2]) ∧ Below w.heap.size w w' := by
  have HA := Lib.hid (Tree2.l07Ask w v ts h hs)
  unfold rootR
  by_cases h0 : Tree2.ask ts = 0
  · rw [if_pos h0]
    rw [h0] at HA
    obtain ⟨hn, hf⟩ := ask_zero ts h0
    rw [hn, tc_sc] at h
    have HG := Lib.hid (l07Root w v (tx ts) hf h)
    obtain ⟨ad, cap, rfl, _, _⟩ := h.form
    generalize lv (tx ts) = L at *
    generalize L 4 0 = X at *
    clear h hs h0 hn hf
    go_enter Tryd.func23, Tryd.ntmps23
    go_wp2_with fail
    refine HA.out.mono ?_
    rintro e w1 ⟨rfl, rfl⟩
    go_wp2_with fail
    refine HG.out.mono ?_
    rintro e w2 ⟨rfl, hb⟩
    have HB := Lib.hid hb
    clear hb
    go_wp2
    go_ret2
    exact ⟨rfl, HB.out⟩
  · rw [if_neg h0]
    obtain ⟨ad, cap, rfl, g1, g2⟩ := h.form
    unfold maxLen at g2
    by_cases hl : 4096 < ts.length
    · rw [Tree2.ask_long ts hl]
      clear h hs h0 HA
      generalize ts.length = n at *
      go_enter Tryd.func23, Tryd.ntmps23
      go_wp2
      go_ret2
      exact ⟨rfl, Below.refl _ _⟩
    · generalize Tree2.ask ts = c at *
      have b0 : (c != 0) = true := by simp; exact h0
      clear h hs h0
      generalize ts.length = n at *
      go_enter Tryd.func23, Tryd.ntmps23
      go_wp2_with fail
      refine HA.out.mono ?_
      rintro e w1 ⟨rfl, rfl⟩
      go_wp2
      go_ret2
      exact ⟨rfl, Below.refl _ _⟩
end Go.Proofs.YtemlmffoehclhaaDoor.Tree7
