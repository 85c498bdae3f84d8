/-
  What is proved: the model's call of a block answers what the program's does; the law on them returns true (the walk).
-/
import Derived.Test.YtehdiabkpaoekaaRows
import Derived.Test.YtehdiabkpaoekaaSpCha2
namespace Go.Proofs.Ytehdiabkpaoekaa.SpCha3
open Go.ChangeShapes Go.WideShapes Go.ChangeAt Go.RowKit
open ChaBlk (blkT fault res)
set_option linter.unusedVariables false

theorem askM (key nonce : ByteArray) (count : Int) (hk : key.size ≤ maxLen) (hn : nonce.size ≤ maxLen) (w : World) :
    Calls Try.prog 30 #[.string key, .string nonce, .int .i64 count] w fun e w' => e = .returned (.int .i64 (ChaBlk.ask key nonce count)) ∧ w = w' := by
  unfold maxLen at hk hn
  unfold ChaBlk.ask
  by_cases h3 : key.size = 32
  · have e3 : ((key.size : Int) != 32) = false := by simp; omega
    by_cases h4 : nonce.size = 12
    · have e4 : ((nonce.size : Int) != 12) = false := by simp; omega
      rw [if_neg (by omega)]
      by_cases h5 : count < 0
      · rw [if_pos (.inl h5)]
        have d5 : decide (0 ≤ count) = false := decide_eq_false (by omega)
        clear h3 h4 h5
        go_enter Try.func30, Try.ntmps30
        go_wp2
        go_ret
        exact ⟨rfl, rfl⟩
      · have d5 : decide (0 ≤ count) = true := decide_eq_true (by omega)
        by_cases h6 : 1000000000 < count
        · rw [if_pos (.inr h6)]
          have d6 : decide (count ≤ 1000000000) = false := decide_eq_false (by omega)
          clear h3 h4 h5 h6
          go_enter Try.func30, Try.ntmps30
          go_wp2
          go_ret
          exact ⟨rfl, rfl⟩
        · have d6 : decide (count ≤ 1000000000) = true := decide_eq_true (by omega)
          rw [if_neg (by omega)]
          clear h3 h4 h5 h6
          go_enter Try.func30, Try.ntmps30
          go_wp2
          go_ret
          exact ⟨rfl, rfl⟩
    · have e4 : ((nonce.size : Int) != 12) = true := by simp; omega
      rw [if_pos (.inr h4)]
      clear h3 h4
      go_enter Try.func30, Try.ntmps30
      go_wp2
      go_ret
      exact ⟨rfl, rfl⟩
  · have e3 : ((key.size : Int) != 32) = true := by simp; omega
    rw [if_pos (.inl h3)]
    clear h3
    go_enter Try.func30, Try.ntmps30
    go_wp2
    go_ret
    exact ⟨rfl, rfl⟩

theorem spec (key nonce : ByteArray) (count : Int) (hk : key.size ≤ maxLen) (hn : nonce.size ≤ maxLen) (w : World) :
    Calls Try.prog 20 #[.string key, .string nonce, .int .i64 count] w fun e w' => e = .returned (res key nonce count) ∧ Below w.heap.size w w' := by
  have HS := Lib.hid (askM key nonce count hk hn)
  unfold res
  unfold maxLen at hk hn
  by_cases h1 : 65536 < key.size
  · have hf : fault key nonce count = 2 := by unfold fault; rw [if_pos (.inl h1)]
    rw [hf, if_neg (by omega)]
    clear hf
    go_enter Try.func20, Try.ntmps20
    go_wp2_with fail
    go_ret2
    exact ⟨rfl, Below.refl _ _⟩
  have d1 : decide (65536 < (key.size : Int)) = false := decide_eq_false (by omega)
  by_cases h2 : 65536 < nonce.size
  · have hf : fault key nonce count = 2 := by unfold fault; rw [if_pos (.inr h2)]
    rw [hf, if_neg (by omega)]
    clear hf
    go_enter Try.func20, Try.ntmps20
    go_wp2_with fail
    go_ret2
    exact ⟨rfl, Below.refl _ _⟩
  have d2 : decide (65536 < (nonce.size : Int)) = false := decide_eq_false (by omega)
  have hf : fault key nonce count = ChaBlk.ask key nonce count := by unfold fault; rw [if_neg (by omega)]
  rcases ChaBlk.fault_cases key nonce count with h | h
  · rw [if_pos h]
    obtain ⟨q1, q2, q3, q4⟩ := ChaBlk.fault_zero h
    obtain ⟨n, rfl⟩ := Int.eq_ofNat_of_zero_le q3
    rw [← hf, h] at HS
    have HF := Lib.hid (SpCha2.block key nonce q1 q2 n (by omega))
    have HR := Lib.hid (show blkT key nonce ((n : Int)).toNat = blkT key nonce n from rfl)
    rw [HR.out]
    generalize blkT key nonce n = bk at *
    clear h h1 h2 hf q1 q2 q3 q4 hk hn
    go_enter Try.func20, Try.ntmps20
    go_wp2_with fail
    refine (HS.out _).mono ?_
    rintro e w0 ⟨rfl, rfl⟩
    go_wp2_with fail
    refine (HF.out _).mono ?_
    rintro e w1 ⟨rfl, hb1⟩
    have HB1 := Lib.hid hb1
    clear hb1
    go_wp2
    go_ret2
    exact ⟨rfl, HB1.out⟩
  · rw [if_neg (by simpa using h)]
    rw [← hf] at HS
    clear hf h1 h2 hk hn
    go_enter Try.func20, Try.ntmps20
    go_wp2_with fail
    refine (HS.out _).mono ?_
    rintro e w0 ⟨rfl, rfl⟩
    go_wp2
    go_ret2
    exact ⟨rfl, Below.refl _ _⟩
theorem res_form (key nonce : ByteArray) (count : Int) : ∃ (s : ByteArray) (c : Int), res key nonce count = .tuple #[.string s, .int .i64 c] := by
  unfold res
  split
  · exact ⟨_, _, rfl⟩
  · exact ⟨_, _, rfl⟩

theorem walk (a b : ByteArray) (n : Int) (ha : a.size ≤ maxLen) (hb : b.size ≤ maxLen) (w : World) :
    Calls Try.prog 5 #[.string a, .string b, .int .i64 n] w fun e w' => e = .returned (.bool true) ∧ Below w.heap.size w w' := by
  by_cases h1 : 1048576 < a.size
  · unfold maxLen at ha
    go_enter Try.func5, Try.ntmps5
    go_wp2_with fail
    go_ret
    exact ⟨rfl, Below.refl _ _⟩
  · have d1 : decide (1048576 < (a.size : Int)) = false := decide_eq_false (by omega)
    by_cases h2 : 1048576 < b.size
    · unfold maxLen at hb
      go_enter Try.func5, Try.ntmps5
      go_wp2_with fail
      go_ret
      exact ⟨rfl, Below.refl _ _⟩
    · have d2 : decide (1048576 < (b.size : Int)) = false := decide_eq_false (by omega)
      obtain ⟨s, c, hres⟩ := res_form a b n
      have HRES := Lib.hid hres
      clear hres
      go_enter Try.func5, Try.ntmps5
      go_wp2_with fail
      refine (spec a b n ha hb _).mono ?_
      rw [HRES.out]
      rintro e w1 ⟨rfl, hb1⟩
      have HB := Lib.hid hb1
      clear hb1
      go_wp2_with fail
      refine (ChaBlk.impl a b n ha hb _).mono ?_
      rw [HRES.out]
      rintro e w2 ⟨rfl, hb2⟩
      have HB2 := Lib.hid hb2
      clear hb2
      go_wp2
      go_ret
      exact ⟨rfl, HB.out.trans (HB2.out.mono HB.out.size)⟩
end Go.Proofs.Ytehdiabkpaoekaa.SpCha3
