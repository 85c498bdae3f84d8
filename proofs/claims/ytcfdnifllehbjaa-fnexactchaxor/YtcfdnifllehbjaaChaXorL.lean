/-
  What is proved: both calls that xor a text with the stream answer one plain function; the law on them returns true (the walk).
-/
import Derived.Test.YtcfdnifllehbjaaRows
import Derived.Test.YtcfdnifllehbjaaChaXorI
namespace Go.Proofs.Ytcfdnifllehbjaa.ChaXorL
open Go.ChangeShapes Go.WideShapes Go.ChangeAt Go.RowKit
open ChaBlk (fault)
open SpXor (xorS)
set_option linter.unusedVariables false

/-- What both answer. -/
def res (key nonce : ByteArray) (count : Int) (t : ByteArray) : Value :=
  if 65536 < t.size then .tuple #[.string ⟨#[]⟩, .int .i64 2]
  else if fault key nonce count = 0 then .tuple #[.string (xorS key nonce count.toNat t), .int .i64 0] else .tuple #[.string ⟨#[]⟩, .int .i64 (fault key nonce count)]

theorem impl (key nonce : ByteArray) (count : Int) (t : ByteArray) (hk : key.size ≤ maxLen) (hn : nonce.size ≤ maxLen) (ht : t.size ≤ maxLen) (w : World) :
    Calls Try.prog 9 #[.string key, .string nonce, .int .i64 count, .string t] w fun e w' => e = .returned (res key nonce count t) ∧ Below w.heap.size w w' := by
  unfold res
  by_cases h1 : 65536 < t.size
  · rw [if_pos h1]
    unfold maxLen at ht
    go_enter Try.func9, Try.ntmps9
    go_wp2_with fail
    go_ret2
    exact ⟨rfl, Below.refl _ _⟩
  · rw [if_neg h1]
    rcases ChaBlk.fault_cases key nonce count with h | h
    · rw [if_pos h]
      obtain ⟨q1, q2, q3, q4⟩ := ChaBlk.fault_zero h
      obtain ⟨n, rfl⟩ := Int.eq_ofNat_of_zero_le q3
      have HS := Lib.hid (ChaBlk.streamFault key nonce (n : Int) hk hn)
      rw [h] at HS
      have HX := Lib.hid (ChaXorI.chaXor key nonce q1 q2 n (by omega) t (by omega))
      have HR := Lib.hid (show xorS key nonce ((n : Int)).toNat t = xorS key nonce n t from rfl)
      rw [HR.out]
      generalize xorS key nonce n t = bk at *
      have d1 : decide (65536 < (t.size : Int)) = false := decide_eq_false (by omega)
      clear h hk hn ht h1 q1 q2 q3 q4
      go_enter Try.func9, Try.ntmps9
      go_wp2_with fail
      refine (HS.out _).mono ?_
      rintro e w0 ⟨rfl, rfl⟩
      go_wp2_with fail
      refine (HX.out _).mono ?_
      rintro e w1 ⟨rfl, hb1⟩
      have HB1 := Lib.hid hb1
      clear hb1
      go_wp2
      go_ret2
      exact ⟨rfl, HB1.out⟩
    · rw [if_neg (by simpa using h)]
      have HS := Lib.hid (ChaBlk.streamFault key nonce count hk hn)
      have d1 : decide (65536 < (t.size : Int)) = false := decide_eq_false (by omega)
      clear hk hn ht h1
      go_enter Try.func9, Try.ntmps9
      go_wp2_with fail
      refine (HS.out _).mono ?_
      rintro e w0 ⟨rfl, rfl⟩
      go_wp2
      go_ret2
      exact ⟨rfl, Below.refl _ _⟩

theorem spec (key nonce : ByteArray) (count : Int) (t : ByteArray) (hk : key.size ≤ maxLen) (hn : nonce.size ≤ maxLen) (ht : t.size ≤ maxLen) (w : World) :
    Calls Try.prog 10 #[.string key, .string nonce, .int .i64 count, .string t] w fun e w' => e = .returned (res key nonce count t) ∧ Below w.heap.size w w' := by
  have HS := Lib.hid (SpCha3.askM key nonce count hk hn)
  unfold res
  unfold maxLen at hk hn ht
  by_cases h1 : 65536 < key.size
  · have hf : fault key nonce count = 2 := by unfold fault; rw [if_pos (.inl h1)]
    rw [hf, if_neg (show ¬ (2 : Int) = 0 by omega), ite_self]
    clear hf
    go_enter Try.func10, Try.ntmps10
    go_wp2_with fail
    go_ret2
    exact ⟨rfl, Below.refl _ _⟩
  have d1 : decide (65536 < (key.size : Int)) = false := decide_eq_false (by omega)
  by_cases h2 : 65536 < nonce.size
  · have hf : fault key nonce count = 2 := by unfold fault; rw [if_pos (.inr h2)]
    rw [hf, if_neg (show ¬ (2 : Int) = 0 by omega), ite_self]
    clear hf
    go_enter Try.func10, Try.ntmps10
    go_wp2_with fail
    go_ret2
    exact ⟨rfl, Below.refl _ _⟩
  have d2 : decide (65536 < (nonce.size : Int)) = false := decide_eq_false (by omega)
  by_cases h3 : 65536 < t.size
  · rw [if_pos h3]
    go_enter Try.func10, Try.ntmps10
    go_wp2_with fail
    go_ret2
    exact ⟨rfl, Below.refl _ _⟩
  have d3 : decide (65536 < (t.size : Int)) = false := decide_eq_false (by omega)
  rw [if_neg h3]
  have hf : fault key nonce count = ChaBlk.ask key nonce count := by unfold fault; rw [if_neg (by omega)]
  rcases ChaBlk.fault_cases key nonce count with h | h
  · rw [if_pos h]
    obtain ⟨q1, q2, q3, q4⟩ := ChaBlk.fault_zero h
    obtain ⟨n, rfl⟩ := Int.eq_ofNat_of_zero_le q3
    rw [← hf, h] at HS
    have HF := Lib.hid (SpXor.xorM key nonce q1 q2 n (by omega) t (by omega))
    have HR := Lib.hid (show xorS key nonce ((n : Int)).toNat t = xorS key nonce n t from rfl)
    rw [HR.out]
    generalize xorS key nonce n t = bk at *
    clear h h1 h2 h3 hf q1 q2 q3 q4 hk hn ht
    go_enter Try.func10, Try.ntmps10
    go_wp2_with fail
    refine (HS.out _).mono ?_
    rintro e w0 ⟨rfl, rfl⟩
    go_wp2_with fail
    refine (HF.out _).mono ?_
    rintro e w1 ⟨rfl, hb1⟩
    have HB1 := Lib.hid hb1
    clear hb1
    go_wp2
    go_ret2
    exact ⟨rfl, HB1.out⟩
  · rw [if_neg (by simpa using h)]
    rw [← hf] at HS
    clear hf h1 h2 h3 hk hn ht
    go_enter Try.func10, Try.ntmps10
    go_wp2_with fail
    refine (HS.out _).mono ?_
    rintro e w0 ⟨rfl, rfl⟩
    go_wp2
    go_ret2
    exact ⟨rfl, Below.refl _ _⟩
theorem res_form (key nonce : ByteArray) (count : Int) (t : ByteArray) : ∃ (s : ByteArray) (c : Int), res key nonce count t = .tuple #[.string s, .int .i64 c] := by
  unfold res
  split
  · exact ⟨_, _, rfl⟩
  · split
    · exact ⟨_, _, rfl⟩
    · exact ⟨_, _, rfl⟩

theorem walk (a b : ByteArray) (n : Int) (t : ByteArray) (ha : a.size ≤ maxLen) (hb : b.size ≤ maxLen) (ht : t.size ≤ maxLen) (w : World) :
    Calls Try.prog 4 #[.string a, .string b, .int .i64 n, .string t] w fun e w' => e = .returned (.bool true) ∧ Below w.heap.size w w' := by
  by_cases h1 : 1048576 < a.size
  · unfold maxLen at ha
    go_enter Try.func4, Try.ntmps4
    go_wp2_with fail
    go_ret
    exact ⟨rfl, Below.refl _ _⟩
  have d1 : decide (1048576 < (a.size : Int)) = false := decide_eq_false (by omega)
  by_cases h2 : 1048576 < b.size
  · unfold maxLen at hb
    go_enter Try.func4, Try.ntmps4
    go_wp2_with fail
    go_ret
    exact ⟨rfl, Below.refl _ _⟩
  have d2 : decide (1048576 < (b.size : Int)) = false := decide_eq_false (by omega)
  by_cases h3 : 1048576 < t.size
  · unfold maxLen at ht
    go_enter Try.func4, Try.ntmps4
    go_wp2_with fail
    go_ret
    exact ⟨rfl, Below.refl _ _⟩
  have d3 : decide (1048576 < (t.size : Int)) = false := decide_eq_false (by omega)
  obtain ⟨s, c, hres⟩ := res_form a b n t
  have HRES := Lib.hid hres
  clear hres
  go_enter Try.func4, Try.ntmps4
  go_wp2_with fail
  refine (spec a b n t ha hb ht _).mono ?_
  rw [HRES.out]
  rintro e w1 ⟨rfl, hb1⟩
  have HB := Lib.hid hb1
  clear hb1
  go_wp2_with fail
  refine (impl a b n t ha hb ht _).mono ?_
  rw [HRES.out]
  rintro e w2 ⟨rfl, hb2⟩
  have HB2 := Lib.hid hb2
  clear hb2
  go_wp2
  go_ret
  exact ⟨rfl, HB.out.trans (HB2.out.mono HB.out.size)⟩
end Go.Proofs.Ytcfdnifllehbjaa.ChaXorL
