/-
  What is proved: errors with a place are told by their code; which numbers have a nonce; both ways to a block's nonce answer one plain text (contracts for the walks); the exact law on nonces returns true (the walk), where the package's errors and errors' own variable stand in their places.
-/
import Derived.Test.YtggobhpjfflooaaGreatDoorRows
import Derived.Test.YtggobhpjfflooaaGreatDoorAs
import Derived.Test.YtggobhpjfflooaaGreatDoorLow
namespace Go.Proofs.YtggobhpjfflooaaGreatDoor.Nonce
open Go.ChangeShapes Go.WideShapes Go.ChangeAt Go.RowKit
open Arr (Row)
open Bytes (BV Owns)
open Low (b8 b8_length lenT lenT_size)
open As (pv Hnd)
set_option linter.unusedVariables false

theorem code_nil (w : World) : Calls Tryz.prog 21 #[.nilIface] w fun e w' => e = .returned (.int .i64 0) ∧ Below w.heap.size w w' := by
  go_enter Tryz.func21, Tryz.ntmps21
  go_wp2_with fail
  refine (As.as_nil _ _).mono ?_
  rintro e w1 ⟨rfl, rfl⟩
  go_wp2_with fail
  refine (BoxErr.code_nil _).mono ?_
  rintro e w1 ⟨rfl, rfl⟩
  go_wp2
  go_ret
  exact ⟨rfl, (Below.refl _ _).alloc (Nat.le_refl _) _⟩
theorem code_hit (p c : Int) (w : World) (H : Hnd w) : Calls Tryz.prog 21 #[pv p c] w fun e w' => e = .returned (.int .i64 c) ∧ Below w.heap.size w w' := by
  have HA := Lib.hid (As.as_hit p c w.heap.size (.int .i64 0) (.int .i64 0) (w.alloc (.cells #[.int .i64 0, .int .i64 0] 64)) (H.below ((Below.refl _ _).alloc (Nat.le_refl _) _)) (As.run_new w _ _))
  go_enter Tryz.func21, Tryz.ntmps21
  go_wp2_with fail
  refine (HA.out).mono ?_
  rintro e w1 ⟨rfl, c0, c1, hb⟩
  have HB := Lib.hid (((Below.refl w.heap.size w).alloc (Nat.le_refl _) _).trans hb)
  clear hb
  go_wp2
  go_ret
  exact ⟨rfl, HB.out⟩

/-- A sector's number. -/
def In (z : Int) : Prop := 0 ≤ z ∧ z < 40
instance (z : Int) : Decidable (In z) := by unfold In; infer_instance
/-- The numbers that have a nonce. -/
def Ok (k p e : Int) : Prop := 1 ≤ k ∧ k ≤ 3 ∧ In p ∧ 0 ≤ e ∧ e ≤ 1099511627776
instance (k p e : Int) : Decidable (Ok k p e) := by unfold Ok; infer_instance

theorem isSector (z : Int) (w : World) : Calls Tryz.prog 45 #[.int .i64 z] w fun e w' => e = .returned (.bool (decide (In z))) ∧ w' = w := by
  by_cases h0 : 0 ≤ z
  · by_cases h1 : z < 40
    · rw [decide_eq_true (show In z from ⟨h0, h1⟩)]
      go_enter Tryz.func45, Tryz.ntmps45
      go_wp2
      go_ret
      exact ⟨rfl, rfl⟩
    · rw [decide_eq_false (show ¬ In z from fun h => h1 h.2)]
      go_enter Tryz.func45, Tryz.ntmps45
      go_wp2
      go_ret
      exact ⟨rfl, rfl⟩
  · rw [decide_eq_false (show ¬ In z from fun h => h0 h.1)]
    have d : decide (z ≥ 0) = false := decide_eq_false h0
    have d2 : decide (0 ≤ z) = false := decide_eq_false h0
    go_enter Tryz.func45, Tryz.ntmps45
    go_wp2
    go_ret
    exact ⟨rfl, rfl⟩
theorem l01In (z a b : Int) (w : World) : Calls Tryz.prog 59 #[.int .i64 z, .int .i64 a, .int .i64 b] w fun e w' => e = .returned (.bool (decide (a ≤ z ∧ z ≤ b))) ∧ w' = w := by
  by_cases h0 : a ≤ z
  · by_cases h1 : z ≤ b
    · rw [decide_eq_true (show a ≤ z ∧ z ≤ b from ⟨h0, h1⟩)]
      go_enter Tryz.func59, Tryz.ntmps59
      go_wp2
      go_ret
      exact ⟨rfl, rfl⟩
    · rw [decide_eq_false (show ¬ (a ≤ z ∧ z ≤ b) from fun h => h1 h.2)]
      go_enter Tryz.func59, Tryz.ntmps59
      go_wp2
      go_ret
      exact ⟨rfl, rfl⟩
  · rw [decide_eq_false (show ¬ (a ≤ z ∧ z ≤ b) from fun h => h0 h.1)]
    have d : decide (a ≤ z) = false := decide_eq_false h0
    go_enter Tryz.func59, Tryz.ntmps59
    go_wp2
    go_ret
    exact ⟨rfl, rfl⟩
theorem l05In (z : Int) (w : World) : Calls Tryz.prog 60 #[.int .i64 z] w fun e w' => e = .returned (.bool (decide (In z))) ∧ w' = w := by
  have e : decide (0 ≤ z ∧ z ≤ 39) = decide (In z) := decide_eq_decide.2 (by unfold In; omega)
  go_enter Tryz.func60, Tryz.ntmps60
  go_wp2_with fail
  refine (l01In z 0 39 _).mono ?_
  rintro e' w1 ⟨rfl, rfl⟩
  rw [e]
  go_wp2
  go_ret
  exact ⟨rfl, rfl⟩

theorem nonceFault (k p e : Int) (w : World) : Calls Tryz.prog 27 #[.int .i64 k, .int .i64 p, .int .i64 e] w fun ev w' => ev = .returned (if Ok k p e then .nilIface else pv p 4) ∧ w = w' := by
  by_cases h1 : k < 1
  · rw [if_neg (by unfold Ok; omega)]
    have d1 : decide (k < 1) = true := decide_eq_true h1
    clear h1
    go_enter Tryz.func27, Tryz.ntmps27
    go_wp2
    go_ret
    exact ⟨rfl, rfl⟩
  have d1 : decide (k < 1) = false := decide_eq_false h1
  by_cases h2 : 3 < k
  · rw [if_neg (by unfold Ok; omega)]
    have d2 : decide (3 < k) = true := decide_eq_true h2
    clear h1 h2
    go_enter Tryz.func27, Tryz.ntmps27
    go_wp2
    go_ret
    exact ⟨rfl, rfl⟩
  have d2 : decide (3 < k) = false := decide_eq_false h2
  have HI := Lib.hid (isSector p)
  by_cases h3 : In p
  · rw [decide_eq_true h3] at HI
    by_cases h4 : e < 0
    · rw [if_neg (by unfold Ok; omega)]
      have d3 : decide (e < 0) = true := decide_eq_true h4
      clear h1 h2 h3 h4
      go_enter Tryz.func27, Tryz.ntmps27
      go_wp2_with fail
      refine (HI.out _).mono ?_
      rintro e w1 ⟨rfl, rfl⟩
      go_wp2
      go_ret
      exact ⟨rfl, rfl⟩
    have d3 : decide (e < 0) = false := decide_eq_false h4
    by_cases h5 : 1099511627776 < e
    · rw [if_neg (by unfold Ok; omega)]
      have d4 : decide (1099511627776 < e) = true := decide_eq_true h5
      clear h1 h2 h3 h4 h5
      go_enter Tryz.func27, Tryz.ntmps27
      go_wp2_with fail
      refine (HI.out _).mono ?_
      rintro e w1 ⟨rfl, rfl⟩
      go_wp2
      go_ret
      exact ⟨rfl, rfl⟩
    have d4 : decide (1099511627776 < e) = false := decide_eq_false h5
    rw [if_pos (show Ok k p e from ⟨by omega, by omega, h3, by omega, by omega⟩)]
    clear h1 h2 h3 h4 h5
    go_enter Tryz.func27, Tryz.ntmps27
    go_wp2_with fail
    refine (HI.out _).mono ?_
    rintro e w1 ⟨rfl, rfl⟩
    go_wp2
    go_ret
    exact ⟨rfl, rfl⟩
  · rw [decide_eq_false h3] at HI
    rw [if_neg (fun h => h3 h.2.2.1)]
    clear h1 h2 h3
    go_enter Tryz.func27, Tryz.ntmps27
    go_wp2_with fail
    refine (HI.out _).mono ?_
    rintro e w1 ⟨rfl, rfl⟩
    go_wp2
    go_ret
    exact ⟨rfl, rfl⟩

theorem l06In (k p e : Int) (w : World) : Calls Tryz.prog 41 #[.int .i64 k, .int .i64 p, .int .i64 e] w fun ev w' => ev = .returned (.bool (decide (Ok k p e))) ∧ w' = w := by
  have H1 := Lib.hid (l01In k 1 3)
  have H2 := Lib.hid (l05In p)
  have H3 := Lib.hid (l01In e 0 1099511627776)
  by_cases h1 : 1 ≤ k ∧ k ≤ 3
  · rw [decide_eq_true h1] at H1
    by_cases h2 : In p
    · rw [decide_eq_true h2] at H2
      have ee : decide (Ok k p e) = decide (0 ≤ e ∧ e ≤ 1099511627776) := decide_eq_decide.2 ⟨fun h => h.2.2.2, fun h => ⟨h1.1, h1.2, h2, h⟩⟩
      rw [ee]
      generalize decide (0 ≤ e ∧ e ≤ 1099511627776) = b at *
      clear h1 h2 ee
      go_enter Tryz.func41, Tryz.ntmps41
      go_wp2_with fail
      refine (H1.out _).mono ?_
      rintro e w1 ⟨rfl, rfl⟩
      go_wp2_with fail
      refine (H2.out _).mono ?_
      rintro e w1 ⟨rfl, rfl⟩
      go_wp2_with fail
      refine (H3.out _).mono ?_
      rintro e w1 ⟨rfl, rfl⟩
      go_wp2
      go_ret
      exact ⟨rfl, rfl⟩
    · rw [decide_eq_false h2] at H2
      rw [decide_eq_false (show ¬ Ok k p e from fun h => h2 h.2.2.1)]
      clear h1 h2
      go_enter Tryz.func41, Tryz.ntmps41
      go_wp2_with fail
      refine (H1.out _).mono ?_
      rintro e w1 ⟨rfl, rfl⟩
      go_wp2_with fail
      refine (H2.out _).mono ?_
      rintro e w1 ⟨rfl, rfl⟩
      go_wp2
      go_ret
      exact ⟨rfl, rfl⟩
  · rw [decide_eq_false h1] at H1
    rw [decide_eq_false (show ¬ Ok k p e from fun h => h1 ⟨h.1, h.2.1⟩)]
    clear h1
    go_enter Tryz.func41, Tryz.ntmps41
    go_wp2_with fail
    refine (H1.out _).mono ?_
    rintro e w1 ⟨rfl, rfl⟩
    go_wp2
    go_ret
    exact ⟨rfl, rfl⟩

/-- A nonce: a byte of kind, two of place, a byte 0, eight of epoch. -/
def nonL (k p e : Nat) : List UInt8 := b8 k 1 ++ b8 p 2 ++ [0] ++ b8 e 8
def nonT (k p e : Nat) : ByteArray := ⟨(nonL k p e).toArray⟩
theorem nonT_size (k p e : Nat) : (nonT k p e).size = 12 := by
  show (nonL k p e).toArray.size = 12
  rw [List.size_toArray]
  unfold nonL
  simp [b8_length]

set_option maxRecDepth 100000 in
set_option maxHeartbeats 1600000 in
theorem nonceOf (k p e : Nat) (hk : k ≤ 3) (hp : p < 40) (he : e ≤ 1099511627776) (w : World) :
    Calls Tryz.prog 23 #[.int .i64 (k : Int), .int .i64 (p : Int), .int .i64 (e : Int)] w fun ev w' => ev = .returned (.string (nonT k p e)) ∧ Below w.heap.size w w' := by
  obtain ⟨i0, hi0, hz0, hz1, hz2⟩ := info_parts Bytes.info5
  have HR := Lib.hid (show nonT k p e = ⟨(b8 k 1 ++ b8 p 2 ++ [0] ++ b8 e 8).toArray⟩ from rfl)
  rw [HR.out]
  clear HR
  have l1 := b8_length k 1
  have l2 : (b8 k 1 ++ b8 p 2).length ≤ 3 := by simp [b8_length]
  have l3 : (b8 k 1 ++ b8 p 2 ++ [0]).length = 4 := by simp [b8_length]
  have HA1 := Lib.hid (Low.appendLow k 1 (by omega) (by omega) (.slice none 0 0) [] (by simp) w w.heap.size (Nat.le_refl _) (Low.owns_nil _ _))
  have HA2 := Lib.hid (fun v u hu (ho : Owns u w.heap.size v (b8 k 1)) => Low.appendLow p 2 (by omega) (by omega) v (b8 k 1) (by rw [l1]; omega) u w.heap.size hu ho)
  have HA3 := Lib.hid (fun v u hu (ho : Owns u w.heap.size v (b8 k 1 ++ b8 p 2 ++ [0])) => Low.appendLow e 8 he (by omega) v (b8 k 1 ++ b8 p 2 ++ [0]) (by rw [l3]; omega) u w.heap.size hu ho)
  rw [List.nil_append] at HA1
  have HCE := Lib.hid (show BV [(0 : UInt8)] = [.int .u8 0] from rfl)
  generalize b8 e 8 = B3 at *
  generalize b8 k 1 = B1 at *
  generalize b8 p 2 = B2 at *
  clear l1 l3
  go_enter Tryz.func23, Tryz.ntmps23
  go_wp2_with fail
  refine (HA1.out).mono ?_
  rintro ev w1 ⟨v1, rfl, o1, b1⟩
  have O1 := Lib.hid o1
  have HB1 := Lib.hid b1
  clear o1 b1
  go_wp2_with fail
  refine (HA2.out v1 w1 HB1.out.size O1.out).mono ?_
  rintro ev w2 ⟨v2, rfl, o2, b2⟩
  have O2 := Lib.hid o2
  have HB2 := Lib.hid (HB1.out.trans b2)
  clear o2 b2 HB1 O1
  have hz := Lib.hid HB2.out.size
  obtain ⟨cs, hcs⟩ : ∃ cs, B1 ++ B2 = cs := ⟨_, rfl⟩
  rw [hcs] at O2 HA3 l2
  have HCS := Lib.hid hcs
  clear hcs
  go_wp2_with (at_builtin; refine wpList_append_lies _ rfl _ _ _ rfl w.heap.size 5 i0 _ 1 1 Tryz.underlying22 hi0 hz0 hz1 hz2 rfl (by omega) _ cs.length (BV cs) (by rfl) (World.ownsRow.alloc O2.out _) ⟨w2.heap.size, 0, none⟩ 1 1 [.int .u8 0] (by rfl) (by rfl) (World.news_of_block (cs := #[.int .u8 0]) (t := 5) (fr := (0, 0)) (heap_alloc_new w2 _)) (by simp [Value.oneCell']) (by omega) (by unfold maxLen; omega) (by omega) (by have := hz.out; simp; omega) (w2.heap.size + 1) (by simp) ?_; intro gg cap w3 hown1 hgrow hat hlt1; have HO := Lib.hid hown1; have HG := Lib.hid hgrow; clear hown1 hgrow hat hlt1)
  have O3 := Lib.hid (show Owns w3 w.heap.size (.slice (some ⟨gg, 0, none⟩) (cs.length + 1) cap) (cs ++ [0]) by
    have := HO.out
    rw [← HCE.out] at this
    exact Bytes.owns_grown this rfl)
  have HB3 := Lib.hid ((HB2.out.trans ((Below.refl _ _).alloc HB2.out.size _)).grown HG.out (by have := hz.out; simp; omega) (Owns.block O2.out))
  clear HO HG HB2 O2 hz
  refine (HA3.out _ w3 HB3.out.size O3.out).mono ?_
  rintro ev w4 ⟨v4, rfl, o4, b4⟩
  have hconv := o4.string
  obtain ⟨FL, hFL⟩ : ∃ FL, cs ++ [0] ++ B3 = FL := ⟨_, rfl⟩
  rw [hFL] at hconv
  have HFL := Lib.hid hFL
  clear hFL
  have HB4 := Lib.hid (HB3.out.trans b4)
  clear o4 b4 HB3 O3
  go_wp2
  go_ret
  exact ⟨by rw [HCS.out, HFL.out]; rfl, HB4.out⟩
end Go.Proofs.YtggobhpjfflooaaGreatDoor.Nonce
