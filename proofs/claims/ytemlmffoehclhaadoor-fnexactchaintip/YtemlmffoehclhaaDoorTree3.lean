/-
  What is proved: the digests of leaves, of pairs and of chains as the calls answer them, with their codes (contracts for the walks); the exact laws on them return true (the walks), where the package's table holds its words.
-/
import Derived.Test.YtemlmffoehclhaaDoorRows
import Derived.Test.YtemlmffoehclhaaDoorTree1
namespace Go.Proofs.YtemlmffoehclhaaDoor.Tree3
open Go.ChangeShapes Go.WideShapes Go.ChangeAt Go.RowKit
open MixBlock (Tab)
open Tree1
set_option linter.unusedVariables false

def leafR (z : Int) (t : ByteArray) : ByteArray × Int := if 65536 < t.size then (⟨#[]⟩, 2) else if 0 ≤ z ∧ z < 16 then (leafT z.toNat t, 0) else (⟨#[]⟩, 4)
def joinR (a b : ByteArray) : ByteArray × Int := if 65536 < a.size ∨ 65536 < b.size then (⟨#[]⟩, 2) else if a.size = 32 ∧ b.size = 32 then (joinT a b, 0) else (⟨#[]⟩, 8)
def chainR (a b : ByteArray) : ByteArray × Int := if 65536 < a.size ∨ 65536 < b.size then (⟨#[]⟩, 2) else if a.size = 32 then (chainT a b, 0) else (⟨#[]⟩, 8)
set_option maxRecDepth 100000 in
set_option maxHeartbeats 800000 in
theorem leaf_impl (z : Int) (t : ByteArray) (ht : t.size ≤ 1048576) (w : World) (T : Tab w) :
    Calls Tryd.prog 26 #[.int .i64 z, .string t] w fun e' w' => e' = .returned (.tuple #[.string (leafR z t).1, .int .i64 (leafR z t).2]) ∧ Below w.heap.size w w' := by
  have TT := Lib.hid T
  clear T
  unfold leafR
  by_cases h1 : 65536 < t.size
  · rw [if_pos h1]
    have d1 : decide (65536 < (t.size : Int)) = true := decide_eq_true (by omega)
    go_enter Tryd.func26, Tryd.ntmps26
    go_wp2_with fail
    go_ret2
    exact ⟨rfl, Below.refl _ _⟩
  rw [if_neg h1]
  have d1 : decide (65536 < (t.size : Int)) = false := decide_eq_false (by omega)
  have HL := Lib.hid (isLeaf z)
  by_cases h2 : 0 ≤ z ∧ z < 16
  · rw [if_pos h2]
    rw [decide_eq_true h2] at HL
    obtain ⟨i, rfl⟩ : ∃ i : Nat, z = i := ⟨z.toNat, by omega⟩
    rw [Int.toNat_natCast]
    have HD := Lib.hid (leafDigest i (by omega) t (by omega))
    generalize leafT i t = X at *
    clear h2
    go_enter Tryd.func26, Tryd.ntmps26
    go_wp2_with fail
    refine (HL.out _).mono ?_
    rintro e w1 ⟨rfl, rfl⟩
    go_wp2_with fail
    refine (HD.out _ TT.out).mono ?_
    rintro e w2 ⟨rfl, hb⟩
    have HB := Lib.hid hb
    clear hb
    go_wp2
    go_ret2
    exact ⟨rfl, HB.out⟩
  · rw [if_neg h2]
    rw [decide_eq_false h2] at HL
    clear h2
    go_enter Tryd.func26, Tryd.ntmps26
    go_wp2_with fail
    refine (HL.out _).mono ?_
    rintro e w1 ⟨rfl, rfl⟩
    go_wp2
    go_ret2
    exact ⟨rfl, Below.refl _ _⟩
set_option maxRecDepth 100000 in
set_option maxHeartbeats 800000 in
theorem join_impl (a b : ByteArray) (ha : a.size ≤ 1048576) (hb : b.size ≤ 1048576) (w : World) (T : Tab w) :
    Calls Tryd.prog 27 #[.string a, .string b] w fun e' w' => e' = .returned (.tuple #[.string (joinR a b).1, .int .i64 (joinR a b).2]) ∧ Below w.heap.size w w' := by
  have TT := Lib.hid T
  clear T
  unfold joinR
  by_cases a1 : 65536 < a.size
  · rw [if_pos (Or.inl a1)]
    have d1 : decide (65536 < (a.size : Int)) = true := decide_eq_true (by omega)
    go_enter Tryd.func27, Tryd.ntmps27
    go_wp2_with fail
    go_ret2
    exact ⟨rfl, Below.refl _ _⟩
  have d1 : decide (65536 < (a.size : Int)) = false := decide_eq_false (by omega)
  by_cases b1 : 65536 < b.size
  · rw [if_pos (Or.inr b1)]
    have d2 : decide (65536 < (b.size : Int)) = true := decide_eq_true (by omega)
    go_enter Tryd.func27, Tryd.ntmps27
    go_wp2_with fail
    go_ret2
    exact ⟨rfl, Below.refl _ _⟩
  have d2 : decide (65536 < (b.size : Int)) = false := decide_eq_false (by omega)
  rw [if_neg (by omega)]
  by_cases a2 : a.size = 32
  · have e1 : ((a.size : Int) != 32) = false := by simp; omega
    by_cases b2 : b.size = 32
    · have e2 : ((b.size : Int) != 32) = false := by simp; omega
      rw [if_pos ⟨a2, b2⟩]
      have HA := Lib.hid a2
      have HB0 := Lib.hid b2
      have HD := Lib.hid (joined a b HA.out HB0.out)
      clear a2 b2
      generalize joinT a b = X at *
      go_enter Tryd.func27, Tryd.ntmps27
      go_wp2_with fail
      refine (HD.out _ TT.out).mono ?_
      rintro e w2 ⟨rfl, hb⟩
      have HB := Lib.hid hb
      clear hb
      go_wp2
      go_ret2
      exact ⟨rfl, HB.out⟩
    · have e2 : ((b.size : Int) != 32) = true := by simp; omega
      rw [if_neg (fun h => b2 h.2)]
      clear a2 b2
      go_enter Tryd.func27, Tryd.ntmps27
      go_wp2
      go_ret2
      exact ⟨rfl, Below.refl _ _⟩
  · have e1 : ((a.size : Int) != 32) = true := by simp; omega
    rw [if_neg (fun h => a2 h.1)]
    clear a2
    go_enter Tryd.func27, Tryd.ntmps27
    go_wp2
    go_ret2
    exact ⟨rfl, Below.refl _ _⟩
set_option maxRecDepth 100000 in
set_option maxHeartbeats 800000 in
theorem chain_impl (a b : ByteArray) (ha : a.size ≤ 1048576) (hb : b.size ≤ 1048576) (w : World) (T : Tab w) :
    Calls Tryd.prog 29 #[.string a, .string b] w fun e' w' => e' = .returned (.tuple #[.string (chainR a b).1, .int .i64 (chainR a b).2]) ∧ Below w.heap.size w w' := by
  have TT := Lib.hid T
  clear T
  unfold chainR
  by_cases a1 : 65536 < a.size
  · rw [if_pos (Or.inl a1)]
    have d1 : decide (65536 < (a.size : Int)) = true := decide_eq_true (by omega)
    go_enter Tryd.func29, Tryd.ntmps29
    go_wp2_with fail
    go_ret2
    exact ⟨rfl, Below.refl _ _⟩
  have d1 : decide (65536 < (a.size : Int)) = false := decide_eq_false (by omega)
  by_cases b1 : 65536 < b.size
  · rw [if_pos (Or.inr b1)]
    have d2 : decide (65536 < (b.size : Int)) = true := decide_eq_true (by omega)
    go_enter Tryd.func29, Tryd.ntmps29
    go_wp2_with fail
    go_ret2
    exact ⟨rfl, Below.refl _ _⟩
  have d2 : decide (65536 < (b.size : Int)) = false := decide_eq_false (by omega)
  rw [if_neg (by omega)]
  by_cases a2 : a.size = 32
  · have e1 : ((a.size : Int) != 32) = false := by simp; omega
    rw [if_pos a2]
    have HA := Lib.hid a2
    have HD := Lib.hid (HashOf.digestOf (chainX a b) (by rw [chainX_size]; omega) w TT.out)
    unfold chainT
    generalize HashOf.txt (chainX a b) = X at *
    unfold chainX at HD
    have ha2 : a.size ≤ 32 := by omega
    clear a2
    go_enter Tryd.func29, Tryd.ntmps29
    go_wp2_with fail
    refine (HD.out).mono ?_
    rintro e w2 ⟨rfl, hb⟩
    have HB := Lib.hid hb
    clear hb
    go_wp2
    go_ret2
    exact ⟨rfl, HB.out⟩
  · have e1 : ((a.size : Int) != 32) = true := by simp; omega
    rw [if_neg a2]
    clear a2
    go_enter Tryd.func29, Tryd.ntmps29
    go_wp2
    go_ret2
    exact ⟨rfl, Below.refl _ _⟩
set_option maxRecDepth 100000 in
set_option maxHeartbeats 800000 in
theorem leaf_spec (z : Int) (t : ByteArray) (ht : t.size ≤ 1048576) (w : World) :
    Calls Tryd.prog 34 #[.int .i64 z, .string t] w fun e' w' => e' = .returned (.tuple #[.string (leafR z t).1, .int .i64 (leafR z t).2]) ∧ Below w.heap.size w w' := by
  unfold leafR
  by_cases h1 : 65536 < t.size
  · rw [if_pos h1]
    have d1 : decide (65536 < (t.size : Int)) = true := decide_eq_true (by omega)
    go_enter Tryd.func34, Tryd.ntmps34
    go_wp2_with fail
    go_ret2
    exact ⟨rfl, Below.refl _ _⟩
  rw [if_neg h1]
  have d1 : decide (65536 < (t.size : Int)) = false := decide_eq_false (by omega)
  have HL := Lib.hid (l01In16 z)
  by_cases h2 : 0 ≤ z ∧ z < 16
  · rw [if_pos h2]
    rw [decide_eq_true h2] at HL
    obtain ⟨i, rfl⟩ : ∃ i : Nat, z = i := ⟨z.toNat, by omega⟩
    rw [Int.toNat_natCast]
    have HD := Lib.hid (l07Leaf i (by omega) t (by omega))
    generalize leafT i t = X at *
    clear h2
    go_enter Tryd.func34, Tryd.ntmps34
    go_wp2_with fail
    refine (HL.out _).mono ?_
    rintro e w1 ⟨rfl, rfl⟩
    go_wp2_with fail
    refine (HD.out _).mono ?_
    rintro e w2 ⟨rfl, hb⟩
    have HB := Lib.hid hb
    clear hb
    go_wp2
    go_ret2
    exact ⟨rfl, HB.out⟩
  · rw [if_neg h2]
    rw [decide_eq_false h2] at HL
    clear h2
    go_enter Tryd.func34, Tryd.ntmps34
    go_wp2_with fail
    refine (HL.out _).mono ?_
    rintro e w1 ⟨rfl, rfl⟩
    go_wp2
    go_ret2
    exact ⟨rfl, Below.refl _ _⟩
set_option maxRecDepth 100000 in
set_option maxHeartbeats 800000 in
theorem join_spec (a b : ByteArray) (ha : a.size ≤ 1048576) (hb : b.size ≤ 1048576) (w : World) :
    Calls Tryd.prog 28 #[.string a, .string b] w fun e' w' => e' = .returned (.tuple #[.string (joinR a b).1, .int .i64 (joinR a b).2]) ∧ Below w.heap.size w w' := by
  unfold joinR
  by_cases a1 : 65536 < a.size
  · rw [if_pos (Or.inl a1)]
    have d1 : decide (65536 < (a.size : Int)) = true := decide_eq_true (by omega)
    go_enter Tryd.func28, Tryd.ntmps28
    go_wp2_with fail
    go_ret2
    exact ⟨rfl, Below.refl _ _⟩
  have d1 : decide (65536 < (a.size : Int)) = false := decide_eq_false (by omega)
  by_cases b1 : 65536 < b.size
  · rw [if_pos (Or.inr b1)]
    have d2 : decide (65536 < (b.size : Int)) = true := decide_eq_true (by omega)
    go_enter Tryd.func28, Tryd.ntmps28
    go_wp2_with fail
    go_ret2
    exact ⟨rfl, Below.refl _ _⟩
  have d2 : decide (65536 < (b.size : Int)) = false := decide_eq_false (by omega)
  rw [if_neg (by omega)]
  by_cases a2 : a.size = 32
  · have e1 : ((a.size : Int) != 32) = false := by simp; omega
    by_cases b2 : b.size = 32
    · have e2 : ((b.size : Int) != 32) = false := by simp; omega
      rw [if_pos ⟨a2, b2⟩]
      have HA := Lib.hid a2
      have HB0 := Lib.hid b2
      have HD := Lib.hid (l07Join a b HA.out HB0.out)
      clear a2 b2
      generalize joinT a b = X at *
      go_enter Tryd.func28, Tryd.ntmps28
      go_wp2_with fail
      refine (HD.out _).mono ?_
      rintro e w2 ⟨rfl, hb⟩
      have HB := Lib.hid hb
      clear hb
      go_wp2
      go_ret2
      exact ⟨rfl, HB.out⟩
    · have e2 : ((b.size : Int) != 32) = true := by simp; omega
      rw [if_neg (fun h => b2 h.2)]
      clear a2 b2
      go_enter Tryd.func28, Tryd.ntmps28
      go_wp2
      go_ret2
      exact ⟨rfl, Below.refl _ _⟩
  · have e1 : ((a.size : Int) != 32) = true := by simp; omega
    rw [if_neg (fun h => a2 h.1)]
    clear a2
    go_enter Tryd.func28, Tryd.ntmps28
    go_wp2
    go_ret2
    exact ⟨rfl, Below.refl _ _⟩
set_option maxRecDepth 100000 in
set_option maxHeartbeats 800000 in
theorem chain_spec (a b : ByteArray) (ha : a.size ≤ 1048576) (hb : b.size ≤ 1048576) (w : World) :
    Calls Tryd.prog 30 #[.string a, .string b] w fun e' w' => e' = .returned (.tuple #[.string (chainR a b).1, .int .i64 (chainR a b).2]) ∧ Below w.heap.size w w' := by
  unfold chainR
  by_cases a1 : 65536 < a.size
  · rw [if_pos (Or.inl a1)]
    have d1 : decide (65536 < (a.size : Int)) = true := decide_eq_true (by omega)
    go_enter Tryd.func30, Tryd.ntmps30
    go_wp2_with fail
    go_ret2
    exact ⟨rfl, Below.refl _ _⟩
  have d1 : decide (65536 < (a.size : Int)) = false := decide_eq_false (by omega)
  by_cases b1 : 65536 < b.size
  · rw [if_pos (Or.inr b1)]
    have d2 : decide (65536 < (b.size : Int)) = true := decide_eq_true (by omega)
    go_enter Tryd.func30, Tryd.ntmps30
    go_wp2_with fail
    go_ret2
    exact ⟨rfl, Below.refl _ _⟩
  have d2 : decide (65536 < (b.size : Int)) = false := decide_eq_false (by omega)
  rw [if_neg (by omega)]
  by_cases a2 : a.size = 32
  · have e1 : ((a.size : Int) != 32) = false := by simp; omega
    rw [if_pos a2]
    have HA := Lib.hid a2
    have HD := Lib.hid (l07Chain a b HA.out (by omega))
    generalize chainT a b = X at *
    clear a2
    go_enter Tryd.func30, Tryd.ntmps30
    go_wp2_with fail
    refine (HD.out _).mono ?_
    rintro e w2 ⟨rfl, hb⟩
    have HB := Lib.hid hb
    clear hb
    go_wp2
    go_ret2
    exact ⟨rfl, HB.out⟩
  · have e1 : ((a.size : Int) != 32) = true := by simp; omega
    rw [if_neg a2]
    clear a2
    go_enter Tryd.func30, Tryd.ntmps30
    go_wp2
    go_ret2
    exact ⟨rfl, Below.refl _ _⟩
set_option maxRecDepth 100000 in
set_option maxHeartbeats 800000 in
theorem walkLeaf (z : Int) (t : ByteArray) (htm : t.size ≤ maxLen) (w : World) (hL : laidMetH Tryd.prog Rows.fnExactLeafDigestRow.laid w) :
    Calls Tryd.prog 7 #[.int .i64 z, .string t] w fun e w' => e = .returned (.bool true) ∧ Below w.heap.size w w' := by
  rw [RoundTab.leaf_list] at hL
  have T := RoundTab.tab_of hL
  clear hL
  have TT := Lib.hid T
  have HTL := Lib.hid T.lt
  clear T
  unfold maxLen at htm
  by_cases ht : 1048576 < t.size
  · have dt : decide (1048576 < (t.size : Int)) = true := decide_eq_true (by omega)
    go_enter Tryd.func7, Tryd.ntmps7
    go_wp2_with fail
    go_ret
    exact ⟨rfl, Below.refl _ _⟩
  have dt : decide (1048576 < (t.size : Int)) = false := decide_eq_false (by omega)
  have HS := Lib.hid (leaf_spec z t (by omega))
  have HI := Lib.hid (leaf_impl z t (by omega))
  generalize leafR z t = r at *
  obtain ⟨o, oc⟩ := r
  simp only [] at HS HI
  go_enter Tryd.func7, Tryd.ntmps7
  go_wp2_with fail
  refine (HS.out _).mono ?_
  rintro e w1 ⟨rfl, hb1⟩
  have HB1 := Lib.hid hb1
  clear hb1
  go_wp2_with fail
  refine (HI.out _ (TT.out.below HB1.out HTL.out)).mono ?_
  rintro e w2 ⟨rfl, hb2⟩
  have HB2 := Lib.hid (HB1.out.trans (hb2.mono HB1.out.size))
  clear hb2
  go_wp2
  go_ret
  exact ⟨rfl, HB2.out⟩
set_option maxRecDepth 100000 in
set_option maxHeartbeats 800000 in
theorem walkJoin (a b : ByteArray) (ham : a.size ≤ maxLen) (hbm : b.size ≤ maxLen) (w : World) (hL : laidMetH Tryd.prog Rows.fnExactJoinDigestsRow.laid w) :
    Calls Tryd.prog 8 #[.string a, .string b] w fun e w' => e = .returned (.bool true) ∧ Below w.heap.size w w' := by
  rw [RoundTab.join_list] at hL
  have T := RoundTab.tab_of hL
  clear hL
  have TT := Lib.hid T
  have HTL := Lib.hid T.lt
  clear T
  unfold maxLen at ham
  by_cases ha : 1048576 < a.size
  · have da : decide (1048576 < (a.size : Int)) = true := decide_eq_true (by omega)
    go_enter Tryd.func8, Tryd.ntmps8
    go_wp2_with fail
    go_ret
    exact ⟨rfl, Below.refl _ _⟩
  have da : decide (1048576 < (a.size : Int)) = false := decide_eq_false (by omega)
  unfold maxLen at hbm
  by_cases hb : 1048576 < b.size
  · have db : decide (1048576 < (b.size : Int)) = true := decide_eq_true (by omega)
    go_enter Tryd.func8, Tryd.ntmps8
    go_wp2_with fail
    go_ret
    exact ⟨rfl, Below.refl _ _⟩
  have db : decide (1048576 < (b.size : Int)) = false := decide_eq_false (by omega)
  have HS := Lib.hid (join_spec a b (by omega) (by omega))
  have HI := Lib.hid (join_impl a b (by omega) (by omega))
  generalize joinR a b = r at *
  obtain ⟨o, oc⟩ := r
  simp only [] at HS HI
  go_enter Tryd.func8, Tryd.ntmps8
  go_wp2_with fail
  refine (HS.out _).mono ?_
  rintro e w1 ⟨rfl, hb1⟩
  have HB1 := Lib.hid hb1
  clear hb1
  go_wp2_with fail
  refine (HI.out _ (TT.out.below HB1.out HTL.out)).mono ?_
  rintro e w2 ⟨rfl, hb2⟩
  have HB2 := Lib.hid (HB1.out.trans (hb2.mono HB1.out.size))
  clear hb2
  go_wp2
  go_ret
  exact ⟨rfl, HB2.out⟩
set_option maxRecDepth 100000 in
set_option maxHeartbeats 800000 in
theorem walkChain (a b : ByteArray) (ham : a.size ≤ maxLen) (hbm : b.size ≤ maxLen) (w : World) (hL : laidMetH Tryd.prog Rows.fnExactChainTipRow.laid w) :
    Calls Tryd.prog 12 #[.string a, .string b] w fun e w' => e = .returned (.bool true) ∧ Below w.heap.size w w' := by
  rw [RoundTab.chain_list] at hL
  have T := RoundTab.tab_of hL
  clear hL
  have TT := Lib.hid T
  have HTL := Lib.hid T.lt
  clear T
  unfold maxLen at ham
  by_cases ha : 1048576 < a.size
  · have da : decide (1048576 < (a.size : Int)) = true := decide_eq_true (by omega)
    go_enter Tryd.func12, Tryd.ntmps12
    go_wp2_with fail
    go_ret
    exact ⟨rfl, Below.refl _ _⟩
  have da : decide (1048576 < (a.size : Int)) = false := decide_eq_false (by omega)
  unfold maxLen at hbm
  by_cases hb : 1048576 < b.size
  · have db : decide (1048576 < (b.size : Int)) = true := decide_eq_true (by omega)
    go_enter Tryd.func12, Tryd.ntmps12
    go_wp2_with fail
    go_ret
    exact ⟨rfl, Below.refl _ _⟩
  have db : decide (1048576 < (b.size : Int)) = false := decide_eq_false (by omega)
  have HS := Lib.hid (chain_spec a b (by omega) (by omega))
  have HI := Lib.hid (chain_impl a b (by omega) (by omega))
  generalize chainR a b = r at *
  obtain ⟨o, oc⟩ := r
  simp only [] at HS HI
  go_enter Tryd.func12, Tryd.ntmps12
  go_wp2_with fail
  refine (HS.out _).mono ?_
  rintro e w1 ⟨rfl, hb1⟩
  have HB1 := Lib.hid hb1
  clear hb1
  go_wp2_with fail
  refine (HI.out _ (TT.out.below HB1.out HTL.out)).mono ?_
  rintro e w2 ⟨rfl, hb2⟩
  have HB2 := Lib.hid (HB1.out.trans (hb2.mono HB1.out.size))
  clear hb2
  go_wp2
  go_ret
  exact ⟨rfl, HB2.out⟩
end Go.Proofs.YtemlmffoehclhaaDoor.Tree3
