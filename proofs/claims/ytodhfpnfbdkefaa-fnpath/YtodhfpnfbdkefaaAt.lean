/-
  What is proved: the laws' choice below n out of a code is one plain number, from 0 to n - 1 (contract for the walks of laws that draw).
-/
import Derived.Test.YtodhfpnfbdkefaaRows
import Derived.Test.YtodhfpnfbdkefaaSrc
import Derived.WalkSpells
namespace Go.Proofs.Ytodhfpnfbdkefaa.At
open Go.ChangeShapes Go.WideShapes Go.ChangeAt Go.RowKit
open Src (IsRow)
set_option linter.unusedVariables false

theorem IsRow.at {w : World} {a : Option Addr} {len cap : Nat} {zs : List Int} (h : IsRow .u8 w a len cap zs) (i : Nat) (hi : i < len) :
    ∃ bb off, a = some ⟨bb, off, none⟩ ∧ 0 ≤ zs.getD i 0 ∧ zs.getD i 0 < 256 ∧ ∀ j, j < len → w.cell? ⟨bb, off + j, none⟩ = some (.int .u8 (zs.getD j 0)) := by
  rcases h with ⟨rfl, rfl, rfl, rfl⟩ | ⟨x, rfl, h1, h2, h3, h4, h5⟩
  · omega
  · obtain ⟨b, off, rfl, hc⟩ := ints_at h4 (by omega)
    have hz := h5 (zs.getD i 0) (by simp [List.getD_eq_getElem?_getD, List.getElem?_eq_getElem (show i < zs.length by omega)])
    have hb := bounds_u8 hz
    exact ⟨b, off, rfl, hb.1, by omega, fun j hj => hc j (by omega)⟩
theorem IsRow.byte {w : World} {a : Option Addr} {len cap : Nat} {zs : List Int} (h : IsRow .u8 w a len cap zs) (i : Nat) (hi : i < len) : 0 ≤ zs.getD i 0 ∧ zs.getD i 0 < 256 := by
  obtain ⟨_, _, _, h1, h2, _⟩ := IsRow.at h i hi
  exact ⟨h1, h2⟩

/-- The choice. -/
def val (zs : List Int) (len i : Nat) (n : Int) : Int :=
  if n ≤ 1 then 0 else if len = 0 then (i : Int) * 7 % n else (zs.getD (i % len) 0 * 31 + zs.getD ((i + 1) % len) 0 + ((i / len : Nat) : Int)) % n
theorem val_nonneg (zs : List Int) (len i : Nat) (n : Int) : 0 ≤ val zs len i n := by
  unfold val
  split
  · omega
  · split
    · exact Int.emod_nonneg _ (by omega)
    · exact Int.emod_nonneg _ (by omega)
theorem val_lt (zs : List Int) (len i : Nat) (n : Int) (hn : 1 ≤ n) : val zs len i n < n := by
  unfold val
  split
  · omega
  · split
    · exact Int.emod_lt_of_pos _ (by omega)
    · exact Int.emod_lt_of_pos _ (by omega)
theorem ret_int {k : IntKind} {a b : Int} (h : a = b) : Ending.returned (.int k a) = .returned (.int k b) := by rw [h]

set_option maxRecDepth 100000 in
set_option maxHeartbeats 1600000 in
theorem at_ (w : World) (a : Option Addr) (len cap : Nat) (zs : List Int) (h : IsRow .u8 w a len cap zs) (hlen : len ≤ 1048576) (i : Nat) (hi : i ≤ 1000) (I : Int) (hI : I = (i : Int)) (n : Int) (hn : n ≤ 1000000000) :
    Calls Try.prog 14 #[.slice a len cap, .int .i64 I, .int .i64 n] w fun e w' => e = .returned (.int .i64 (val zs len i n)) ∧ ∃ m, w' = w.drewN m := by
  subst hI
  by_cases h1 : n ≤ 1
  · have HV := Lib.hid (show val zs len i n = 0 by unfold val; rw [if_pos h1])
    rw [HV.out]
    go_enter Try.func14, Try.ntmps14
    go_wp2
    go_ret
    exact ⟨rfl, 0, rfl⟩
  · have d1 : decide (n ≤ 1) = false := decide_eq_false h1
    have n0 : (n == 0) = false := by simp; omega
    have n1 : 0 < n := by omega
    have n2 : n ≠ 0 := by omega
    by_cases h2 : len = 0
    · have HV := Lib.hid (show val zs len i n = (i : Int) * 7 % n by unfold val; rw [if_neg h1, if_pos h2])
      subst h2
      have t1 : Int.tmod ((i : Int) * 7) n = (i : Int) * 7 % n := Int.tmod_eq_emod_of_nonneg (by omega)
      have m0 := Int.emod_nonneg ((i : Int) * 7) n2
      have m1 := Int.emod_lt_of_pos ((i : Int) * 7) n1
      rw [HV.out]
      generalize (i : Int) * 7 % n = r at *
      clear h1
      go_enter Try.func14, Try.ntmps14
      go_wp2
      go_ret
      exact ⟨by first | rfl | exact ret_int (by omega), 0, rfl⟩
    · have HV := Lib.hid (show val zs len i n = (zs.getD (i % len) 0 * 31 + zs.getD ((i + 1) % len) 0 + ((i / len : Nat) : Int)) % n by unfold val; rw [if_neg h1, if_neg h2])
      have hp : i % len < len := Nat.mod_lt _ (by omega)
      have hq : (i + 1) % len < len := Nat.mod_lt _ (by omega)
      have hd : i / len ≤ i := Nat.div_le_self _ _
      obtain ⟨bb, off, rfl, x0, x1, hc⟩ := IsRow.at h _ hp
      obtain ⟨y0, y1⟩ := IsRow.byte h _ hq
      have c0 := hc _ hp
      have c1 := hc _ hq
      have e1 : (i : Int) % (len : Int) = ((i % len : Nat) : Int) := by rw [Int.natCast_emod]
      have e2 : ((i : Int) + 1) % (len : Int) = (((i + 1) % len : Nat) : Int) := by rw [Int.natCast_emod]; rfl
      have e3 : (i : Int) / (len : Int) = ((i / len : Nat) : Int) := by rw [Int.natCast_ediv]
      have t1 : Int.tmod (i : Int) (len : Int) = ((i % len : Nat) : Int) := by rw [Int.tmod_eq_emod_of_nonneg (by omega), e1]
      have t2 : Int.tmod ((i : Int) + 1) (len : Int) = (((i + 1) % len : Nat) : Int) := by rw [Int.tmod_eq_emod_of_nonneg (by omega), e2]
      have t3 : Int.tdiv (i : Int) (len : Int) = ((i / len : Nat) : Int) := by rw [Int.tdiv_eq_ediv_of_nonneg (by omega), e3]
      rw [HV.out]
      generalize zs.getD (i % len) 0 = x at *
      generalize zs.getD ((i + 1) % len) 0 = y at *
      generalize i % len = p at *
      generalize (i + 1) % len = q at *
      generalize i / len = d at *
      have s0 : (0 : Int) ≤ x * 31 + y + (d : Int) := by omega
      have t4 : Int.tmod (x * 31 + y + (d : Int)) n = (x * 31 + y + (d : Int)) % n := Int.tmod_eq_emod_of_nonneg s0
      have m0 := Int.emod_nonneg (x * 31 + y + (d : Int)) n2
      have m1 := Int.emod_lt_of_pos (x * 31 + y + (d : Int)) n1
      have l0 : ((len : Int) == 0) = false := by simp; omega
      have l1 : (len : Int) ≠ 0 := by omega
      have p1 : (p : Int) < (len : Int) := by omega
      have q1 : (q : Int) < (len : Int) := by omega
      have p0 : (0 : Int) ≤ (p : Int) := by omega
      have q0 : (0 : Int) ≤ (q : Int) := by omega
      have w1 : IntKind.i64.wrap (p : Int) = p := by rw [IntKind.wrap_i64]; omega
      have w2 : IntKind.i64.wrap (q : Int) = q := by rw [IntKind.wrap_i64]; omega
      have w3 : IntKind.i64.wrap (d : Int) = d := by rw [IntKind.wrap_i64]; omega
      clear hc h1 h2 hp hq HV
      go_enter Try.func14, Try.ntmps14
      go_wp2
      go_quiet (fail)
      go_wp2
      go_ret
      exact ⟨by first | rfl | exact ret_int (by omega), _, rfl⟩
end Go.Proofs.Ytodhfpnfbdkefaa.At
