/-
  What is proved: both ways to hold one tag against another answer one plain function of them; the law on them returns true (the walk).
-/
import Derived.Test.YtcfdnifllehbjaaDoorRows
import Derived.Test.YtcfdnifllehbjaaDoorBytes
import Derived.Test.YtcfdnifllehbjaaDoorWord
namespace Go.Proofs.YtcfdnifllehbjaaDoor.TagEq
open Go.ChangeShapes Go.WideShapes Go.ChangeAt Go.RowKit
open Word (bN bN_lt bN_at)
set_option linter.unusedVariables false

/-- The bits in which the first n bytes of a and b are unlike. -/
def acc (a b : ByteArray) : Nat → Nat
  | 0 => 0
  | k + 1 => acc a b k ||| (bN a k ^^^ bN b k)
theorem acc_lt (a b : ByteArray) : ∀ k, acc a b k < 256
  | 0 => by unfold acc; omega
  | k + 1 => by
    unfold acc
    exact Nat.or_lt_two_pow (n := 8) (acc_lt a b k) (Nat.xor_lt_two_pow (n := 8) (bN_lt _ _) (bN_lt _ _))
theorem u8_or_xor (c x y : Nat) (hc : c < 256) (hx : x < 256) (hy : y < 256) : bits .or .u8 (c : Int) (bits .xor .u8 (x : Int) (y : Int)) = ((c ||| (x ^^^ y) : Nat) : Int) := by
  have h1 : x ^^^ y < 2 ^ 8 := Nat.xor_lt_two_pow hx hy
  have h2 : c ||| (x ^^^ y) < 2 ^ 8 := Nat.or_lt_two_pow hc h1
  have e1 : bits .xor .u8 (x : Int) (y : Int) = ((x ^^^ y : Nat) : Int) := by
    show IntKind.u8.wrap ((BitVec.ofInt 8 (x : Int) ^^^ BitVec.ofInt 8 (y : Int)).toNat : Int) = _
    rw [BitVec.toNat_xor]
    simp only [BitVec.ofInt_natCast, BitVec.toNat_ofNat, Nat.reducePow]
    rw [Nat.mod_eq_of_lt hx, Nat.mod_eq_of_lt hy, IntKind.wrap_u8']
    omega
  rw [e1]
  show IntKind.u8.wrap ((BitVec.ofInt 8 (c : Int) ||| BitVec.ofInt 8 ((x ^^^ y : Nat) : Int)).toNat : Int) = _
  rw [BitVec.toNat_or]
  simp only [BitVec.ofInt_natCast, BitVec.toNat_ofNat, Nat.reducePow]
  rw [Nat.mod_eq_of_lt hc, Nat.mod_eq_of_lt h1, IntKind.wrap_u8']
  omega
theorem u8_xor (x y : Nat) (hx : x < 256) (hy : y < 256) : bits .xor .u8 (x : Int) (y : Int) = ((x ^^^ y : Nat) : Int) := by
  have h1 : x ^^^ y < 2 ^ 8 := Nat.xor_lt_two_pow hx hy
  show IntKind.u8.wrap ((BitVec.ofInt 8 (x : Int) ^^^ BitVec.ofInt 8 (y : Int)).toNat : Int) = _
  rw [BitVec.toNat_xor]
  simp only [BitVec.ofInt_natCast, BitVec.toNat_ofNat, Nat.reducePow]
  rw [Nat.mod_eq_of_lt hx, Nat.mod_eq_of_lt hy, IntKind.wrap_u8']
  omega

/-- What both answer. -/
def teq (a b : ByteArray) : Bool := decide (a.size ≤ 65536 ∧ a.size = b.size ∧ acc a b a.size = 0)

set_option maxHeartbeats 800000 in
theorem impl_loop (a b : ByteArray) (hs : a.size ≤ 65536) (he : a.size = b.size) (w : World) :
    Calls Tryd.prog 42 #[.string a, .string b] w fun e w' => e = .returned (.bool (teq a b)) ∧ Below w.heap.size w w' := by
  have d0 : decide (65536 < (a.size : Int)) = false := decide_eq_false (by omega)
  have d2 : ((a.size : Int) != (b.size : Int)) = false := by rw [he]; simp
  have HRES := Lib.hid (show teq a b = decide (acc a b a.size = 0) from decide_eq_decide.2 ⟨fun h => h.2.2, fun h => ⟨hs, he, h⟩⟩)
  generalize teq a b = RES at *
  have HE := Lib.hid he
  clear he
  go_enter Tryd.func42, Tryd.ntmps42
  go_wp2
  clear d0 d2
  go_loopw [5, 19] (fun u i wr => ∃ (k n : Nat), k ≤ a.size ∧ i = .int .i64 k ∧ u = .int .u8 (acc a b k : Int) ∧ wr = w.drewN n) (fun _ i _ => a.size - (intOf i).toNat)
  case atStart => exact ⟨0, 0, by omega, rfl, rfl, rfl⟩
  case round =>
    obtain ⟨k, n, hk, rfl, rfl, rfl⟩ := hrel
    have HA := Lib.hid (show acc a b (k + 1) = acc a b k ||| (bN a k ^^^ bN b k) from rfl)
    have hc := acc_lt a b k
    by_cases hlt : k < a.size
    · have hk2 : (k : Int) < (a.size : Int) := by omega
      have hkb : k < b.size := by have := HE.out; omega
      have hk3 : (k : Int) < (b.size : Int) := by omega
      have hk0 : (0 : Int) ≤ (k : Int) := Int.natCast_nonneg _
      have y0 : a[k].toNat = bN a k := bN_at a k hlt
      have y1 : b[k].toNat = bN b k := bN_at b k hkb
      have hxr := u8_xor (bN a k) (bN b k) (bN_lt _ _) (bN_lt _ _)
      have hor := u8_or_xor (acc a b k) (bN a k) (bN b k) hc (bN_lt _ _) (bN_lt _ _)
      rw [hxr] at hor
      generalize acc a b k = c at *
      generalize bN a k = ak at *
      generalize bN b k = bk at *
      go_wp2
      go_quiet (fail)
      go_wp2
      go_roundw
      case rel => exact ⟨k + 1, _, by omega, by go_num, by rw [HA.out], rfl⟩
      case measure => simp [intOf]; omega
    · have hfin := Lib.hid (show k = a.size by omega)
      have hd : (((acc a b k : Nat) : Int) == 0) = RES := by
        rw [HRES.out, hfin.out]
        generalize acc a b a.size = q
        cases q with
        | zero => rfl
        | succ q => simp; omega
      generalize acc a b k = c at *
      go_wp2
      go_ret
      exact ⟨by first | rfl | rw [hd] | simp_all, below_drewN (Below.refl _ _) n⟩

theorem spec_small (a b : ByteArray) (hs : a.size ≤ 65536) (hs2 : b.size ≤ 65536) (w : World) :
    Calls Tryd.prog 43 #[.string a, .string b] w fun e w' => e = .returned (.bool (teq a b)) ∧ Below w.heap.size w w' := by
  have d0 : decide (65536 < (a.size : Int)) = false := decide_eq_false (by omega)
  have d1 : decide (65536 < (b.size : Int)) = false := decide_eq_false (by omega)
  have HRES := Lib.hid (show teq a b = decide (a.size = b.size ∧ acc a b a.size = 0) from decide_eq_decide.2 ⟨fun h => h.2, fun h => ⟨hs, h⟩⟩)
  generalize teq a b = RES at *
  go_enter Tryd.func43, Tryd.ntmps43
  go_wp2
  clear d0 d1
  go_loopw [5, 6] (fun u i wr => ∃ (k n : Nat), k ≤ a.size ∧ k ≤ b.size ∧ i = .int .i64 k ∧ u = .int .i64 (acc a b k : Int) ∧ wr = w.drewN n) (fun _ i _ => a.size - (intOf i).toNat)
  case atStart => exact ⟨0, 0, by omega, by omega, rfl, rfl, rfl⟩
  case round =>
    obtain ⟨k, n, hk, hkk, rfl, rfl, rfl⟩ := hrel
    have HA := Lib.hid (show acc a b (k + 1) = acc a b k ||| (bN a k ^^^ bN b k) from rfl)
    have hc := acc_lt a b k
    by_cases hlt : k < a.size
    · have hk2 : (k : Int) < (a.size : Int) := by omega
      have hk0 : (0 : Int) ≤ (k : Int) := Int.natCast_nonneg _
      by_cases hkb : k < b.size
      · have hk3 : (k : Int) < (b.size : Int) := by omega
        have y0 : a[k].toNat = bN a k := bN_at a k hlt
        have y1 : b[k].toNat = bN b k := bN_at b k hkb
        have z0 := bN_lt a k
        have z1 := bN_lt b k
        have hxr := u8_xor (bN a k) (bN b k) z0 z1
        have hx8 : bN a k ^^^ bN b k < 256 := Nat.xor_lt_two_pow (n := 8) z0 z1
        have hwx : IntKind.i64.wrap ((bN a k ^^^ bN b k : Nat) : Int) = ((bN a k ^^^ bN b k : Nat) : Int) := by rw [IntKind.wrap_i64]; omega
        have hor := Word.i64_or (acc a b k) (bN a k ^^^ bN b k) (by omega) (by omega)
        generalize acc a b k = c at *
        generalize bN a k = ak at *
        generalize bN b k = bk at *
        generalize hxx : ak ^^^ bk = xx at *
        clear hxx
        go_wp2
        go_quiet (fail)
        go_wp2
        go_roundw
        case rel => exact ⟨k + 1, _, by omega, by omega, by go_num, by rw [HA.out], rfl⟩
        case measure => simp [intOf]; omega
      · have hk3 : ¬ (k : Int) < (b.size : Int) := by omega
        have hab : ((a.size : Int) == (b.size : Int)) = false := by simp; omega
        have HF := Lib.hid (show RES = false by rw [HRES.out]; exact decide_eq_false (by omega))
        generalize acc a b k = c at *
        cases hz : ((c : Int) == 0)
        · go_wp2
          go_ret
          exact ⟨by rw [HF.out]; first | rfl | simp_all, below_drewN (Below.refl _ _) n⟩
        · go_wp2
          go_ret
          exact ⟨by rw [HF.out]; first | rfl | simp_all, below_drewN (Below.refl _ _) n⟩
    · have hk2 : ¬ (k : Int) < (a.size : Int) := by omega
      have hfin := Lib.hid (show k = a.size by omega)
      have HR2 := Lib.hid (show RES = (((acc a b k : Nat) : Int) == 0 && ((a.size : Int) == (b.size : Int))) by
        rw [HRES.out, hfin.out]
        generalize acc a b a.size = q
        rw [Bool.eq_iff_iff]
        simp
        omega)
      generalize acc a b k = c at *
      cases hz : ((c : Int) == 0)
      · have HR3 := Lib.hid (show RES = false by rw [HR2.out, hz]; rfl)
        go_wp2
        go_ret
        exact ⟨by rw [HR3.out]; first | rfl | simp_all, below_drewN (Below.refl _ _) n⟩
      · have HR3 := Lib.hid (show RES = ((a.size : Int) == (b.size : Int)) by rw [HR2.out, hz]; rfl)
        go_wp2
        go_ret
        exact ⟨by rw [HR3.out]; first | rfl | simp_all, below_drewN (Below.refl _ _) n⟩

theorem spec (a b : ByteArray) (ha : a.size ≤ maxLen) (hb : b.size ≤ maxLen) (w : World) :
    Calls Tryd.prog 43 #[.string a, .string b] w fun e w' => e = .returned (.bool (teq a b)) ∧ Below w.heap.size w w' := by
  unfold maxLen at ha hb
  by_cases h1 : 65536 < a.size
  · rw [show teq a b = false from decide_eq_false (by omega)]
    go_enter Tryd.func43, Tryd.ntmps43
    go_wp2
    go_ret
    exact ⟨rfl, Below.refl _ _⟩
  · have d1 : decide (65536 < (a.size : Int)) = false := decide_eq_false (by omega)
    by_cases h2 : 65536 < b.size
    · rw [show teq a b = false from decide_eq_false (by omega)]
      go_enter Tryd.func43, Tryd.ntmps43
      go_wp2
      go_ret
      exact ⟨rfl, Below.refl _ _⟩
    · exact spec_small a b (by omega) (by omega) w
theorem impl (a b : ByteArray) (ha : a.size ≤ maxLen) (hb : b.size ≤ maxLen) (w : World) :
    Calls Tryd.prog 42 #[.string a, .string b] w fun e w' => e = .returned (.bool (teq a b)) ∧ Below w.heap.size w w' := by
  unfold maxLen at ha hb
  by_cases h1 : 65536 < a.size
  · rw [show teq a b = false from decide_eq_false (by omega)]
    go_enter Tryd.func42, Tryd.ntmps42
    go_wp2
    go_ret
    exact ⟨rfl, Below.refl _ _⟩
  · have d1 : decide (65536 < (a.size : Int)) = false := decide_eq_false (by omega)
    by_cases h2 : a.size = b.size
    · exact impl_loop a b (by omega) h2 w
    · rw [show teq a b = false from decide_eq_false (by omega)]
      have d3 : ((a.size : Int) != (b.size : Int)) = true := by simp; omega
      go_enter Tryd.func42, Tryd.ntmps42
      go_wp2
      go_ret
      exact ⟨rfl, Below.refl _ _⟩

end Go.Proofs.YtcfdnifllehbjaaDoor.TagEq
