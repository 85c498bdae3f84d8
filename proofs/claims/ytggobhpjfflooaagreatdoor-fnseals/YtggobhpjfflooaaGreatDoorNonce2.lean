/-
  What is proved: the model's nonce of a block is the plain one; both NonceOf answer one plain value; the exact law on nonces returns true (the walk), where the package's errors and errors' own variable stand in their places.
-/
import Derived.Test.YtggobhpjfflooaaGreatDoorRows
import Derived.Test.YtggobhpjfflooaaGreatDoorNonce
import Derived.Deep.CutRange
namespace Go.Proofs.YtggobhpjfflooaaGreatDoor.Nonce2
open Go.ChangeShapes Go.WideShapes Go.ChangeAt Go.RowKit
open Low (b8 b8_length lenT lenT_size)
open As (pv Hnd)
open Nonce
open BoxErr (Two)
set_option linter.unusedVariables false

theorem four (k p : Nat) (hk : k ≤ 3) (hp : p < 40) (e : Nat) : nonT k p e = ⟨#[UInt8.ofNat k, UInt8.ofNat p, 0, 0]⟩ ++ lenT e := by
  apply ByteArray.ext
  rw [ByteArray.data_append]
  show (nonL k p e).toArray = _ ++ (b8 e 8).toArray
  have e1 : b8 k 1 = [UInt8.ofNat k] := by
    show [] ++ [UInt8.ofNat (k / 2 ^ (8 * 0) % 256)] = _
    rw [List.nil_append, Nat.mul_zero, Nat.pow_zero, Nat.div_one, Nat.mod_eq_of_lt (by omega)]
  have e2 : b8 p 2 = [UInt8.ofNat p, 0] := by
    show [] ++ [UInt8.ofNat (p / 2 ^ (8 * 0) % 256)] ++ [UInt8.ofNat (p / 2 ^ (8 * 1) % 256)] = _
    rw [List.nil_append, Nat.mul_zero, Nat.pow_zero, Nat.div_one, Nat.mod_eq_of_lt (show p < 256 by omega), show p / 2 ^ (8 * 1) % 256 = 0 by omega]
    rfl
  unfold nonL
  rw [e1, e2]
  simp
theorem back4 (k p : Nat) (hk : k ≤ 3) (hp : p < 40) (w : World) (g : Nat) (h : w.heap[g]? = some (.cells #[.int .u8 (k : Int), .int .u8 (p : Int), .int .u8 0, .int .u8 0] 5 (0, 0))) :
    (convert 22 9 (.slice (some ⟨g, 0, none⟩) 4 4)).run Tryz.prog w = .ok (.string ⟨#[UInt8.ofNat k, UInt8.ofNat p, 0, 0]⟩) w := by
  refine Flat.back w g 4 4 [UInt8.ofNat k, UInt8.ofNat p, 0, 0] rfl fun j hj => ?_
  rw [cell_of_row w g j _ _ _ h]
  match j, hj with
  | 0, _ => show some (Value.int .u8 (k : Int)) = some (Value.int .u8 ((UInt8.ofNat k).toNat : Int)); rw [UInt8.toNat_ofNat', Nat.mod_eq_of_lt (by omega)]
  | 1, _ => show some (Value.int .u8 (p : Int)) = some (Value.int .u8 ((UInt8.ofNat p).toNat : Int)); rw [UInt8.toNat_ofNat', Nat.mod_eq_of_lt (by omega)]
  | 2, _ => rfl
  | 3, _ => rfl
  | j + 4, hj => exact absurd hj (by simp)

set_option maxRecDepth 100000 in
set_option maxHeartbeats 1600000 in
theorem l06Nonce (k p e : Nat) (hk : k ≤ 3) (hp : p < 40) (he : e ≤ 1099511627776) (w : World) :
    Calls Tryz.prog 42 #[.int .i64 (k : Int), .int .i64 (p : Int), .int .i64 (e : Int)] w fun ev w' => ev = .returned (.string (nonT k p e)) ∧ Below w.heap.size w w' := by
  have HR := Lib.hid (four k p hk hp e)
  rw [HR.out]
  have HE := Lib.hid (Low.l04Eight e he)
  have hs := lenT_size e
  have HB4 := Lib.hid (back4 k p hk hp)
  have k1 : IntKind.u8.wrap (k : Int) = (k : Int) := by rw [IntKind.wrap_u8']; omega
  have p1 : IntKind.u8.wrap (p : Int) = (p : Int) := by rw [IntKind.wrap_u8']; omega
  have p2 : (p : Int) / 2 ^ 8 = 0 := by omega
  have p3 : (p : Int) / 256 = 0 := by omega
  generalize lenT e = L at *
  have hs2 : ¬ 9223372036854775807 < 4 + L.size := by omega
  obtain ⟨F, hF⟩ : ∃ F : ByteArray, (⟨#[UInt8.ofNat k, UInt8.ofNat p, 0, 0]⟩ : ByteArray) = F := ⟨_, rfl⟩
  have hFs : F.size = 4 := by rw [← hF]; rfl
  have hs3 : ¬ 9223372036854775807 < F.size + L.size := by omega
  rw [hF] at HB4 ⊢
  clear hF HR
  go_enter Tryz.func42, Tryz.ntmps42
  go_upto_region 1 with (fail)
  have hc1 := fun u : World => HB4.out (u.alloc (.cells #[.int .u8 (k : Int), .int .u8 (p : Int), .int .u8 0, .int .u8 0] 5)) u.heap.size (heap_alloc_new u _)
  have hc2 := fun (u : World) n => HB4.out ((u.drewN n).alloc (.cells #[.int .u8 (k : Int), .int .u8 (p : Int), .int .u8 0, .int .u8 0] 5)) u.heap.size (heap_alloc_new (u.drewN n) _)
  have wz0 : IntKind.u8.wrap 0 = 0 := rfl
  have hc5 := fun u : World => HB4.out (u.alloc (.cells #[.int .u8 (k : Int), .int .u8 (p : Int), .int .u8 0, .int .u8 0] 5)).drew u.heap.size (heap_alloc_new u _)
  have hc4 := fun (u : World) => HB4.out (u.drew.alloc (.cells #[.int .u8 (k : Int), .int .u8 (p : Int), .int .u8 0, .int .u8 0] 5)) u.heap.size (heap_alloc_new u.drew _)
  go_region_with ((go_at_call 61; refine (HE.out _).mono ?_; rintro e' w2 ⟨rfl, hb⟩; have HB : Hid (Below w.heap.size w w2) := Lib.hid (Below.trans (by repeat (with_reducible (first | exact Below.refl _ _ | refine Below.drew ?_ | refine below_drewN ?_ _ | refine Below.alloc ?_ (by first | exact Nat.le_refl _ | omega | (simp; done) | (simp; omega)) _))) (hb.mono (by first | exact Nat.le_refl _ | (simp; done) | (simp; omega)))); have hz2 := HB.out.size; (try have hc3 := HB4.out w2 w.heap.size ((hb.block _ (by simp)).trans (heap_alloc_new _ _))); clear hb))
  all_goals
    go_wp2
    go_ret
    exact ⟨rfl, by repeat (with_reducible (first | exact Below.refl _ _ | exact HB.out | refine Below.drew ?_ | refine below_drewN ?_ _ | refine Below.alloc ?_ (by first | exact Nat.le_refl _ | omega | (simp; done) | (simp; omega)) _))⟩

/-- What both NonceOf answer. -/
def res (k p e : Int) : Value := if Ok k p e then .tuple #[.string (nonT k.toNat p.toNat e.toNat), .int .i64 0] else .tuple #[.string ⟨#[]⟩, .int .i64 4]
theorem res_form (k p e : Int) : ∃ (s : ByteArray) (c : Int), res k p e = .tuple #[.string s, .int .i64 c] := by
  unfold res
  split
  · exact ⟨_, _, rfl⟩
  · exact ⟨_, _, rfl⟩
/-- Numbers that have a nonce are natural ones. -/
theorem nat_of {k p e : Int} (h : Ok k p e) : ∃ K P E : Nat, k = K ∧ p = P ∧ e = E ∧ K ≤ 3 ∧ 1 ≤ K ∧ P < 40 ∧ E ≤ 1099511627776 := by
  obtain ⟨h1, h2, ⟨h3, h4⟩, h5, h6⟩ := h
  exact ⟨k.toNat, p.toNat, e.toNat, by omega, by omega, by omega, by omega, by omega, by omega, by omega⟩

theorem impl (k p e : Int) (w : World) (H : Hnd w) :
    Calls Tryz.prog 11 #[.int .i64 k, .int .i64 p, .int .i64 e] w fun ev w' => ev = .returned (res k p e) ∧ Below w.heap.size w w' := by
  have HF := Lib.hid (nonceFault k p e)
  unfold res
  by_cases h : Ok k p e
  · rw [if_pos h] at HF ⊢
    obtain ⟨K, P, E, rfl, rfl, rfl, hK, _, hP, hE⟩ := nat_of h
    have HN := Lib.hid (nonceOf K P E hK hP hE)
    rw [Int.toNat_natCast, Int.toNat_natCast, Int.toNat_natCast]
    generalize nonT K P E = T at *
    clear h hK hP hE
    go_enter Tryz.func11, Tryz.ntmps11
    go_wp2_with fail
    refine (HF.out _).mono ?_
    rintro e' w1 ⟨rfl, rfl⟩
    go_wp2_with fail
    refine (HN.out _).mono ?_
    rintro e' w1 ⟨rfl, hb⟩
    have HB := Lib.hid hb
    clear hb
    go_wp2
    go_ret2
    exact ⟨rfl, HB.out⟩
  · rw [if_neg h] at HF ⊢
    have HC := Lib.hid (code_hit p 4 w H)
    clear h
    go_enter Tryz.func11, Tryz.ntmps11
    go_wp2_with fail
    refine (HF.out _).mono ?_
    rintro e' w1 ⟨rfl, rfl⟩
    go_wp2_with fail
    refine (HC.out).mono ?_
    rintro e' w1 ⟨rfl, hb⟩
    have HB := Lib.hid hb
    clear hb
    go_wp2
    go_ret2
    exact ⟨rfl, HB.out⟩

end Go.Proofs.YtggobhpjfflooaaGreatDoor.Nonce2
