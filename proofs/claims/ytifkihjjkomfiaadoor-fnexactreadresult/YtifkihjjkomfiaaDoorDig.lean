/-
  What is proved: the model's digits of a number that is not negative are the plain ones (a contract for the walks).
-/
import Derived.Test.YtifkihjjkomfiaaDoorRows
import Derived.Test.YtifkihjjkomfiaaDoorTxt
import Derived.Test.YtifkihjjkomfiaaDoorFlat
import Derived.Test.YtifkihjjkomfiaaDoorDev
import Derived.Deep.CutRange
import Derived.Deep.RegionWith
namespace Go.Proofs.YtifkihjjkomfiaaDoor.Dig
open Go.ChangeShapes Go.WideShapes Go.ChangeAt Go.RowKit
open Txt Dev
set_option linter.unusedVariables false

/-- The digits as a text. -/
def ds (n : Nat) : ByteArray := ⟨(Lib.decDigits n).toArray⟩
theorem ds_size (n : Nat) (h : n < 1000000000000000000) : (ds n).size ≤ 18 := by
  show (Lib.decDigits n).toArray.size ≤ 18
  rw [List.size_toArray]
  exact dec_len 17 n (by simpa using h)
theorem ds_small (n : Nat) (h : n < 10) : ds n = ⟨#[UInt8.ofNat (48 + n)]⟩ := by unfold ds; rw [Lib.decDigits, dif_pos h]
theorem ds_more (n : Nat) (h : ¬ n < 10) : ds n = ds (n / 10) ++ ⟨#[UInt8.ofNat (48 + n % 10)]⟩ := by
  unfold ds
  conv => lhs; rw [Lib.decDigits, dif_neg h]
  apply ByteArray.ext
  rw [ByteArray.data_append]
  simp
theorem one_back (y : Nat) (hy : y < 256) (u : World) (g : Nat) (h : u.heap[g]? = some (.cells #[.int .u8 (y : Int)] 5 (0, 0))) : (convert 58 9 (.slice (some ⟨g, 0, none⟩) 1 1)).run Tryd.prog u = .ok (.string ⟨#[UInt8.ofNat y]⟩) u := by
  refine Flat.back u g 1 1 [UInt8.ofNat y] rfl fun j hj => ?_
  rw [cell_of_row u g j _ _ _ h]
  match j, hj with
  | 0, _ => show some (Value.int .u8 (y : Int)) = some (Value.int .u8 ((UInt8.ofNat y).toNat : Int)); rw [UInt8.toNat_ofNat', Nat.mod_eq_of_lt hy]
  | j + 1, hj => exact absurd hj (by simp)

set_option maxRecDepth 100000 in
set_option maxHeartbeats 1600000 in
theorem l00Digits : ∀ (n : Nat), n < 1000000000000000000 → ∀ w : World,
    Calls Tryd.prog 29 #[.int .i64 (n : Int)] w fun e w' => e = .returned (.string (ds n)) ∧ Below w.heap.size w w' := by
  intro n
  induction n using Nat.strongRecOn with
  | _ n ih =>
  intro hn w
  have IH := Lib.hid ih
  clear ih
  have z1 : ((n : Int) == -9223372036854775808) = false := beq_eq_false_iff_ne.2 (by omega)
  by_cases h : n < 10
  · rw [ds_small n h]
    have HB1 := Lib.hid (one_back (48 + n) (by omega))
    have k1 : IntKind.u8.wrap (48 + (n : Int)) = 48 + (n : Int) := by rw [IntKind.wrap_u8']; omega
    obtain ⟨F, hF⟩ : ∃ F : ByteArray, (⟨#[UInt8.ofNat (48 + n)]⟩ : ByteArray) = F := ⟨_, rfl⟩
    rw [hF] at HB1 ⊢
    clear hF
    have hc1 := fun u : World => HB1.out (u.alloc (.cells #[.int .u8 ((48 + n : Nat) : Int)] 5)) u.heap.size (heap_alloc_new u _)
    simp only [Int.natCast_add, Int.cast_ofNat_Int] at hc1
    go_enter Tryd.func29, Tryd.ntmps29
    go_wp2
    go_ret
    exact ⟨rfl, (Below.refl _ _).alloc (Nat.le_refl _) _⟩
  · have HD := Lib.hid (IH.out (n / 10) (by omega) (by omega))
    have HS := Lib.hid (ds_size (n / 10) (by omega))
    have HM := Lib.hid (ds_more n h)
    rw [HM.out]
    obtain ⟨d, ed⟩ : ∃ d, n % 10 = d := ⟨_, rfl⟩
    obtain ⟨q, eq⟩ : ∃ q, n / 10 = q := ⟨_, rfl⟩
    have hd : d < 10 := by omega
    have HQ := Lib.hid (show (n : Int) / 10 = (q : Int) by omega)
    have HR := Lib.hid (show (n : Int) % 10 = (d : Int) by omega)
    rw [ed, eq]
    rw [eq] at HD HS
    clear HM
    have hs : (ds q).size ≤ 18 := HS.out
    generalize ds q = L at *
    have hq0 := HQ.out
    have hr0 := HR.out
    have hqm : Int.tmod (n : Int) 10 = (d : Int) := by rw [Int.tmod_eq_emod_of_nonneg (by omega)]; exact HR.out
    have hqd : Int.tdiv (n : Int) 10 = (q : Int) := by rw [Int.tdiv_eq_ediv_of_nonneg (by omega)]; exact HQ.out
    have hwq : IntKind.i64.wrap (q : Int) = (q : Int) := by rw [IntKind.wrap_i64]; omega
    have hw48 : IntKind.i64.wrap (48 + (d : Int)) = 48 + (d : Int) := by rw [IntKind.wrap_i64]; omega
    have hwd : IntKind.i64.wrap (d : Int) = (d : Int) := by rw [IntKind.wrap_i64]; omega
    have HB1 := Lib.hid (one_back (48 + d) (by omega))
    have k1 : IntKind.u8.wrap (48 + (d : Int)) = 48 + (d : Int) := by rw [IntKind.wrap_u8']; omega
    obtain ⟨F, hF⟩ : ∃ F : ByteArray, (⟨#[UInt8.ofNat (48 + d)]⟩ : ByteArray) = F := ⟨_, rfl⟩
    have hFs : F.size = 1 := by rw [← hF]; rfl
    have hs3 : ¬ 9223372036854775807 < L.size + F.size := by omega
    have hs4 : ¬ 9223372036854775807 < L.size + 1 := by omega
    rw [hF] at HB1 ⊢
    clear hF ed eq IH
    have h10 : ¬ (n : Int) < 10 := by omega
    go_enter Tryd.func29, Tryd.ntmps29
    go_upto_region 7 with (fail)
    have hc1 := fun u : World => HB1.out (u.alloc (.cells #[.int .u8 ((48 + d : Nat) : Int)] 5)) u.heap.size (heap_alloc_new u _)
    have hc2 := fun (u : World) n => HB1.out ((u.drewN n).alloc (.cells #[.int .u8 ((48 + d : Nat) : Int)] 5)) u.heap.size (heap_alloc_new (u.drewN n) _)
    have hc5 := fun u : World => HB1.out (u.alloc (.cells #[.int .u8 ((48 + d : Nat) : Int)] 5)).drew u.heap.size (heap_alloc_new u _)
    have hc4 := fun (u : World) => HB1.out (u.drew.alloc (.cells #[.int .u8 ((48 + d : Nat) : Int)] 5)) u.heap.size (heap_alloc_new u.drew _)
    simp only [Int.natCast_add, Int.cast_ofNat_Int] at hc1 hc2 hc4 hc5
    go_region_with ((go_at_call 29; refine (HD.out _).mono ?_; rintro e' w2 ⟨rfl, hb⟩; have HB : Hid (Below w.heap.size w w2) := Lib.hid (Below.trans (by repeat (with_reducible (first | exact Below.refl _ _ | refine Below.drew ?_ | refine below_drewN ?_ _ | refine Below.alloc ?_ (by first | exact Nat.le_refl _ | omega | (simp; done) | (simp; omega)) _))) (hb.mono (by first | exact Nat.le_refl _ | (simp; done) | (simp; omega)))); have hz2 := HB.out.size; (try have hc3 := HB1.out w2 w.heap.size ((hb.block _ (by simp)).trans (heap_alloc_new _ _))); (try simp only [Int.natCast_add, Int.cast_ofNat_Int] at hc3); clear hb))
    all_goals
      go_wp2
      go_ret
      exact ⟨rfl, by repeat (with_reducible (first | exact Below.refl _ _ | exact HB.out | refine Below.drew ?_ | refine below_drewN ?_ _ | refine Below.alloc ?_ (by first | exact Nat.le_refl _ | omega | (simp; done) | (simp; omega)) _))⟩
end Go.Proofs.YtifkihjjkomfiaaDoor.Dig
