/-
  What is proved: both ways to xor two texts answer one plain function of them; the law on them returns true (the walk).
-/
import Derived.Test.YtcfdnifllehbjaaRows
import Derived.Test.YtcfdnifllehbjaaBytes
import Derived.Test.YtcfdnifllehbjaaXorInto
import Derived.Lib.ConvBytes
namespace Go.Proofs.Ytcfdnifllehbjaa.XorOf
open Go.ChangeShapes Go.WideShapes Go.ChangeAt Go.RowKit
open Bytes (BV Owns)
open Word (bN bN_lt bN_at)
open XorInto (RowF Only)
set_option linter.unusedVariables false

/-- n bytes: those of a xored with those of b. -/
def xb (a b : Nat → Nat) (n : Nat) : List UInt8 := (List.range n).map fun j => UInt8.ofNat (a j ^^^ b j)
theorem xb_length (a b : Nat → Nat) (n : Nat) : (xb a b n).length = n := by simp [xb]
theorem xb_snoc (a b : Nat → Nat) (n : Nat) : xb a b (n + 1) = xb a b n ++ [UInt8.ofNat (a n ^^^ b n)] := by simp [xb, List.range_succ]
theorem xb_cell (a b : Nat → Nat) (j : Nat) (ha : a j < 256) (hb : b j < 256) : BV [UInt8.ofNat (a j ^^^ b j)] = [.int .u8 ((a j ^^^ b j : Nat) : Int)] := by
  have h : a j ^^^ b j < 256 := Nat.xor_lt_two_pow (n := 8) ha hb
  simp only [BV, List.map_cons, List.map_nil, UInt8.toNat_ofNat']
  rw [Nat.mod_eq_of_lt h]
theorem xb_at (a b : Nat → Nat) (n j : Nat) (hj : j < n) (ha : a j < 256) (hb : b j < 256) : ((xb a b n)[j]'(by rw [xb_length]; exact hj)).toNat = a j ^^^ b j := by
  have h : a j ^^^ b j < 256 := Nat.xor_lt_two_pow (n := 8) ha hb
  simp only [xb, List.getElem_map, List.getElem_range, UInt8.toNat_ofNat']
  exact Nat.mod_eq_of_lt h
def xorT (a b : ByteArray) : ByteArray := ⟨(xb (bN a) (bN b) a.size).toArray⟩

theorem bytes_at (w : World) (s : ByteArray) (j : Nat) (hj : j < s.size) : (Lib.bytesCells w 5 s).toList[j]? = some (.int .u8 (bN s j : Int)) := by
  have h1 := Lib.bytesWorld_cell w 5 s j hj
  have h2 := cell_of_row _ w.heap.size j _ _ _ (Lib.bytesWorld_at_new w 5 s)
  rw [h2] at h1
  rw [Array.getElem?_toList, h1]
  rfl
theorem bytes_size (w : World) (s : ByteArray) : s.size ≤ (Lib.bytesCells w 5 s).size := by
  simp [Lib.bytesCells]
theorem bytes_below (w : World) (s : ByteArray) : Below w.heap.size w (Lib.bytesWorld w 5 s) :=
  ⟨rfl, rfl, rfl, by rw [Lib.bytesWorld_size]; omega, fun k hk => Lib.bytesWorld_at_old w 5 s k hk⟩

set_option maxRecDepth 100000 in
set_option maxHeartbeats 1600000 in
theorem impl_ok (a b : ByteArray) (hs : a.size ≤ 65536) (he : a.size = b.size) (w : World) :
    Calls Try.prog 12 #[.string a, .string b] w fun e w' => e = .returned (.tuple #[.string (xorT a b), .int .i64 0]) ∧ Below w.heap.size w w' := by
  have d0 : decide (65536 < (a.size : Int)) = false := decide_eq_false (by omega)
  have d1 : decide (65536 < (b.size : Int)) = false := decide_eq_false (by omega)
  have d2 : ((a.size : Int) != (b.size : Int)) = false := by rw [he]; simp
  have HE := Lib.hid he
  have HS := Lib.hid hs
  have k1 := fun u : World => Lib.run_convert_string_bytes (P := Try.prog) u 9 22 5 a Try.underlying9 Try.underlying22 Try.underlying5
  have k2 := fun u : World => Lib.run_convert_string_bytes (P := Try.prog) u 9 22 5 b Try.underlying9 Try.underlying22 Try.underlying5
  have hsz := Lib.bytesWorld_size w 5 a
  have HR1 := Lib.hid (Lib.bytesWorld_at_new w 5 a)
  have HB1 := Lib.hid (bytes_below w a)
  clear he hs
  go_enter Try.func12, Try.ntmps12
  go_wp2_with fail
  clear k1 k2 d0 d1 d2
  have hsz2 := Lib.bytesWorld_size (Lib.bytesWorld w 5 a) 5 b
  have HR2 := Lib.hid (Lib.bytesWorld_at_new (Lib.bytesWorld w 5 a) 5 b)
  have HB2 := Lib.hid (bytes_below (Lib.bytesWorld w 5 a) b)
  have HBY := Lib.hid (bytes_at (Lib.bytesWorld w 5 a) b)
  rw [hsz] at HR2
  refine (XorInto.xorInto w.heap.size 0 a.size _ (w.heap.size + 1) 0 b.size _ 5 ((Lib.bytesCells w 5 a).size, (Lib.bytesCells w 5 a).size + 1) (Lib.bytesCells w 5 a).toList (bN a) (bN b) (by omega) (by have := HE.out; omega) (by have := HE.out; have := HS.out; omega) _ ?_ (.inl ?_) ?_ (bN_lt a) ?_ (bN_lt b)).mono ?_
  · exact (HB2.out.block w.heap.size (by rw [hsz]; omega)).trans HR1.out
  · rw [Nat.zero_add]; exact bytes_size w a
  · intro j hj; rw [Nat.zero_add]; exact bytes_at w a j hj
  · intro j hj
    rw [Nat.zero_add, cell_of_row _ _ j _ _ _ HR2.out]
    have := HBY.out j (by have := HE.out; omega)
    rw [Array.getElem?_toList] at this
    exact this
  rintro e w1 ⟨rfl, HX⟩
  obtain ⟨ho, ys, hr, hl, h1, h2⟩ := HX.out
  have HO := Lib.hid (HB1.out.trans ((HB2.out.mono (by rw [hsz]; omega)).trans (ho.below (Nat.le_refl _))))
  have kc := fun cap => run_convert_bytes_back (P := Try.prog) w1 22 9 5 ⟨w.heap.size, 0, none⟩ cap (xb (bN a) (bN b) a.size) Try.underlying22 Try.underlying5 Try.underlying9 (fun j hj => by
    rw [xb_length] at hj
    have hadd : (⟨w.heap.size, 0, none⟩ : Addr).add j = ⟨w.heap.size, j, none⟩ := by unfold Addr.add; split <;> simp_all
    have := h1 j hj
    rw [Nat.zero_add] at this
    rw [hadd, hr.cell, this, xb_at _ _ _ _ hj (bN_lt _ _) (bN_lt _ _)])
  rw [xb_length] at kc
  clear HX ho hr hl h1 h2 HR1 HR2 HB1 HB2 HBY
  go_wp2
  go_ret2
  exact ⟨rfl, HO.out⟩

/-- What both answer. -/
def res (a b : ByteArray) : Value :=
  if 65536 < a.size ∨ 65536 < b.size then .tuple #[.string ⟨#[]⟩, .int .i64 2]
  else if a.size ≠ b.size then .tuple #[.string ⟨#[]⟩, .int .i64 8]
  else .tuple #[.string (xorT a b), .int .i64 0]

theorem impl (a b : ByteArray) (ha : a.size ≤ maxLen) (hb : b.size ≤ maxLen) (w : World) :
    Calls Try.prog 12 #[.string a, .string b] w fun e w' => e = .returned (res a b) ∧ Below w.heap.size w w' := by
  unfold res
  unfold maxLen at ha hb
  by_cases h1 : 65536 < a.size
  · rw [if_pos (.inl h1)]
    go_enter Try.func12, Try.ntmps12
    go_wp2
    go_ret2
    exact ⟨rfl, Below.refl _ _⟩
  · have d1 : decide (65536 < (a.size : Int)) = false := decide_eq_false (by omega)
    by_cases h2 : 65536 < b.size
    · rw [if_pos (.inr h2)]
      go_enter Try.func12, Try.ntmps12
      go_wp2
      go_ret2
      exact ⟨rfl, Below.refl _ _⟩
    · rw [if_neg (by omega)]
      have d2 : decide (65536 < (b.size : Int)) = false := decide_eq_false (by omega)
      by_cases h3 : a.size = b.size
      · rw [if_neg (fun h => h h3)]
        exact impl_ok a b (by omega) h3 w
      · rw [if_pos h3]
        have d3 : ((a.size : Int) != (b.size : Int)) = true := by simp; omega
        go_enter Try.func12, Try.ntmps12
        go_wp2
        go_ret2
        exact ⟨rfl, Below.refl _ _⟩
theorem res_form (a b : ByteArray) : ∃ (s : ByteArray) (c : Int), res a b = .tuple #[.string s, .int .i64 c] := by
  unfold res
  split
  · exact ⟨_, _, rfl⟩
  · split
    · exact ⟨_, _, rfl⟩
    · exact ⟨_, _, rfl⟩

end Go.Proofs.Ytcfdnifllehbjaa.XorOf
