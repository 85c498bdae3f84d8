/-
  What is proved: both ways to xor two texts answer one plain function of them; the law on them returns true (the walk).
-/
import Derived.Test.YtehdiabkpaoekaaRows
import Derived.Test.YtehdiabkpaoekaaBytes
import Derived.Test.YtehdiabkpaoekaaXorInto
import Derived.Lib.ConvBytes
namespace Go.Proofs.Ytehdiabkpaoekaa.XorOf
open Go.ChangeShapes Go.WideShapes Go.ChangeAt Go.RowKit
open Bytes (BV Owns)
open Word (bN bN_lt bN_at)
open XorInto (RowF Only)
set_option linter.unusedVariables false

/-- n bytes: those of a xored with those of b. -/
def xb (a b : Nat → Nat) (n : Nat) : List UInt8 := (List.range n).map fun j => UInt8.ofNat (a j ^^^ b j)
theorem xb_length (a b : Nat → Nat) (n : Nat) : (xb a b n).length = n := by simp [xb]
theorem xb_snoc (a b : Nat → Nat) (n : Nat) : xb a b (n + 1) = xb a b n ++ [UInt8.ofNat (a n ^^^ b n)] := by simp [xb, List.range_succ]
theorem xb_cell (a b : Nat → Nat) (j : Nat) (ha : a j < 256) (hb : b j < 256) : BV [UInt8.ofNat (a j ^^^ b j)] = [.int .u8 ((a j ^^^ b j : Nat) : Int)] := by
  have h : a j ^^^ b j < 256 := Nat.xor_lt_two_pow (n := 8) ha hb
  simp only [BV, List.map_cons, List.map_nil, UInt8.toNat_ofNat']
  rw [Nat.mod_eq_of_lt h]
theorem xb_at (a b : Nat → Nat) (n j : Nat) (hj : j < n) (ha : a j < 256) (hb : b j < 256) : ((xb a b n)[j]'(by rw [xb_length]; exact hj)).toNat = a j ^^^ b j := by
  have h : a j ^^^ b j < 256 := Nat.xor_lt_two_pow (n := 8) ha hb
  simp only [xb, List.getElem_map, List.getElem_range, UInt8.toNat_ofNat']
  exact Nat.mod_eq_of_lt h
def xorT (a b : ByteArray) : ByteArray := ⟨(xb (bN a) (bN b) a.size).toArray⟩

set_option maxRecDepth 100000 in
set_option maxHeartbeats 1600000 in
theorem spec_ok (a b : ByteArray) (hs : a.size ≤ 65536) (he : a.size = b.size) (w : World) :
    Calls Try.prog 21 #[.string a, .string b] w fun e w' => e = .returned (.tuple #[.string (xorT a b), .int .i64 0]) ∧ Below w.heap.size w w' := by
  obtain ⟨i0, hi0, hz0, hz1, hz2⟩ := info_parts Bytes.info5
  have d0 : decide (65536 < (a.size : Int)) = false := decide_eq_false (by omega)
  have d1 : decide (65536 < (b.size : Int)) = false := decide_eq_false (by omega)
  have d2 : ((a.size : Int) != (b.size : Int)) = false := by rw [he]; simp
  have hb1 : a.size ≤ b.size := by omega
  have HE := Lib.hid he
  clear he
  go_enter Try.func21, Try.ntmps21
  go_wp2
  clear d0 d1 d2
  go_loopw [6, 7] (fun v i wr => ∃ k : Nat, k ≤ a.size ∧ i = .int .i64 k ∧ Hid (Owns wr w.heap.size v (xb (bN a) (bN b) k)) ∧ Hid (Below w.heap.size w wr)) (fun _ i _ => a.size - (intOf i).toNat)
  case atStart => exact ⟨0, by omega, rfl, Lib.hid (Bytes.owns_made w w.heap.size 0 #[] (Nat.le_refl _) (by unfold maxLen; omega) rfl), Lib.hid ((Below.refl _ _).alloc (Nat.le_refl _) _)⟩
  case round =>
    rename_i wr
    obtain ⟨k, hk, rfl, R, HB⟩ := hrel
    have HL := Lib.hid (xb_length (bN a) (bN b) k)
    have hl1 : (xb (bN a) (bN b) k).length ≤ 65536 := by rw [HL.out]; omega
    have hz := Lib.hid HB.out.size
    by_cases hlt : k < a.size
    · have hk2 : (k : Int) < (a.size : Int) := by omega
      have hk3 : (k : Int) < (b.size : Int) := by omega
      have hk0 : (0 : Int) ≤ (k : Int) := Int.natCast_nonneg _
      have hkb : k < b.size := by omega
      have HS := Lib.hid (xb_snoc (bN a) (bN b) k)
      have HT := Lib.hid (xb_cell (bN a) (bN b) k (bN_lt _ _) (bN_lt _ _))
      have y0 : a[k].toNat = bN a k := bN_at a k hlt
      have y1 : b[k].toNat = bN b k := bN_at b k hkb
      have z0 := bN_lt a k
      have z1 := bN_lt b k
      have hxr := XorInto.u8_xor (bN a k) (bN b k) z0 z1
      generalize bN a k = ak at *
      generalize bN b k = bk at *
      go_wp2
      go_region_held3 (fun w' => True) (trivial)
        ((refine step_append_lies _ (by rfl) _ _ _ (by rfl) w.heap.size 5 i0 _ 1 1 Try.underlying22 hi0 hz0 hz1 hz2 rfl (by omega) _ (xb (bN a) (bN b) k).length (BV (xb (bN a) (bN b) k)) (by rfl) ((World.ownsRow.alloc R.out _).drew) ⟨wr.heap.size, 0, none⟩ 1 1 [.int .u8 ((ak ^^^ bk : Nat) : Int)] (by rfl) (by rfl) (World.news_of_block (cs := #[.int .u8 ((ak ^^^ bk : Nat) : Int)]) (t := 5) (fr := (0, 0)) (heap_alloc_new wr _)) (by simp [Value.oneCell']) (by omega) (by unfold maxLen; omega) (by omega) (by have := hz.out; simp; omega) (wr.heap.size + 1) (by simp) ?_; intro gg cap w1 hown1 hgrow hat hlt1))
      all_goals
        have HO := Lib.hid hown1
        have HG := Lib.hid hgrow
        clear hown1 hgrow hat hlt1 hxr y0 y1
        go_wp2
        go_roundw
        case rel => exact ⟨k + 1, by omega, by go_num, Lib.hid (by
          rw [HS.out]
          have := HO.out
          rw [← HT.out] at this
          exact Bytes.owns_grown this rfl), Lib.hid ((HB.out.trans (((Below.refl _ _).alloc HB.out.size _).drew)).grown HG.out (by have := hz.out; simp; omega) (Owns.block R.out))⟩
        case measure => simp [intOf]; omega
    · have hfin := Lib.hid (show k = a.size by omega)
      have hconv := R.out.string
      rw [hfin.out] at hconv
      go_wp2
      go_ret2
      exact ⟨rfl, HB.out⟩

theorem bytes_at (w : World) (s : ByteArray) (j : Nat) (hj : j < s.size) : (Lib.bytesCells w 5 s).toList[j]? = some (.int .u8 (bN s j : Int)) := by
  have h1 := Lib.bytesWorld_cell w 5 s j hj
  have h2 := cell_of_row _ w.heap.size j _ _ _ (Lib.bytesWorld_at_new w 5 s)
  rw [h2] at h1
  rw [Array.getElem?_toList, h1]
  rfl
theorem bytes_size (w : World) (s : ByteArray) : s.size ≤ (Lib.bytesCells w 5 s).size := by
  simp [Lib.bytesCells]
theorem bytes_below (w : World) (s : ByteArray) : Below w.heap.size w (Lib.bytesWorld w 5 s) :=
  ⟨rfl, rfl, rfl, by rw [Lib.bytesWorld_size]; omega, fun k hk => Lib.bytesWorld_at_old w 5 s k hk⟩

set_option maxRecDepth 100000 in
set_option maxHeartbeats 1600000 in
theorem impl_ok (a b : ByteArray) (hs : a.size ≤ 65536) (he : a.size = b.size) (w : World) :
    Calls Try.prog 15 #[.string a, .string b] w fun e w' => e = .returned (.tuple #[.string (xorT a b), .int .i64 0]) ∧ Below w.heap.size w w' := by
  have d0 : decide (65536 < (a.size : Int)) = false := decide_eq_false (by omega)
  have d1 : decide (65536 < (b.size : Int)) = false := decide_eq_false (by omega)
  have d2 : ((a.size : Int) != (b.size : Int)) = false := by rw [he]; simp
  have HE := Lib.hid he
  have HS := Lib.hid hs
  have k1 := fun u : World => Lib.run_convert_string_bytes (P := Try.prog) u 9 22 5 a Try.underlying9 Try.underlying22 Try.underlying5
  have k2 := fun u : World => Lib.run_convert_string_bytes (P := Try.prog) u 9 22 5 b Try.underlying9 Try.underlying22 Try.underlying5
  have hsz := Lib.bytesWorld_size w 5 a
  have HR1 := Lib.hid (Lib.bytesWorld_at_new w 5 a)
  have HB1 := Lib.hid (bytes_below w a)
  clear he hs
  go_enter Try.func15, Try.ntmps15
  go_wp2_with fail
  clear k1 k2 d0 d1 d2
  have hsz2 := Lib.bytesWorld_size (Lib.bytesWorld w 5 a) 5 b
  have HR2 := Lib.hid (Lib.bytesWorld_at_new (Lib.bytesWorld w 5 a) 5 b)
  have HB2 := Lib.hid (bytes_below (Lib.bytesWorld w 5 a) b)
  have HBY := Lib.hid (bytes_at (Lib.bytesWorld w 5 a) b)
  rw [hsz] at HR2
  refine (XorInto.xorInto w.heap.size 0 a.size _ (w.heap.size + 1) 0 b.size _ 5 ((Lib.bytesCells w 5 a).size, (Lib.bytesCells w 5 a).size + 1) (Lib.bytesCells w 5 a).toList (bN a) (bN b) (by omega) (by have := HE.out; omega) (by have := HE.out; have := HS.out; omega) _ ?_ (.inl ?_) ?_ (bN_lt a) ?_ (bN_lt b)).mono ?_
  · exact (HB2.out.block w.heap.size (by rw [hsz]; omega)).trans HR1.out
  · rw [Nat.zero_add]; exact bytes_size w a
  · intro j hj; rw [Nat.zero_add]; exact bytes_at w a j hj
  · intro j hj
    rw [Nat.zero_add, cell_of_row _ _ j _ _ _ HR2.out]
    have := HBY.out j (by have := HE.out; omega)
    rw [Array.getElem?_toList] at this
    exact this
  rintro e w1 ⟨rfl, HX⟩
  obtain ⟨ho, ys, hr, hl, h1, h2⟩ := HX.out
  have HO := Lib.hid (HB1.out.trans ((HB2.out.mono (by rw [hsz]; omega)).trans (ho.below (Nat.le_refl _))))
  have kc := fun cap => run_convert_bytes_back (P := Try.prog) w1 22 9 5 ⟨w.heap.size, 0, none⟩ cap (xb (bN a) (bN b) a.size) Try.underlying22 Try.underlying5 Try.underlying9 (fun j hj => by
    rw [xb_length] at hj
    have hadd : (⟨w.heap.size, 0, none⟩ : Addr).add j = ⟨w.heap.size, j, none⟩ := by unfold Addr.add; split <;> simp_all
    have := h1 j hj
    rw [Nat.zero_add] at this
    rw [hadd, hr.cell, this, xb_at _ _ _ _ hj (bN_lt _ _) (bN_lt _ _)])
  rw [xb_length] at kc
  clear HX ho hr hl h1 h2 HR1 HR2 HB1 HB2 HBY
  go_wp2
  go_ret2
  exact ⟨rfl, HO.out⟩

/-- What both answer. -/
def res (a b : ByteArray) : Value :=
  if 65536 < a.size ∨ 65536 < b.size then .tuple #[.string ⟨#[]⟩, .int .i64 2]
  else if a.size ≠ b.size then .tuple #[.string ⟨#[]⟩, .int .i64 8]
  else .tuple #[.string (xorT a b), .int .i64 0]

theorem spec (a b : ByteArray) (ha : a.size ≤ maxLen) (hb : b.size ≤ maxLen) (w : World) :
    Calls Try.prog 21 #[.string a, .string b] w fun e w' => e = .returned (res a b) ∧ Below w.heap.size w w' := by
  unfold res
  unfold maxLen at ha hb
  by_cases h1 : 65536 < a.size
  · rw [if_pos (.inl h1)]
    go_enter Try.func21, Try.ntmps21
    go_wp2
    go_ret2
    exact ⟨rfl, Below.refl _ _⟩
  · have d1 : decide (65536 < (a.size : Int)) = false := decide_eq_false (by omega)
    by_cases h2 : 65536 < b.size
    · rw [if_pos (.inr h2)]
      go_enter Try.func21, Try.ntmps21
      go_wp2
      go_ret2
      exact ⟨rfl, Below.refl _ _⟩
    · rw [if_neg (by omega)]
      have d2 : decide (65536 < (b.size : Int)) = false := decide_eq_false (by omega)
      by_cases h3 : a.size = b.size
      · rw [if_neg (fun h => h h3)]
        exact spec_ok a b (by omega) h3 w
      · rw [if_pos h3]
        have d3 : ((a.size : Int) != (b.size : Int)) = true := by simp; omega
        go_enter Try.func21, Try.ntmps21
        go_wp2
        go_ret2
        exact ⟨rfl, Below.refl _ _⟩
theorem impl (a b : ByteArray) (ha : a.size ≤ maxLen) (hb : b.size ≤ maxLen) (w : World) :
    Calls Try.prog 15 #[.string a, .string b] w fun e w' => e = .returned (res a b) ∧ Below w.heap.size w w' := by
  unfold res
  unfold maxLen at ha hb
  by_cases h1 : 65536 < a.size
  · rw [if_pos (.inl h1)]
    go_enter Try.func15, Try.ntmps15
    go_wp2
    go_ret2
    exact ⟨rfl, Below.refl _ _⟩
  · have d1 : decide (65536 < (a.size : Int)) = false := decide_eq_false (by omega)
    by_cases h2 : 65536 < b.size
    · rw [if_pos (.inr h2)]
      go_enter Try.func15, Try.ntmps15
      go_wp2
      go_ret2
      exact ⟨rfl, Below.refl _ _⟩
    · rw [if_neg (by omega)]
      have d2 : decide (65536 < (b.size : Int)) = false := decide_eq_false (by omega)
      by_cases h3 : a.size = b.size
      · rw [if_neg (fun h => h h3)]
        exact impl_ok a b (by omega) h3 w
      · rw [if_pos h3]
        have d3 : ((a.size : Int) != (b.size : Int)) = true := by simp; omega
        go_enter Try.func15, Try.ntmps15
        go_wp2
        go_ret2
        exact ⟨rfl, Below.refl _ _⟩
theorem res_form (a b : ByteArray) : ∃ (s : ByteArray) (c : Int), res a b = .tuple #[.string s, .int .i64 c] := by
  unfold res
  split
  · exact ⟨_, _, rfl⟩
  · split
    · exact ⟨_, _, rfl⟩
    · exact ⟨_, _, rfl⟩

theorem walk (a b : ByteArray) (ha : a.size ≤ maxLen) (hb : b.size ≤ maxLen) (w : World) :
    Calls Try.prog 7 #[.string a, .string b] w fun e w' => e = .returned (.bool true) ∧ Below w.heap.size w w' := by
  by_cases h1 : 1048576 < a.size
  · unfold maxLen at ha
    go_enter Try.func7, Try.ntmps7
    go_wp2_with fail
    go_ret
    exact ⟨rfl, Below.refl _ _⟩
  · have d1 : decide (1048576 < (a.size : Int)) = false := decide_eq_false (by omega)
    by_cases h2 : 1048576 < b.size
    · unfold maxLen at hb
      go_enter Try.func7, Try.ntmps7
      go_wp2_with fail
      go_ret
      exact ⟨rfl, Below.refl _ _⟩
    · have d2 : decide (1048576 < (b.size : Int)) = false := decide_eq_false (by omega)
      obtain ⟨s, c, hres⟩ := res_form a b
      have HRES := Lib.hid hres
      clear hres
      go_enter Try.func7, Try.ntmps7
      go_wp2_with fail
      refine (spec a b ha hb _).mono ?_
      rw [HRES.out]
      rintro e w1 ⟨rfl, hb1⟩
      have HB := Lib.hid hb1
      clear hb1
      go_wp2_with fail
      refine (impl a b ha hb _).mono ?_
      rw [HRES.out]
      rintro e w2 ⟨rfl, hb2⟩
      have HB2 := Lib.hid hb2
      clear hb2
      go_wp2
      go_ret
      exact ⟨rfl, HB.out.trans (HB2.out.mono HB.out.size)⟩
end Go.Proofs.Ytehdiabkpaoekaa.XorOf
