/-
  What is proved: both ways to tell bytes by their digits answer the same plain function; the law on them returns true (the walk).
-/
import Derived.Test.YtemnnbjmpdfigaaRows
import Derived.Test.YtemnnbjmpdfigaaBytes
namespace Go.Proofs.Ytemnnbjmpdfigaa.Hex
open Go.ChangeShapes Go.WideShapes Go.ChangeAt Go.RowKit
open Bytes (BV Owns)
set_option linter.unusedVariables false

theorem ret_str {a b : ByteArray} (h : a = b) : Ending.returned (.string a) = .returned (.string b) := by rw [h]
def hexN (n : Nat) : Nat := if n < 10 then 48 + n else 87 + n
theorem hexN_lt (n : Nat) (h : n < 16) : hexN n < 256 := by unfold hexN; split <;> omega
theorem hexGet (n : Nat) (h : n < 16) : ((⟨#[48, 49, 50, 51, 52, 53, 54, 55, 56, 57, 97, 98, 99, 100, 101, 102]⟩ : ByteArray)[n]'h).toNat = hexN n := by
  match n, h with
  | 0, _ | 1, _ | 2, _ | 3, _ | 4, _ | 5, _ | 6, _ | 7, _ | 8, _ | 9, _ | 10, _ | 11, _ | 12, _ | 13, _ | 14, _ | 15, _ => rfl
  | n + 16, h => exact absurd h (by omega)
def two (c : UInt8) : List UInt8 := [UInt8.ofNat (hexN (c.toNat / 16)), UInt8.ofNat (hexN (c.toNat % 16))]
def hexL (l : List UInt8) : List UInt8 := l.flatMap two
theorem hexL_length (l : List UInt8) : (hexL l).length = 2 * l.length := by
  induction l with
  | nil => rfl
  | cons c l ih => simp [hexL, two] at ih ⊢; omega
theorem take_snoc (s : ByteArray) (k : Nat) (h : k < s.size) : s.data.toList.take (k + 1) = s.data.toList.take k ++ [s[k]] := by
  rw [List.take_succ_eq_append_getElem (by simpa using h)]; rfl
theorem hexL_snoc (s : ByteArray) (k : Nat) (h : k < s.size) : hexL (s.data.toList.take (k + 1)) = hexL (s.data.toList.take k) ++ two s[k] := by
  rw [take_snoc s k h]; simp [hexL]
theorem two_cells (c : UInt8) : BV (two c) = [.int .u8 ((hexN ((c.toNat : Int) / 16).toNat : Nat) : Int), .int .u8 ((hexN ((c.toNat : Int) % 16).toNat : Nat) : Int)] := by
  have h := c.toNat_lt
  have e1 : ((c.toNat : Int) / 16).toNat = c.toNat / 16 := by omega
  have e2 : ((c.toNat : Int) % 16).toNat = c.toNat % 16 := by omega
  have a := hexN_lt (c.toNat / 16) (by omega)
  have b := hexN_lt (c.toNat % 16) (by omega)
  rw [e1, e2]
  simp only [BV, two, List.map_cons, List.map_nil, UInt8.toNat_ofNat', Nat.mod_eq_of_lt (show hexN (c.toNat / 16) < 2 ^ 8 from a), Nat.mod_eq_of_lt (show hexN (c.toNat % 16) < 2 ^ 8 from b)]
theorem and15 (c : UInt8) : bits BinOp.and IntKind.u8 (c.toNat : Int) 15 = (c.toNat : Int) % 16 := by
  have h := c.toNat_lt
  have := u8_and_nat c.toNat 15 (by omega) (by omega)
  rw [nat_mask4] at this
  exact this.trans (by omega)

set_option maxRecDepth 100000 in
set_option maxHeartbeats 1600000 in
theorem hex_spec (s : ByteArray) (hs : s.size ≤ 65536) (w : World) :
    Calls Try.prog 25 #[.string s] w fun e w' => e = .returned (.string ⟨(hexL s.data.toList).toArray⟩) ∧ Below w.heap.size w w' := by
  obtain ⟨i0, hi0, hz0, hz1, hz2⟩ := info_parts Bytes.info5
  go_enter Try.func25, Try.ntmps25
  go_wp2

  go_loopw [3, 4] (fun v i wr => ∃ k : Nat, k ≤ s.size ∧ i = .int .i64 k ∧ Hid (Owns wr w.heap.size v (hexL (s.data.toList.take k))) ∧ Hid (Below w.heap.size w wr)) (fun _ i _ => s.size - (intOf i).toNat)
  case atStart => exact ⟨0, by omega, rfl, Lib.hid (Bytes.owns_made w w.heap.size 0 #[] (Nat.le_refl _) (by unfold maxLen; omega) rfl), Lib.hid ((Below.refl _ _).alloc (Nat.le_refl _) _)⟩
  case round =>
    rename_i wr
    obtain ⟨k, hk, rfl, R, HB⟩ := hrel
    have HL := Lib.hid (hexL_length (s.data.toList.take k))
    have hl2 : (s.data.toList.take k).length ≤ k := List.length_take_le _ _
    have hl1 : (hexL (s.data.toList.take k)).length ≤ 131072 := by rw [HL.out]; omega
    have hz := Lib.hid HB.out.size
    by_cases hlt : k < s.size
    · have hk2 : (k : Int) < (s.size : Int) := by omega
      have hk0 : (0 : Int) ≤ (k : Int) := Int.natCast_nonneg _
      have HS := Lib.hid (hexL_snoc s k hlt)
      have HT := Lib.hid (two_cells s[k])
      have x1 : (s[k].toNat : Int) < 256 := by have := s[k].toNat_lt; omega
      have x2 : (s[k].toNat : Int) / 16 < 16 := by omega
      have x3 : 0 ≤ (s[k].toNat : Int) / 16 := by omega
      have hm := and15 s[k]
      have hm1 : 0 ≤ (s[k].toNat : Int) % 16 := by omega
      have hm2 : (s[k].toNat : Int) % 16 < 16 := by omega
      have hg := hexGet
      go_wp2
      go_region_held3 (fun w' => True) (trivial)
        ((refine step_append_lies _ (by rfl) _ _ _ (by rfl) w.heap.size 5 i0 _ 1 1 Try.underlying22 hi0 hz0 hz1 hz2 rfl (by omega) _ (hexL (s.data.toList.take k)).length (BV (hexL (s.data.toList.take k))) (by rfl) ((World.ownsRow.alloc R.out _).drew) ⟨wr.heap.size, 0, none⟩ 2 2 [.int .u8 ((hexN ((s[k].toNat : Int) / 16).toNat : Nat) : Int), .int .u8 ((hexN ((s[k].toNat : Int) % 16).toNat : Nat) : Int)] (by rfl) (by rfl) (World.news_of_block (cs := #[.int .u8 ((hexN ((s[k].toNat : Int) / 16).toNat : Nat) : Int), .int .u8 ((hexN ((s[k].toNat : Int) % 16).toNat : Nat) : Int)]) (t := 5) (fr := (0, 0)) (heap_alloc_new wr _)) (by simp [Value.oneCell']) (by omega) (by unfold maxLen; omega) (by omega) (by have := hz.out; simp; omega) (wr.heap.size + 1) (by simp) ?_; intro gg cap w1 hown1 hgrow hat hlt1))
      all_goals
        have HO := Lib.hid hown1
        have HG := Lib.hid hgrow
        clear hown1 hgrow hat hlt1 hg hm
        go_wp2
        go_roundw
        case rel => exact ⟨k + 1, by omega, by go_num, Lib.hid (by
          rw [HS.out]
          have := HO.out
          rw [← HT.out] at this
          exact Bytes.owns_grown this rfl), Lib.hid ((HB.out.trans (((Below.refl _ _).alloc HB.out.size _).drew)).grown HG.out (by have := hz.out; simp; omega) (Owns.block R.out))⟩
        case measure => simp [intOf]; omega
    · have hfin := Lib.hid (show s.data.toList.take k = s.data.toList from List.take_of_length_le (by simp; omega))
      have hconv := R.out.string
      rw [hfin.out] at hconv
      go_wp2
      go_ret
      exact ⟨rfl, HB.out⟩

def emp : ByteArray := ⟨#[]⟩
set_option maxRecDepth 100000 in
set_option maxHeartbeats 1600000 in
theorem hex_impl (s : ByteArray) (hs : s.size ≤ 65536) (w : World) :
    Calls Try.prog 10 #[.string s] w fun e w' => e = .returned (.tuple #[.string ⟨(hexL s.data.toList).toArray⟩, .int .i64 0]) ∧ Below w.heap.size w w' := by
  obtain ⟨i0, hi0, hz0, hz1, hz2⟩ := info_parts Bytes.info5
  have hmk : ∀ u : World, (Instr.makeSlice 22 (.int .i64 0) (.int .i64 (2 * (s.size : Int)))).run Try.prog u =
      .ok (.slice (some ⟨u.heap.size, 0, none⟩) 0 (2 * s.size)) (u.alloc (.cells (madeCells #[.int .u8 0] (2 * s.size)) 5)) := fun u => by
    have h := run_make (P := Try.prog) u 22 5 i0 (.int .u8 0) Try.underlying22 hi0 hz0 .i64 .i64 0 (2 * (s.size : Int)) (by omega) (by omega) (by rw [hz2]; omega) (by omega)
    have e : (2 * (s.size : Int)).toNat = 2 * s.size := by omega
    rw [e] at h
    simpa [hz1, Value.cells] using h
  have hms := Lib.hid (size_madeCells #[.int .u8 0] (2 * s.size))
  generalize madeCells #[.int .u8 0] (2 * s.size) = mc at hmk hms
  have d0 : decide (65536 < (s.size : Int)) = false := decide_eq_false (by omega)
  go_enter Try.func10, Try.ntmps10
  go_wp2
  clear hmk

  go_loopw [4, 15] (fun v i wr => ∃ k : Nat, k ≤ s.size ∧ i = .int .i64 k ∧ Hid (Owns wr w.heap.size v (hexL (s.data.toList.take k))) ∧ Hid (Below w.heap.size w wr)) (fun _ i _ => s.size - (intOf i).toNat)
  case atStart => exact ⟨0, by omega, rfl, Lib.hid (Bytes.owns_made w w.heap.size (2 * s.size) mc (Nat.le_refl _) (by unfold maxLen; omega) hms.out), Lib.hid ((Below.refl _ _).alloc (Nat.le_refl _) _)⟩
  case round =>
    rename_i wr
    obtain ⟨k, hk, rfl, R, HB⟩ := hrel
    have HL := Lib.hid (hexL_length (s.data.toList.take k))
    have hl2 : (s.data.toList.take k).length ≤ k := List.length_take_le _ _
    have hl1 : (hexL (s.data.toList.take k)).length ≤ 131072 := by rw [HL.out]; omega
    have hz := Lib.hid HB.out.size
    by_cases hlt : k < s.size
    · have hk2 : (k : Int) < (s.size : Int) := by omega
      have hk0 : (0 : Int) ≤ (k : Int) := Int.natCast_nonneg _
      have HS := Lib.hid (hexL_snoc s k hlt)
      have HT := Lib.hid (two_cells s[k])
      have x1 : (s[k].toNat : Int) < 256 := by have := s[k].toNat_lt; omega
      have x2 : (s[k].toNat : Int) / 16 < 16 := by omega
      have x3 : 0 ≤ (s[k].toNat : Int) / 16 := by omega
      have hm := and15 s[k]
      have hm1 : 0 ≤ (s[k].toNat : Int) % 16 := by omega
      have hm2 : (s[k].toNat : Int) % 16 < 16 := by omega
      have hg := hexGet
      go_wp2
      go_region_held3 (fun w' => True) (trivial)
        ((refine step_append_lies _ (by rfl) _ _ _ (by rfl) w.heap.size 5 i0 _ 1 1 Try.underlying22 hi0 hz0 hz1 hz2 rfl (by omega) _ (hexL (s.data.toList.take k)).length (BV (hexL (s.data.toList.take k))) (by rfl) ((World.ownsRow.alloc R.out _).drew) ⟨wr.heap.size, 0, none⟩ 2 2 [.int .u8 ((hexN ((s[k].toNat : Int) / 16).toNat : Nat) : Int), .int .u8 ((hexN ((s[k].toNat : Int) % 16).toNat : Nat) : Int)] (by rfl) (by rfl) (World.news_of_block (cs := #[.int .u8 ((hexN ((s[k].toNat : Int) / 16).toNat : Nat) : Int), .int .u8 ((hexN ((s[k].toNat : Int) % 16).toNat : Nat) : Int)]) (t := 5) (fr := (0, 0)) (heap_alloc_new wr _)) (by simp [Value.oneCell']) (by omega) (by unfold maxLen; omega) (by omega) (by have := hz.out; simp; omega) (wr.heap.size + 1) (by simp) ?_; intro gg cap w1 hown1 hgrow hat hlt1))
      all_goals
        have HO := Lib.hid hown1
        have HG := Lib.hid hgrow
        clear hown1 hgrow hat hlt1 hg hm
        go_wp2
        go_roundw
        case rel => exact ⟨k + 1, by omega, by go_num, Lib.hid (by
          rw [HS.out]
          have := HO.out
          rw [← HT.out] at this
          exact Bytes.owns_grown this rfl), Lib.hid ((HB.out.trans (((Below.refl _ _).alloc HB.out.size _).drew)).grown HG.out (by have := hz.out; simp; omega) (Owns.block R.out))⟩
        case measure => simp [intOf]; omega
    · have hfin := Lib.hid (show s.data.toList.take k = s.data.toList from List.take_of_length_le (by simp; omega))
      have hconv := R.out.string
      rw [hfin.out] at hconv
      go_wp2
      go_ret2
      exact ⟨rfl, HB.out⟩

theorem hex_impl_long (s : ByteArray) (hs : 65536 < s.size) (hm : s.size ≤ maxLen) (w : World) :
    Calls Try.prog 10 #[.string s] w fun e w' => e = .returned (.tuple #[.string ⟨#[]⟩, .int .i64 2]) ∧ Below w.heap.size w w' := by
  unfold maxLen at hm
  go_enter Try.func10, Try.ntmps10
  go_wp2
  go_ret2
  exact ⟨rfl, Below.refl _ _⟩
theorem hexof_spec (s : ByteArray) (hs : s.size ≤ 65536) (w : World) :
    Calls Try.prog 11 #[.string s] w fun e w' => e = .returned (.tuple #[.string ⟨(hexL s.data.toList).toArray⟩, .int .i64 0]) ∧ Below w.heap.size w w' := by
  have d0 : decide (65536 < (s.size : Int)) = false := decide_eq_false (by omega)
  go_enter Try.func11, Try.ntmps11
  go_wp2_with fail
  refine (hex_spec s hs _).mono ?_
  rintro e w1 ⟨rfl, hb⟩
  have HB := Lib.hid hb
  clear hb
  go_wp2
  go_ret2
  exact ⟨rfl, HB.out⟩
theorem hexof_spec_long (s : ByteArray) (hs : 65536 < s.size) (hm : s.size ≤ maxLen) (w : World) :
    Calls Try.prog 11 #[.string s] w fun e w' => e = .returned (.tuple #[.string ⟨#[]⟩, .int .i64 2]) ∧ Below w.heap.size w w' := by
  unfold maxLen at hm
  go_enter Try.func11, Try.ntmps11
  go_wp2_with fail
  go_ret2
  exact ⟨rfl, Below.refl _ _⟩

theorem walk (s : ByteArray) (hm : s.size ≤ maxLen) (w : World) :
    Calls Try.prog 7 #[.string s] w fun e w' => e = .returned (.bool true) ∧ Below w.heap.size w w' := by
  by_cases h1 : 1048576 < s.size
  · unfold maxLen at hm
    go_enter Try.func7, Try.ntmps7
    go_wp2_with fail
    go_ret
    exact ⟨rfl, Below.refl _ _⟩
  · have d1 : decide (1048576 < (s.size : Int)) = false := decide_eq_false (by omega)
    by_cases h2 : 65536 < s.size
    · go_enter Try.func7, Try.ntmps7
      go_wp2_with fail
      refine (hexof_spec_long s h2 hm _).mono ?_
      rintro e w1 ⟨rfl, hb⟩
      have HB := Lib.hid hb
      clear hb
      go_wp2_with fail
      refine (hex_impl_long s h2 hm _).mono ?_
      rintro e w2 ⟨rfl, hb⟩
      have HB2 := Lib.hid hb
      clear hb
      go_wp2
      go_ret
      exact ⟨rfl, HB.out.trans (HB2.out.mono HB.out.size)⟩
    · go_enter Try.func7, Try.ntmps7
      go_wp2_with fail
      refine (hexof_spec s (by omega) _).mono ?_
      rintro e w1 ⟨rfl, hb⟩
      have HB := Lib.hid hb
      clear hb
      go_wp2_with fail
      refine (hex_impl s (by omega) _).mono ?_
      rintro e w2 ⟨rfl, hb⟩
      have HB2 := Lib.hid hb
      clear hb
      generalize hexL s.data.toList = out
      go_wp2
      go_ret
      exact ⟨rfl, HB.out.trans (HB2.out.mono HB.out.size)⟩
end Go.Proofs.Ytemnnbjmpdfigaa.Hex
