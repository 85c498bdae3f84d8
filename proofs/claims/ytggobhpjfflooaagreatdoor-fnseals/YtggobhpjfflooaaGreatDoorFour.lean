/-
  What is proved: words out of four bytes each and four bytes of a word: the program's and the model's ways are the plain ones (contracts for the walks; for texts that need nothing of the stream).
-/
import Derived.Test.YtggobhpjfflooaaGreatDoorRows
import Derived.Test.YtggobhpjfflooaaGreatDoorKitA
import Derived.Test.YtggobhpjfflooaaGreatDoorLow
import Derived.WalkSpells
import Derived.Deep.RegionHeld3
import Derived.Deep.CutRange
import Derived.StillTailTactics
namespace Go.Proofs.YtggobhpjfflooaaGreatDoor.Four
open Go.ChangeShapes Go.WideShapes Go.ChangeAt Go.RowKit
open Arr (Row)
open Bytes (BV Owns)
open XorInto (Only)
open Word (bN bN_lt bN_at bN_extract)
open Low (b8)
open Cha
set_option linter.unusedVariables false

theorem le4_cells (m : Nat) (h : m < 4294967296) : BV (le4 m) = [.int .u8 ((m : Int) % 256), .int .u8 ((m : Int) / 256 % 256), .int .u8 ((m : Int) / 65536 % 256), .int .u8 ((m : Int) / 16777216)] := by
  simp only [BV, le4, List.map_cons, List.map_nil, UInt8.toNat_ofNat', Nat.reducePow, Nat.mod_mod]
  rw [show m / 16777216 % 256 = m / 16777216 by omega]
  simp
theorem low_or (x0 x1 x2 x3 : Nat) (h0 : x0 < 256) (h1 : x1 < 256) (h2 : x2 < 256) (h3 : x3 < 256) :
    ((x0 ||| x1 * 256) ||| x2 * 65536) ||| x3 * 16777216 = x0 + x1 * 256 + x2 * 65536 + x3 * 16777216 := by
  rw [Nat.or_comm x0, Word.shl_or x1 x0 256 8 rfl h0, Nat.or_comm _ (x2 * 65536), Word.shl_or x2 _ 65536 16 rfl (by omega), Nat.or_comm _ (x3 * 16777216), Word.shl_or x3 _ 16777216 24 rfl (by omega)]
  omega
theorem u32_low (x0 x1 x2 x3 : Nat) (h0 : x0 < 256) (h1 : x1 < 256) (h2 : x2 < 256) (h3 : x3 < 256) :
    bits .or .u32 (bits .or .u32 (bits .or .u32 (x0 : Int) ((x1 : Int) * 256)) ((x2 : Int) * 65536)) ((x3 : Int) * 16777216) = ((x0 + x1 * 256 + x2 * 65536 + x3 * 16777216 : Nat) : Int) := by
  have e1 : (x1 : Int) * 256 = ((x1 * 256 : Nat) : Int) := by omega
  have e2 : (x2 : Int) * 65536 = ((x2 * 65536 : Nat) : Int) := by omega
  have e3 : (x3 : Int) * 16777216 = ((x3 * 16777216 : Nat) : Int) := by omega
  have l1 := Word.or_lt (a := x0) (b := x1 * 256) (by omega) (by omega)
  have l2 := Word.or_lt l1 (b := x2 * 65536) (by omega)
  rw [e1, e2, e3, u32_or_nat _ _ (by omega) (by omega), u32_or_nat _ _ l1 (by omega), u32_or_nat _ _ l2 (by omega), low_or x0 x1 x2 x3 h0 h1 h2 h3]

set_option maxRecDepth 100000 in
set_option maxHeartbeats 1600000 in
theorem lowWords (g o n cap : Nat) (t : TypeId) (xs : List Value) (s : ByteArray) (hs : 4 * n ≤ s.size) (hm : s.size ≤ 1000000) (ho : o + n ≤ xs.length) (w : World) (hr : Row w g t xs) :
    Calls Tryz.prog 32 #[.slice (some ⟨g, o, none⟩) n cap, .string s] w fun e' w' => e' = .returned (.tuple #[]) ∧
      Hid (Only g w w' ∧ ∃ ys, Row w' g t ys ∧ ys.length = xs.length ∧ (∀ j, j < n → ys[o + j]? = some (.int .u32 ((lw s j : Nat) : Int))) ∧ ∀ j, (j < o ∨ o + n ≤ j) → ys[j]? = xs[j]?) := by
  have HR := Lib.hid hr
  have HO := Lib.hid ho
  clear hr ho
  go_enter Tryz.func32, Tryz.ntmps32
  go_wp2
  go_loopw [8] (fun i wr => ∃ (k : Nat) (ys : List Value), k ≤ n ∧ i = .int .i64 k ∧ Hid (Only g w wr ∧ Row wr g t ys ∧ ys.length = xs.length ∧ (∀ j, j < k → ys[o + j]? = some (.int .u32 ((lw s j : Nat) : Int))) ∧ ∀ j, (j < o ∨ o + k ≤ j) → ys[j]? = xs[j]?)) (fun i _ => n - (intOf i).toNat)
  case atStart => exact ⟨0, xs, by omega, rfl, Lib.hid ⟨Only.refl _ _, HR.out, rfl, fun j h => by omega, fun j _ => rfl⟩⟩
  case round =>
    rename_i wr
    obtain ⟨k, ys, hk, rfl, HX⟩ := hrel
    by_cases hlt : k < n
    · obtain ⟨v0, c0⟩ : ∃ v, wr.cell? ⟨g, o + k, none⟩ = some v := ⟨_, (HX.out.2.1.cell (o + k)).trans (List.getElem?_eq_getElem (by have := HX.out.2.2.1; have := HO.out; omega))⟩
      have f0 := HX.out.2.1.frozen (o + k)
      have hkn : (k : Int) < (n : Int) := by omega
      have hk0 : (0 : Int) ≤ (k : Int) := by omega
      have h4a : 4 * k + 4 ≤ s.size := by omega
      have h4 : 4 * (k : Int) + 4 ≤ (s.size : Int) := by omega
      have hxb : (s.extract (4 * k) (4 * k + 4)).size = 4 := by rw [ByteArray.size_extract]; omega
      have y0 := bN_extract s (4 * k) (4 * k + 4) 0 (by omega)
      have y1 := bN_extract s (4 * k) (4 * k + 4) 1 (by omega)
      have y2 := bN_extract s (4 * k) (4 * k + 4) 2 (by omega)
      have y3 := bN_extract s (4 * k) (4 * k + 4) 3 (by omega)
      have Y := Lib.hid (And.intro hxb (And.intro y0 (And.intro y1 (And.intro y2 y3))))
      clear hxb y0 y1 y2 y3
      go_wp2
      generalize s.extract (4 * k) (4 * k + 4) = B at *
      obtain ⟨x0, e0, hx0⟩ : ∃ x : Nat, bN s (4 * k) = x ∧ x < 256 := ⟨_, rfl, bN_lt _ _⟩
      obtain ⟨x1, e1, hx1⟩ : ∃ x : Nat, bN s (4 * k + 1) = x ∧ x < 256 := ⟨_, rfl, bN_lt _ _⟩
      obtain ⟨x2, e2, hx2⟩ : ∃ x : Nat, bN s (4 * k + 2) = x ∧ x < 256 := ⟨_, rfl, bN_lt _ _⟩
      obtain ⟨x3, e3, hx3⟩ : ∃ x : Nat, bN s (4 * k + 3) = x ∧ x < 256 := ⟨_, rfl, bN_lt _ _⟩
      have b3 : 3 < B.size := by rw [Y.out.1]; omega
      have b2 : 2 < B.size := by omega
      have b1 : 1 < B.size := by omega
      have b0 : 0 < B.size := by omega
      have q0 : B[0].toNat = x0 := by rw [bN_at, Y.out.2.1]; exact e0
      have q1 : B[1].toNat = x1 := by rw [bN_at, Y.out.2.2.1]; exact e1
      have q2 : B[2].toNat = x2 := by rw [bN_at, Y.out.2.2.2.1]; exact e2
      have q3 : B[3].toNat = x3 := by rw [bN_at, Y.out.2.2.2.2]; exact e3
      have HM := Lib.hid (show lw s k = x0 + x1 * 256 + x2 * 65536 + x3 * 16777216 by unfold lw; rw [e0, e1, e2, e3])
      clear e0 e1 e2 e3 Y
      have c3' : (3 : Int) < (B.size : Int) := by omega
      have c2' : (2 : Int) < (B.size : Int) := by omega
      have c1' : (1 : Int) < (B.size : Int) := by omega
      have v0a : IntKind.u32.wrap (x0 : Int) = x0 := by rw [IntKind.wrap_u32']; omega
      have v1a : IntKind.u32.wrap (x1 : Int) = x1 := by rw [IntKind.wrap_u32']; omega
      have v2a : IntKind.u32.wrap (x2 : Int) = x2 := by rw [IntKind.wrap_u32']; omega
      have v3a : IntKind.u32.wrap (x3 : Int) = x3 := by rw [IntKind.wrap_u32']; omega
      have v3b : IntKind.u32.wrap ((x3 : Int) * 16777216) = (x3 : Int) * 16777216 := by rw [IntKind.wrap_u32']; omega
      have v1b : IntKind.u32.wrap ((x1 : Int) * 256) = (x1 : Int) * 256 := by rw [IntKind.wrap_u32']; omega
      have v2b : IntKind.u32.wrap ((x2 : Int) * 65536) = (x2 : Int) * 65536 := by rw [IntKind.wrap_u32']; omega
      go_still_tail 20, (by kernel_rfl)
      change wpList _ _ _ _ _ wr.drew
      clear v0a v1a v2a v3a v3b v1b v2b
      go_wp2
      rw [u32_low x0 x1 x2 x3 hx0 hx1 hx2 hx3, ← HM.out]
      go_roundw
      case rel =>
        obtain ⟨h1, h2, h3, h4, h5⟩ := HX.out
        refine ⟨k + 1, ys.set (o + k) (.int .u32 (lw s k : Int)), by omega, by go_num, Lib.hid ⟨(h1.set _ _).drew, (h2.set _ _).drew, by simp [h3], fun j hj => ?_, fun j hj => ?_⟩⟩
        · by_cases e : j = k
          · rw [e, List.getElem?_set_self (by have := HO.out; omega)]
          · rw [List.getElem?_set_ne (by omega)]; exact h4 j (by omega)
        · rw [List.getElem?_set_ne (by omega)]; exact h5 j (by omega)
      case measure => simp [intOf]; omega
    · have hk2 := Lib.hid (show k = n by omega)
      go_wp2
      go_end0
      obtain ⟨h1, h2, h3, h4, h5⟩ := HX.out
      rw [hk2.out] at h4 h5
      exact ⟨rfl, Lib.hid ⟨h1, ys, h2, h3, h4, h5⟩⟩

theorem ret_int {k : IntKind} {a b : Int} (h : a = b) : Ending.returned (.int k a) = .returned (.int k b) := by rw [h]
theorem i64_low (x0 x1 x2 x3 : Nat) (h0 : x0 < 256) (h1 : x1 < 256) (h2 : x2 < 256) (h3 : x3 < 256) :
    bits .or .i64 (bits .or .i64 (bits .or .i64 (x0 : Int) ((x1 : Int) * 256)) ((x2 : Int) * 65536)) ((x3 : Int) * 16777216) = ((x0 + x1 * 256 + x2 * 65536 + x3 * 16777216 : Nat) : Int) := by
  have e1 : (x1 : Int) * 256 = ((x1 * 256 : Nat) : Int) := by omega
  have e2 : (x2 : Int) * 65536 = ((x2 * 65536 : Nat) : Int) := by omega
  have e3 : (x3 : Int) * 16777216 = ((x3 * 16777216 : Nat) : Int) := by omega
  have l1 := Word.or_lt (a := x0) (b := x1 * 256) (by omega) (by omega)
  have l2 := Word.or_lt l1 (b := x2 * 65536) (by omega)
  rw [e1, e2, e3, Word.i64_or _ _ (by omega) (by omega), Word.i64_or _ _ (by omega) (by omega), Word.i64_or _ _ (by omega) (by omega), low_or x0 x1 x2 x3 h0 h1 h2 h3]
def lwAt (s : ByteArray) (a : Nat) : Nat := bN s a + bN s (a + 1) * 256 + bN s (a + 2) * 65536 + bN s (a + 3) * 16777216
theorem lwAt_lw (s : ByteArray) (j : Nat) : lwAt s (4 * j) = lw s j := rfl

set_option maxHeartbeats 800000 in
theorem word (s : ByteArray) (a : Nat) (h : a + 3 < s.size) (hs : s.size ≤ 1048576) (w : World) :
    Calls Tryz.prog 90 #[.string s, .int .i64 (a : Int)] w fun e w' => e = .returned (.int .i64 (lwAt s a : Int)) ∧ ∃ n, w' = w.drewN n := by
  obtain ⟨x0, e0, hx0⟩ : ∃ x : Nat, bN s a = x ∧ x < 256 := ⟨_, rfl, bN_lt _ _⟩
  obtain ⟨x1, e1, hx1⟩ : ∃ x : Nat, bN s (a + 1) = x ∧ x < 256 := ⟨_, rfl, bN_lt _ _⟩
  obtain ⟨x2, e2, hx2⟩ : ∃ x : Nat, bN s (a + 2) = x ∧ x < 256 := ⟨_, rfl, bN_lt _ _⟩
  obtain ⟨x3, e3, hx3⟩ : ∃ x : Nat, bN s (a + 3) = x ∧ x < 256 := ⟨_, rfl, bN_lt _ _⟩
  have HM := Lib.hid (show lwAt s a = x0 + x1 * 256 + x2 * 65536 + x3 * 16777216 by unfold lwAt; rw [e0, e1, e2, e3])
  obtain ⟨a1, f1⟩ : ∃ n, a + 1 = n := ⟨_, rfl⟩
  obtain ⟨a2, f2⟩ : ∃ n, a + 2 = n := ⟨_, rfl⟩
  obtain ⟨a3, f3⟩ : ∃ n, a + 3 = n := ⟨_, rfl⟩
  have n0 : a < s.size := by omega
  have n1 : a1 < s.size := by omega
  have n2 : a2 < s.size := by omega
  have n3 : a3 < s.size := by omega
  have q0 : s[a].toNat = x0 := by rw [bN_at]; exact e0
  have q1 : s[a1].toNat = x1 := by rw [bN_at, ← f1]; exact e1
  have q2 : s[a2].toNat = x2 := by rw [bN_at, ← f2]; exact e2
  have q3 : s[a3].toNat = x3 := by rw [bN_at, ← f3]; exact e3
  have g1 : (a : Int) + 1 = (a1 : Int) := by omega
  have g2 : (a : Int) + 2 = (a2 : Int) := by omega
  have g3 : (a : Int) + 3 = (a3 : Int) := by omega
  have j1 : IntKind.i64.wrap (a1 : Int) = a1 := by rw [IntKind.wrap_i64]; omega
  have j2 : IntKind.i64.wrap (a2 : Int) = a2 := by rw [IntKind.wrap_i64]; omega
  have j3 : IntKind.i64.wrap (a3 : Int) = a3 := by rw [IntKind.wrap_i64]; omega
  have b0 : (a : Int) < (s.size : Int) := by omega
  have b1 : (a1 : Int) < (s.size : Int) := by omega
  have b2 : (a2 : Int) < (s.size : Int) := by omega
  have b3 : (a3 : Int) < (s.size : Int) := by omega
  have v0a : IntKind.i64.wrap (x0 : Int) = x0 := by rw [IntKind.wrap_i64]; omega
  have v1a : IntKind.i64.wrap (x1 : Int) = x1 := by rw [IntKind.wrap_i64]; omega
  have v2a : IntKind.i64.wrap (x2 : Int) = x2 := by rw [IntKind.wrap_i64]; omega
  have v3a : IntKind.i64.wrap (x3 : Int) = x3 := by rw [IntKind.wrap_i64]; omega
  have v3b : IntKind.i64.wrap ((x3 : Int) * 16777216) = (x3 : Int) * 16777216 := by rw [IntKind.wrap_i64]; omega
  have v2b : IntKind.i64.wrap ((x2 : Int) * 65536) = (x2 : Int) * 65536 := by rw [IntKind.wrap_i64]; omega
  have v1b : IntKind.i64.wrap ((x1 : Int) * 256) = (x1 : Int) * 256 := by rw [IntKind.wrap_i64]; omega
  clear e0 e1 e2 e3 f1 f2 f3
  go_enter Tryz.func90, Tryz.ntmps90
  go_wp2
  go_quiet (fail)
  go_wp2
  go_ret
  exact ⟨ret_int ((i64_low x0 x1 x2 x3 hx0 hx1 hx2 hx3).trans (by rw [HM.out])), _, rfl⟩

set_option maxRecDepth 100000 in
set_option maxHeartbeats 1600000 in
theorem bytes4 (base : Nat) (v : Value) (bs : List UInt8) (hl : bs.length ≤ 65536) (x : Nat) (hx : x < 4294967296) (w : World) (hb : base ≤ w.heap.size) (R : Owns w base v bs) :
    Calls Tryz.prog 92 #[v, .int .i64 (x : Int)] w fun e w' => ∃ v', e = .returned v' ∧ Hid (Owns w' base v' (bs ++ le4 x) ∧ Below base w w') := by
  obtain ⟨i0, hi0, hz0, hz1, hz2⟩ := info_parts Bytes.info5
  have HR := Lib.hid R
  have HB := Lib.hid hb
  have HLE := Lib.hid (le4_cells x hx)
  have hx2 : (x : Int) < 4294967296 := by omega
  clear R hb
  go_enter Tryz.func92, Tryz.ntmps92
  go_wp2_with (at_builtin; refine wpList_append_lies _ rfl _ _ _ rfl base 5 i0 _ 1 1 Tryz.underlying22 hi0 hz0 hz1 hz2 rfl (by omega) _ bs.length (BV bs) (by rfl) (World.ownsRow.alloc HR.out _) ⟨w.heap.size, 0, none⟩ 4 4 [.int .u8 ((x : Int) % 256), .int .u8 ((x : Int) / 256 % 256), .int .u8 ((x : Int) / 65536 % 256), .int .u8 ((x : Int) / 16777216)] (by rfl) (by rfl) (World.news_of_block (cs := #[.int .u8 ((x : Int) % 256), .int .u8 ((x : Int) / 256 % 256), .int .u8 ((x : Int) / 65536 % 256), .int .u8 ((x : Int) / 16777216)]) (t := 5) (fr := (0, 0)) (heap_alloc_new w _)) (by simp [Value.oneCell']) (by omega) (by unfold maxLen; omega) (by omega) (by have := HB.out; simp; omega) (w.heap.size + 1) (by simp) ?_; intro gg cap w2 hown1 hgrow hat hlt1; have HO := Lib.hid hown1; have HG3 := Lib.hid hgrow; clear hown1 hgrow hat hlt1)
  go_ret
  refine ⟨_, rfl, Lib.hid ⟨?_, ?_⟩⟩
  · have := HO.out
    rw [← HLE.out] at this
    exact Bytes.owns_grown this rfl
  · exact ((Below.refl base w).alloc HB.out _).grown HG3.out (by have := HB.out; simp; omega) (Owns.block HR.out)


theorem le4_b8 (x : Nat) : le4 x = b8 x 4 := by
  show _ = [] ++ [UInt8.ofNat (x / 2 ^ (8 * 0) % 256)] ++ [UInt8.ofNat (x / 2 ^ (8 * 1) % 256)] ++ [UInt8.ofNat (x / 2 ^ (8 * 2) % 256)] ++ [UInt8.ofNat (x / 2 ^ (8 * 3) % 256)]
  simp [le4]
end Go.Proofs.YtggobhpjfflooaaGreatDoor.Four
