/-
  What is proved: both ways to clamp a key answer one plain function of it; the law on them returns true (the walk).
  What is proved: plain facts on numbers in five parts of 26 bits: carrying, folding what is above 130 bits, products, bytes. Nothing of the program.
  What is proved: plain facts on five numbers that lie in five cells of memory; nothing of the program's functions (but closed facts on its types).
  What is proved: the program's carrying of five parts is the plain one (contract for the walks).
  What is proved: the program's folding of what is above 130 bits, and its sum of two numbers in five parts, are the plain ones (contracts for the walks).
  What is proved: the program's product of two numbers in five parts is the plain one (contract for the walks).
  What is proved: the program's least number modulo 2 to the 130 less 5 is the plain one (contract for the walks).
  What is proved: the program's five parts of a text of at most 17 bytes are the plain ones (contract for the walks).
  What is proved: the program's sixteen bytes of a number in five parts are the plain ones (contract for the walks).
  What is proved: plain facts on a tag as a number: its pieces, its sum, its bytes. Nothing of the program.
-/
import Derived.Test.YtggobhpjfflooaaGreatDoorRows
import Derived.Test.YtggobhpjfflooaaGreatDoorKitA
import Derived.Lib.ConvBytes
import Derived.WalkKit
import Derived.Laws.ResultCell
import Derived.WalkSpells
import Derived.Deep.RegionHeld3
import Derived.Deep.CutRange
namespace Go.Proofs.YtggobhpjfflooaaGreatDoor.Clamp
open Go.ChangeShapes Go.WideShapes Go.ChangeAt Go.RowKit
open Bytes (BV Owns)
open Word (bN bN_lt bN_at)
open Flat (RowF Only)
set_option linter.unusedVariables false

/-- Byte j of a clamped key. -/
def cb (key : ByteArray) (j : Nat) : Nat := if j % 4 = 3 then bN key j &&& 15 else if j % 4 = 0 ∧ 0 < j then bN key j &&& 252 else bN key j
theorem cb_lt (key : ByteArray) (j : Nat) : cb key j < 256 := by
  have := bN_lt key j
  unfold cb
  split
  · exact Nat.lt_of_le_of_lt Nat.and_le_left this
  · split
    · exact Nat.lt_of_le_of_lt Nat.and_le_left this
    · exact this
def cl (key : ByteArray) : List UInt8 := (List.range 16).map fun j => UInt8.ofNat (cb key j)
theorem cl_length (key : ByteArray) : (cl key).length = 16 := by simp [cl]
theorem cl_at (key : ByteArray) (j : Nat) (hj : j < (cl key).length) : ((cl key)[j]'hj).toNat = cb key j := by
  simp only [cl, List.getElem_map, List.getElem_range, UInt8.toNat_ofNat']
  exact Nat.mod_eq_of_lt (cb_lt key j)
/-- A clamped key. -/
def clT (key : ByteArray) : ByteArray := ⟨(cl key).toArray⟩
theorem clT_size (key : ByteArray) : (clT key).size = 16 := by
  show (cl key).toArray.size = 16
  rw [List.size_toArray, cl_length]
theorem clT_bN (key : ByteArray) (j : Nat) (hj : j < 16) : bN (clT key) j = cb key j := by
  have h : j < (cl key).length := by rw [cl_length]; exact hj
  show ((cl key).toArray.toList.getD j 0).toNat = _
  rw [List.getD_eq_getElem?_getD, List.getElem?_eq_getElem (by simpa using h)]
  exact cl_at key j h
theorem u8_and (x m : Nat) (hx : x < 256) (hm : m < 256) : bits .and .u8 (x : Int) (m : Int) = ((x &&& m : Nat) : Int) := by
  have h1 : x &&& m < 256 := Nat.lt_of_le_of_lt Nat.and_le_left hx
  show IntKind.u8.wrap ((BitVec.ofInt 8 (x : Int) &&& BitVec.ofInt 8 (m : Int)).toNat : Int) = _
  rw [BitVec.toNat_and]
  simp only [BitVec.ofInt_natCast, BitVec.toNat_ofNat, Nat.reducePow]
  rw [Nat.mod_eq_of_lt hx, Nat.mod_eq_of_lt hm, IntKind.wrap_u8']
  omega

theorem ok_impl (key : ByteArray) (k : Nat) (ys : List Value) (v : Value) (hk : k < 16) (hv : v = .int .u8 (cb key k : Int)) (h : ∀ j, j < 16 → ys[j]? = some (.int .u8 ((if j < k then cb key j else bN key j : Nat) : Int))) :
    ∀ j, j < 16 → (ys.set k v)[j]? = some (.int .u8 ((if j < k + 1 then cb key j else bN key j : Nat) : Int)) := by
  intro j hj
  have h0 := h k hk
  have hl : k < ys.length := (List.getElem?_eq_some_iff.1 h0).1
  by_cases e : j = k
  · subst e
    rw [List.getElem?_set_self hl, if_pos (by omega), hv]
  · rw [List.getElem?_set_ne (by omega), h j hj]
    by_cases e2 : j < k
    · rw [if_pos e2, if_pos (by omega)]
    · rw [if_neg e2, if_neg (by omega)]

set_option maxRecDepth 100000 in
set_option maxHeartbeats 1600000 in
theorem clamped (key : ByteArray) (hs : 16 ≤ key.size) (hm : key.size ≤ 65536) (w : World) :
    Calls Tryz.prog 73 #[.string key] w fun e w' => e = .returned (.string (clT key)) ∧ Below w.heap.size w w' := by
  have k1 := fun u : World => Lib.run_convert_string_bytes (P := Tryz.prog) u 9 22 5 (key.extract 0 16) Tryz.underlying9 Tryz.underlying22 Tryz.underlying5
  have HR := Lib.hid (Flat.bytes_row w (key.extract 0 16))
  have HBN := Lib.hid (show ∀ j, j < 16 → bN (key.extract 0 16) j = bN key j from fun j hj => by rw [Flat.bN_extract key 0 16 j hs (by omega), Nat.zero_add])
  have HSZ := Lib.hid (show (key.extract 0 16).size = 16 by rw [ByteArray.size_extract]; omega)
  have HCT := Lib.hid (show clT key = ⟨(cl key).toArray⟩ from rfl)
  generalize clT key = CT at *
  go_enter Tryz.func73, Tryz.ntmps73
  go_wp2_with fail
  clear k1
  generalize Lib.bytesWorld w _ _ = W at *
  generalize grownCap w 16 0 _ = cap at *
  obtain ⟨fr, xs, h1, h2, h3, h4, h5⟩ := HR.out
  rw [HSZ.out] at h2 h3
  have HST := Lib.hid (show RowF W w.heap.size 5 fr xs ∧ (∀ j, j < 16 → xs[j]? = some (.int .u8 ((if j < 0 then cb key j else bN key j : Nat) : Int))) ∧ Below w.heap.size w W from
    ⟨h1, fun j hj => by rw [h3 j hj, HBN.out j hj, if_neg (by omega)], h4⟩)
  have HFR := Lib.hid h2
  clear h1 h2 h3 h4 h5 HR HBN HSZ
  go_loopw [8] (fun i wr => ∃ (k : Nat) (ys : List Value), k ≤ 16 ∧ i = .int .i64 k ∧ Hid (RowF wr w.heap.size 5 fr ys ∧ (∀ j, j < 16 → ys[j]? = some (.int .u8 ((if j < k then cb key j else bN key j : Nat) : Int))) ∧ Below w.heap.size w wr)) (fun i _ => 16 - (intOf i).toNat)
  case atStart => exact ⟨0, xs, by omega, rfl, HST⟩
  case round =>
    rename_i wr
    clear HST
    obtain ⟨k, ys, hk, rfl, HX⟩ := hrel
    by_cases hlt : k < 16
    · have c0 := HX.out.1.cell k
      rw [HX.out.2.1 k hlt, if_neg (by omega)] at c0
      have f0 := HX.out.1.frozen k (.inl (by have := HFR.out; omega))
      have b0 := bN_lt key k
      have e15 := u8_and (bN key k) 15 b0 (by omega)
      have e252 := u8_and (bN key k) 252 b0 (by omega)
      have HCB := Lib.hid (show cb key k = if k % 4 = 3 then bN key k &&& 15 else if k % 4 = 0 ∧ 0 < k then bN key k &&& 252 else bN key k from rfl)
      have i1 : (k : Int) < 16 := by omega
      have i0 : (0 : Int) ≤ (k : Int) := by omega
      by_cases q3 : k % 4 = 3
      · have t3 : ((k : Int) % 4 == 3) = true := by simp; omega
        rw [if_pos q3] at HCB
        generalize hb : bN key k = b at *
        have HV := Lib.hid (Eq.symm HCB.out)
        go_wp2
        go_roundw
        case rel =>
          refine ⟨k + 1, ys.set k _, by omega, by go_num, Lib.hid ⟨HX.out.1.set k _, ok_impl key k ys _ hlt ?_ HX.out.2.1, HX.out.2.2.setCell (p := ⟨w.heap.size, k, none⟩) (Nat.le_refl _) _⟩⟩
          rw [HCB.out, nat_mask4]
          try rfl
          try simp
        case measure => simp [intOf]; omega
      · have t3 : ((k : Int) % 4 == 3) = false := by simp; omega
        rw [if_neg q3] at HCB
        by_cases q0 : k % 4 = 0 ∧ 0 < k
        · have t0 : ((k : Int) % 4 == 0) = true := by simp; omega
          have tk : (0 : Int) < (k : Int) := by omega
          rw [if_pos q0] at HCB
          generalize hb : bN key k = b at *
          have HV := Lib.hid (Eq.symm HCB.out)
          go_wp2
          go_roundw
          case rel =>
            refine ⟨k + 1, ys.set k _, by omega, by go_num, Lib.hid ⟨HX.out.1.set k _, ok_impl key k ys _ hlt ?_ HX.out.2.1, HX.out.2.2.setCell (p := ⟨w.heap.size, k, none⟩) (Nat.le_refl _) _⟩⟩
            rw [HCB.out, ← e252]
            try rfl
            try simp
          case measure => simp [intOf]; omega
        · rw [if_neg q0] at HCB
          have HN := Lib.hid (show ∀ j, j < 16 → ys[j]? = some (.int .u8 ((if j < k + 1 then cb key j else bN key j : Nat) : Int)) from fun j hj => by
            rw [HX.out.2.1 j hj]
            by_cases e : j = k
            · rw [e, if_neg (by omega), if_pos (by omega), HCB.out]
            · by_cases e2 : j < k
              · rw [if_pos e2, if_pos (by omega)]
              · rw [if_neg e2, if_neg (by omega)])
          by_cases z : k = 0
          · have t0 : ((k : Int) % 4 == 0) = true := by simp; omega
            have tk : ¬ (0 : Int) < (k : Int) := by omega
            have HZ := Lib.hid z
            clear z
            go_wp2
            go_roundw
            case rel => exact ⟨k + 1, ys, by omega, by go_num, Lib.hid ⟨HX.out.1, HN.out, HX.out.2.2⟩⟩
            case measure => simp [intOf]; omega
          · have t0 : ((k : Int) % 4 == 0) = false := by simp; omega
            go_wp2
            go_roundw
            case rel => exact ⟨k + 1, ys, by omega, by go_num, Lib.hid ⟨HX.out.1, HN.out, HX.out.2.2⟩⟩
            case measure => simp [intOf]; omega
    · have hfin := Lib.hid (show k = 16 by omega)
      have hconv := Flat.back wr w.heap.size cap 16 (cl key) (cl_length key) (fun j hj => by
        have hj2 := hj
        rw [cl_length] at hj2
        rw [HX.out.1.cell j, HX.out.2.1 j hj2, if_pos (by have := hfin.out; omega), cl_at])
      rw [← HCT.out] at hconv
      go_wp2
      go_ret
      exact ⟨rfl, HX.out.2.2⟩

/-- Byte j, clamped in the places of the one sort below m, and in those of the other below n. -/
def cb2 (key : ByteArray) (m n j : Nat) : Nat := if j % 4 = 3 ∧ j < m then bN key j &&& 15 else if j % 4 = 0 ∧ 0 < j ∧ j < n then bN key j &&& 252 else bN key j
theorem cb2_start (key : ByteArray) (j : Nat) : cb2 key 3 4 j = bN key j := by
  unfold cb2
  rw [if_neg (by omega), if_neg (by omega)]
theorem cb2_end (key : ByteArray) (m n j : Nat) (hj : j < 16) (hm : 16 ≤ m) (hn : 16 ≤ n) : cb2 key m n j = cb key j := by
  unfold cb2 cb
  by_cases h : j % 4 = 3
  · rw [if_pos h, if_pos ⟨h, by omega⟩]
  · rw [if_neg h, if_neg (by omega)]
    by_cases h2 : j % 4 = 0 ∧ 0 < j
    · rw [if_pos h2, if_pos (by omega)]
    · rw [if_neg h2, if_neg (by omega)]
theorem ok_spec (key : ByteArray) (k m n m' n' : Nat) (ys : List Value) (v : Value) (hk : k < 16) (hv : v = .int .u8 (cb2 key m' n' k : Int)) (hsame : ∀ j, j ≠ k → cb2 key m' n' j = cb2 key m n j) (h : ∀ j, j < 16 → ys[j]? = some (.int .u8 (cb2 key m n j : Int))) :
    ∀ j, j < 16 → (ys.set k v)[j]? = some (.int .u8 (cb2 key m' n' j : Int)) := by
  intro j hj
  have h0 := h k hk
  have hl : k < ys.length := (List.getElem?_eq_some_iff.1 h0).1
  by_cases e : j = k
  · subst e
    rw [List.getElem?_set_self hl, hv]
  · rw [List.getElem?_set_ne (by omega), h j hj, hsame j e]
theorem same3 (key : ByteArray) (k n j : Nat) (hk : k % 4 = 3) (hj : j ≠ k) : cb2 key (k + 4) n j = cb2 key k n j := by
  unfold cb2
  by_cases h : j % 4 = 3 ∧ j < k
  · rw [if_pos (by omega), if_pos h]
  · rw [if_neg (by omega), if_neg h]
theorem same0 (key : ByteArray) (k m j : Nat) (hk : k % 4 = 0) (hj : j ≠ k) : cb2 key m (k + 4) j = cb2 key m k j := by
  unfold cb2
  by_cases h : j % 4 = 3 ∧ j < m
  · rw [if_pos h, if_pos h]
  · rw [if_neg h, if_neg h]
    by_cases h : j % 4 = 0 ∧ 0 < j ∧ j < k
    · rw [if_pos (by omega), if_pos h]
    · rw [if_neg (by omega), if_neg h]

set_option maxRecDepth 100000 in
set_option maxHeartbeats 1600000 in
theorem l03Clamp (key : ByteArray) (hs : 16 ≤ key.size) (hm : key.size ≤ 65536) (w : World) :
    Calls Tryz.prog 94 #[.string key] w fun e w' => e = .returned (.string (clT key)) ∧ Below w.heap.size w w' := by
  have k1 := fun u : World => Lib.run_convert_string_bytes (P := Tryz.prog) u 9 22 5 (key.extract 0 16) Tryz.underlying9 Tryz.underlying22 Tryz.underlying5
  have HR := Lib.hid (Flat.bytes_row w (key.extract 0 16))
  have HBN := Lib.hid (show ∀ j, j < 16 → bN (key.extract 0 16) j = bN key j from fun j hj => by rw [Flat.bN_extract key 0 16 j hs (by omega), Nat.zero_add])
  have HSZ := Lib.hid (show (key.extract 0 16).size = 16 by rw [ByteArray.size_extract]; omega)
  have HCT := Lib.hid (show clT key = ⟨(cl key).toArray⟩ from rfl)
  generalize clT key = CT at *
  go_enter Tryz.func94, Tryz.ntmps94
  go_wp2_with fail
  clear k1
  generalize Lib.bytesWorld w _ _ = W at *
  generalize grownCap w 16 0 _ = cap at *
  obtain ⟨fr, xs, h1, h2, h3, h4, h5⟩ := HR.out
  rw [HSZ.out] at h2 h3
  have HST := Lib.hid (show RowF W w.heap.size 5 fr xs ∧ (∀ j, j < 16 → xs[j]? = some (.int .u8 (cb2 key 3 4 j : Int))) ∧ Below w.heap.size w W from
    ⟨h1, fun j hj => by rw [h3 j hj, HBN.out j hj, cb2_start], h4⟩)
  have HFR := Lib.hid h2
  clear h1 h2 h3 h4 h5 HR HBN HSZ
  go_loopw [4] (fun i wr => ∃ (k : Nat) (ys : List Value), k ≤ 19 ∧ k % 4 = 3 ∧ i = .int .i64 k ∧ Hid (RowF wr w.heap.size 5 fr ys ∧ (∀ j, j < 16 → ys[j]? = some (.int .u8 (cb2 key k 4 j : Int))) ∧ Below w.heap.size w wr)) (fun i _ => 19 - (intOf i).toNat)
  case atStart => exact ⟨3, xs, by omega, by omega, rfl, HST⟩
  case round =>
    rename_i wr
    clear HST
    obtain ⟨k, ys, hk, hk4, rfl, HX⟩ := hrel
    by_cases hlt : k < 16
    · have c0 := HX.out.1.cell k
      rw [HX.out.2.1 k hlt, show cb2 key k 4 k = bN key k by unfold cb2; rw [if_neg (by omega), if_neg (by omega)]] at c0
      have f0 := HX.out.1.frozen k (.inl (by have := HFR.out; omega))
      have b0 := bN_lt key k
      have HCB := Lib.hid (show cb2 key (k + 4) 4 k = bN key k &&& 15 by unfold cb2; rw [if_pos (by omega)])
      have HSM := Lib.hid (fun j => same3 key k 4 j hk4)
      have i1 : (k : Int) < 16 := by omega
      have i0 : (0 : Int) ≤ (k : Int) := by omega
      have HK4 := Lib.hid hk4
      clear hk4
      generalize hb : bN key k = b at *
      go_wp2
      go_roundw
      case rel =>
        refine ⟨k + 4, ys.set k _, by omega, by have := HK4.out; omega, by go_num, Lib.hid ⟨HX.out.1.set k _, ok_spec key k k 4 (k + 4) 4 ys _ hlt ?_ HSM.out HX.out.2.1, HX.out.2.2.setCell (p := ⟨w.heap.size, k, none⟩) (Nat.le_refl _) _⟩⟩
        rw [HCB.out, nat_mask4]
        simp
      case measure => simp [intOf]; omega
    · have HF := Lib.hid (show ∀ j, j < 16 → ys[j]? = some (.int .u8 (cb2 key 16 4 j : Int)) from fun j hj => by
        rw [HX.out.2.1 j hj]
        unfold cb2
        by_cases h : j % 4 = 3
        · rw [if_pos (show j % 4 = 3 ∧ j < k by omega), if_pos (show j % 4 = 3 ∧ j < 16 by omega)]
        · rw [if_neg (show ¬ (j % 4 = 3 ∧ j < k) by omega), if_neg (show ¬ (j % 4 = 3 ∧ j < 16) by omega)])
      clear hk4
      go_wp2
      go_loopw [5] (fun i wz => ∃ (k : Nat) (ys : List Value) (wr : World), k ≤ 16 ∧ k % 4 = 0 ∧ 0 < k ∧ i = .int .i64 k ∧ wr = wz ∧ Hid (RowF wr w.heap.size 5 fr ys ∧ (∀ j, j < 16 → ys[j]? = some (.int .u8 (cb2 key 16 k j : Int))) ∧ Below w.heap.size w wr)) (fun i _ => 19 - (intOf i).toNat)
      case atStart => exact ⟨4, ys, _, by omega, by omega, by omega, rfl, rfl, Lib.hid ⟨HX.out.1, HF.out, HX.out.2.2⟩⟩
      case round =>
        clear HX HF hlt hk
        obtain ⟨k, ys, wz, hk, hk4, hk0, rfl, rfl, HX⟩ := hrel
        by_cases hlt : k < 16
        · have c0 := HX.out.1.cell k
          rw [HX.out.2.1 k hlt, show cb2 key 16 k k = bN key k by unfold cb2; rw [if_neg (by omega), if_neg (by omega)]] at c0
          have f0 := HX.out.1.frozen k (.inl (by have := HFR.out; omega))
          have b0 := bN_lt key k
          have e252 := u8_and (bN key k) 252 b0 (by omega)
          have HCB := Lib.hid (show cb2 key 16 (k + 4) k = bN key k &&& 252 by unfold cb2; rw [if_neg (by omega), if_pos (by omega)])
          have HSM := Lib.hid (fun j => same0 key k 16 j hk4)
          have i1 : (k : Int) < 16 := by omega
          have i0 : (0 : Int) ≤ (k : Int) := by omega
          have HK4 := Lib.hid hk4
          clear hk4
          generalize hb : bN key k = b at *
          go_wp2
          go_roundw
          case rel =>
            refine ⟨k + 4, ys.set k _, _, by have := HK4.out; omega, by have := HK4.out; omega, by omega, by go_num, rfl, Lib.hid ⟨HX.out.1.set k _, ok_spec key k 16 k 16 (k + 4) ys _ hlt ?_ HSM.out HX.out.2.1, HX.out.2.2.setCell (p := ⟨w.heap.size, k, none⟩) (Nat.le_refl _) _⟩⟩
            rw [HCB.out, ← e252]
            try rfl
          case measure => simp [intOf]; omega
        · have hconv := Flat.back wz w.heap.size cap 16 (cl key) (cl_length key) (fun j hj => by
            have hj2 := hj
            rw [cl_length] at hj2
            rw [HX.out.1.cell j, HX.out.2.1 j hj2, cb2_end key 16 k j hj2 (by omega) (by omega), cl_at])
          rw [← HCT.out] at hconv
          clear hk4
          go_wp2
          go_ret
          exact ⟨rfl, HX.out.2.2⟩

/-- What both answer. -/
def fault (key : ByteArray) : Int := if 65536 < key.size then 2 else if key.size = 32 then 0 else 8
def res (key : ByteArray) : Value := .tuple #[.string (if key.size = 32 then clT key else ⟨#[]⟩), .int .i64 (fault key)]

theorem res_form (key : ByteArray) : ∃ (s : ByteArray) (c : Int), res key = .tuple #[.string s, .int .i64 c] := ⟨_, _, rfl⟩

end Go.Proofs.YtggobhpjfflooaaGreatDoor.Clamp
namespace Go.Proofs.YtggobhpjfflooaaGreatDoor.Poly
set_option linter.unusedVariables false

/-- 2 to the 130 less 5. -/
abbrev P : Nat := 1361129467683753853853498429727072845819
abbrev T130 : Nat := 1361129467683753853853498429727072845824

/-- The number that five parts are. -/
def val (v : Nat → Nat) : Nat := v 0 + v 1 * 67108864 + v 2 * 4503599627370496 + v 3 * 302231454903657293676544 + v 4 * 20282409603651670423947251286016
/-- What is carried into part k. -/
def ov (v : Nat → Nat) : Nat → Nat
  | 0 => 0
  | k + 1 => (v k + ov v k) / 67108864
def dg (v : Nat → Nat) (k : Nat) : Nat := (v k + ov v k) % 67108864
theorem dg_lt (v : Nat → Nat) (k : Nat) : dg v k < 67108864 := Nat.mod_lt _ (by omega)
theorem dg_ov (v : Nat → Nat) (k : Nat) : v k + ov v k = 67108864 * ov v (k + 1) + dg v k := by
  show _ = 67108864 * ((v k + ov v k) / 67108864) + (v k + ov v k) % 67108864
  omega
theorem val_dg (v : Nat → Nat) : val v = val (dg v) + ov v 5 * 1361129467683753853853498429727072845824 := by
  have h0 := dg_ov v 0
  have h1 := dg_ov v 1
  have h2 := dg_ov v 2
  have h3 := dg_ov v 3
  have h4 := dg_ov v 4
  have z : ov v 0 = 0 := rfl
  unfold val
  generalize dg v = d at *
  generalize ov v = o at *
  simp only [Nat.zero_add, Nat.reduceAdd] at *
  omega
theorem val_lt {v : Nat → Nat} (h : ∀ j, j < 5 → v j < 67108864) : val v < 1361129467683753853853498429727072845824 := by
  have h0 := h 0 (by omega)
  have h1 := h 1 (by omega)
  have h2 := h 2 (by omega)
  have h3 := h 3 (by omega)
  have h4 := h 4 (by omega)
  unfold val
  omega
theorem val_dg_lt (v : Nat → Nat) : val (dg v) < 1361129467683753853853498429727072845824 := val_lt fun j _ => dg_lt v j
theorem val_dg_mod (v : Nat → Nat) : val (dg v) = val v % 1361129467683753853853498429727072845824 := by
  have h1 := val_dg v
  have h2 := val_dg_lt v
  omega
theorem ov5 (v : Nat → Nat) : ov v 5 = val v / 1361129467683753853853498429727072845824 := by
  have h1 := val_dg v
  have h2 := val_dg_lt v
  omega
/-- What is above 130 bits comes back five times. -/
def fo (v : Nat → Nat) (j : Nat) : Nat := if j = 0 then dg v 0 + 5 * ov v 5 else dg v j
theorem fo_zero (v : Nat → Nat) : fo v 0 = dg v 0 + 5 * ov v 5 := rfl
theorem fo_pos (v : Nat → Nat) (j : Nat) (h : 0 < j) : fo v j = dg v j := if_neg (by omega)
theorem val_fo (v : Nat → Nat) : val (fo v) = val (dg v) + 5 * ov v 5 := by
  show (dg v 0 + 5 * ov v 5) + dg v 1 * _ + dg v 2 * _ + dg v 3 * _ + dg v 4 * _ = _
  unfold val
  omega
theorem val_fo_mod (v : Nat → Nat) : val (fo v) % P = val v % P := by
  have h1 := val_dg v
  have h2 := val_fo v
  have h3 : val v = val (fo v) + P * ov v 5 := by unfold P; omega
  rw [h3, Nat.add_mul_mod_self_left]
def Small (v : Nat → Nat) : Prop := ∀ j, j < 5 → v j < 4611686018427387904
theorem ov_lt {v : Nat → Nat} (h : Small v) : ∀ k, k ≤ 5 → ov v k ≤ 137438953472
  | 0, _ => by show 0 ≤ _; omega
  | k + 1, hk => by
    have h1 := h k (by omega)
    have h2 := ov_lt h k (by omega)
    show (v k + ov v k) / 67108864 ≤ _
    omega
theorem fo_small {v : Nat → Nat} (h : Small v) : (∀ j, j < 5 → fo v j < 1099511627776) ∧ val (fo v) < 1361129467683753853853498429727072845824 + 1099511627776 := by
  have h1 := ov_lt h 5 (by omega)
  have h2 := val_fo v
  have h3 := val_dg_lt v
  constructor
  · intro j hj
    by_cases h0 : j = 0
    · subst h0
      have := dg_lt v 0
      rw [fo_zero]
      omega
    · rw [fo_pos v j (by omega)]
      have := dg_lt v j
      omega
  · omega
/-- What a product leaves. -/
structure Half (v : Nat → Nat) : Prop where
  low : v 0 < 67108869
  high : ∀ j, 0 < j → v j < 67108864
  num : val v < 1361129467683753853853498429727072845824
theorem Half.lt {v : Nat → Nat} (h : Half v) (j : Nat) : v j < 67108869 := by
  by_cases h0 : j = 0
  · subst h0; exact h.low
  · have := h.high j (by omega); omega
theorem half_zero : Half fun _ => 0 := ⟨by omega, fun _ _ => by omega, by simp [val]⟩
theorem fo_fo {v : Nat → Nat} (h : Small v) : Half (fo (fo v)) := by
  obtain ⟨h1, h2⟩ := fo_small h
  have h3 := ov5 (fo v)
  have h4 := val_dg (fo v)
  have h5 := val_fo (fo v)
  have h6 := val_dg_lt (fo v)
  have h7 : ov (fo v) 5 ≤ 1 := by omega
  refine ⟨?_, fun j hj => ?_, ?_⟩
  · rw [fo_zero]
    have := dg_lt (fo v) 0
    omega
  · rw [fo_pos _ j hj]
    exact dg_lt _ _
  · omega
theorem fo_half {v : Nat → Nat} (h : Half v) : (∀ j, fo v j = dg v j) ∧ val (fo v) = val v ∧ ov v 5 = 0 := by
  have h1 := ov5 v
  have h2 := h.num
  have h3 : ov v 5 = 0 := by omega
  refine ⟨fun j => ?_, ?_, h3⟩
  · by_cases h0 : j = 0
    · subst h0
      rw [fo_zero, h3, Nat.mul_zero, Nat.add_zero]
    · exact fo_pos v j (by omega)
  · have h4 := val_fo v
    have h5 := val_dg v
    omega
theorem dg_half (v : Nat → Nat) : Half (dg v) := ⟨by have := dg_lt v 0; omega, fun j _ => dg_lt v j, val_dg_lt v⟩
theorem val_congr {v u : Nat → Nat} (h : ∀ j, j < 5 → v j = u j) : val v = val u := by
  unfold val
  rw [h 0 (by omega), h 1 (by omega), h 2 (by omega), h 3 (by omega), h 4 (by omega)]
theorem ov_congr {v u : Nat → Nat} (h : ∀ j, j < 5 → v j = u j) : ∀ k, k ≤ 5 → ov v k = ov u k
  | 0, _ => rfl
  | k + 1, hk => by
    show (v k + ov v k) / _ = (u k + ov u k) / _
    rw [h k (by omega), ov_congr h k (by omega)]
theorem dg_congr {v u : Nat → Nat} (h : ∀ j, j < 5 → v j = u j) (j : Nat) (hj : j < 5) : dg v j = dg u j := by
  show (v j + ov v j) % _ = (u j + ov u j) % _
  rw [h j hj, ov_congr h j (by omega)]
theorem fo_congr {v u : Nat → Nat} (h : ∀ j, j < 5 → v j = u j) (j : Nat) (hj : j < 5) : fo v j = fo u j := by
  unfold fo
  rw [dg_congr h j hj, dg_congr h 0 (by omega), ov_congr h 5 (by omega)]

/-! Products. -/
def pt (a b : Nat → Nat) (n : Nat) : Nat := if 5 ≤ n / 5 + n % 5 then a (n / 5) * b (n % 5) * 5 else a (n / 5) * b (n % 5)
def pa (a b : Nat → Nat) : Nat → Nat → Nat
  | 0, _ => 0
  | n + 1, k => if (n / 5 + n % 5) % 5 = k then pa a b n k + pt a b n else pa a b n k
theorem pt_le {a b : Nat → Nat} (ha : ∀ j, a j < 268435456) (hb : ∀ j, b j < 67108864) (n : Nat) : pt a b n ≤ 90071992547409920 := by
  have h := Nat.mul_le_mul (Nat.le_of_lt (ha (n / 5))) (Nat.le_of_lt (hb (n % 5)))
  unfold pt
  generalize a (n / 5) * b (n % 5) = x at *
  split <;> omega
theorem pa_le {a b : Nat → Nat} (ha : ∀ j, a j < 268435456) (hb : ∀ j, b j < 67108864) : ∀ n k, pa a b n k ≤ n * 90071992547409920
  | 0, _ => by show 0 ≤ _; omega
  | n + 1, k => by
    have h1 := pa_le ha hb n k
    have h2 := pt_le ha hb n
    rw [pa, Nat.succ_mul n 90071992547409920]
    split
    · exact Nat.add_le_add h1 h2
    · exact Nat.le_trans h1 (Nat.le_add_right _ _)
theorem pa_small {a b : Nat → Nat} (ha : ∀ j, a j < 268435456) (hb : ∀ j, b j < 67108864) : Small (pa a b 25) := fun j _ => by
  have := pa_le ha hb 25 j
  omega
theorem pa_val (a b : Nat → Nat) : val a * val b = val (pa a b 25) + P * (a 1 * b 4 + a 2 * b 3 + a 3 * b 2 + a 4 * b 1 + (a 2 * b 4 + a 3 * b 3 + a 4 * b 2) * 67108864 + (a 3 * b 4 + a 4 * b 3) * 4503599627370496 + a 4 * b 4 * 302231454903657293676544) := by
  have e0 : pa a b 25 0 = a 0 * b 0 + a 1 * b 4 * 5 + a 2 * b 3 * 5 + a 3 * b 2 * 5 + a 4 * b 1 * 5 := by simp [pa, pt]
  have e1 : pa a b 25 1 = a 0 * b 1 + a 1 * b 0 + a 2 * b 4 * 5 + a 3 * b 3 * 5 + a 4 * b 2 * 5 := by simp [pa, pt]
  have e2 : pa a b 25 2 = a 0 * b 2 + a 1 * b 1 + a 2 * b 0 + a 3 * b 4 * 5 + a 4 * b 3 * 5 := by simp [pa, pt]
  have e3 : pa a b 25 3 = a 0 * b 3 + a 1 * b 2 + a 2 * b 1 + a 3 * b 0 + a 4 * b 4 * 5 := by simp [pa, pt]
  have e4 : pa a b 25 4 = a 0 * b 4 + a 1 * b 3 + a 2 * b 2 + a 3 * b 1 + a 4 * b 0 := by simp [pa, pt]
  unfold val P
  rw [e0, e1, e2, e3, e4]
  clear e0 e1 e2 e3 e4
  generalize a 0 = a0
  generalize a 1 = a1
  generalize a 2 = a2
  generalize a 3 = a3
  generalize a 4 = a4
  generalize b 0 = b0
  generalize b 1 = b1
  generalize b 2 = b2
  generalize b 3 = b3
  generalize b 4 = b4
  grind
theorem pa_mod (a b : Nat → Nat) : val (pa a b 25) % P = val a * val b % P := by
  rw [pa_val, Nat.add_mul_mod_self_left]
theorem val_add (a b : Nat → Nat) : val (fun j => a j + b j) = val a + val b := by
  simp only [val]
  omega

/-! Bytes, the lowest first. -/
def le (f : Nat → Nat) : Nat → Nat
  | 0 => 0
  | n + 1 => le f n + f n * 256 ^ n
theorem le_lt {f : Nat → Nat} (h : ∀ j, f j < 256) : ∀ n, le f n < 256 ^ n
  | 0 => by show 0 < 1; omega
  | n + 1 => by
    have h1 := le_lt h n
    have h2 := h n
    have h3 : f n * 256 ^ n ≤ 255 * 256 ^ n := Nat.mul_le_mul_right _ (by omega)
    show le f n + f n * 256 ^ n < 256 ^ (n + 1)
    rw [Nat.pow_succ]
    omega
theorem le_congr {f g : Nat → Nat} : ∀ n, (∀ j, j < n → f j = g j) → le f n = le g n
  | 0, _ => rfl
  | n + 1, h => by
    show le f n + f n * _ = le g n + g n * _
    rw [h n (by omega), le_congr n fun j hj => h j (by omega)]
theorem le_zeros {f : Nat → Nat} (m : Nat) (h : ∀ j, m ≤ j → f j = 0) : ∀ d, le f (m + d) = le f m
  | 0 => rfl
  | d + 1 => by
    show le f (m + d) + f (m + d) * _ = _
    rw [h (m + d) (by omega), Nat.zero_mul, Nat.add_zero, le_zeros m h d]
theorem le_digits (F : Nat) : ∀ n, le (fun i => F / 256 ^ i % 256) n = F % 256 ^ n
  | 0 => by show 0 = F % 1; omega
  | n + 1 => by
    show le _ n + F / 256 ^ n % 256 * 256 ^ n = _
    rw [le_digits F n, Nat.mod_pow_succ, Nat.mul_comm]
/-- A byte of what bytes are. -/
theorem le_byte {d : Nat → Nat} (h : ∀ j, d j < 256) (Y : Nat) : ∀ n i, i < n → (le d n + Y * 256 ^ n) / 256 ^ i % 256 = d i := by
  intro n
  induction n generalizing Y with
  | zero => intro i hi; omega
  | succ n ih =>
    intro i hi
    have e : le d (n + 1) + Y * 256 ^ (n + 1) = le d n + (d n + Y * 256) * 256 ^ n := by
      show le d n + d n * 256 ^ n + Y * 256 ^ (n + 1) = _
      rw [Nat.pow_succ, Nat.add_mul, Nat.mul_comm (256 ^ n) 256, ← Nat.mul_assoc]
      omega
    rw [e]
    by_cases h0 : i = n
    · subst h0
      rw [Nat.add_mul_div_right _ _ (Nat.pow_pos (by omega)), Nat.div_eq_of_lt (le_lt h i)]
      have := h i
      omega
    · exact ih _ i (by omega)

/-- The program's way to lay bytes into parts. -/
def raw (f : Nat → Nat) : Nat → Nat → Nat
  | 0, _ => 0
  | i + 1, j => if 8 * i / 26 = j then raw f i j + f i * 2 ^ (8 * i % 26) else raw f i j
theorem cases17 {p : Nat → Prop} (h : p 0 ∧ p 1 ∧ p 2 ∧ p 3 ∧ p 4 ∧ p 5 ∧ p 6 ∧ p 7 ∧ p 8 ∧ p 9 ∧ p 10 ∧ p 11 ∧ p 12 ∧ p 13 ∧ p 14 ∧ p 15 ∧ p 16) (i : Nat) (hi : i < 17) : p i := by
  obtain ⟨h0, h1, h2, h3, h4, h5, h6, h7, h8, h9, h10, h11, h12, h13, h14, h15, h16⟩ := h
  match i, hi with
  | 0, _ => exact h0
  | 1, _ => exact h1
  | 2, _ => exact h2
  | 3, _ => exact h3
  | 4, _ => exact h4
  | 5, _ => exact h5
  | 6, _ => exact h6
  | 7, _ => exact h7
  | 8, _ => exact h8
  | 9, _ => exact h9
  | 10, _ => exact h10
  | 11, _ => exact h11
  | 12, _ => exact h12
  | 13, _ => exact h13
  | 14, _ => exact h14
  | 15, _ => exact h15
  | 16, _ => exact h16
  | k + 17, h => omega
theorem raw_step (g : Nat → Nat) (x i : Nat) (hi : i < 17) : val (fun j => if 8 * i / 26 = j then g j + x * 2 ^ (8 * i % 26) else g j) = val g + x * 256 ^ i := by
  refine cases17 (p := fun i => val (fun j => if 8 * i / 26 = j then g j + x * 2 ^ (8 * i % 26) else g j) = val g + x * 256 ^ i) ?_ i hi
  refine ⟨?_, ?_, ?_, ?_, ?_, ?_, ?_, ?_, ?_, ?_, ?_, ?_, ?_, ?_, ?_, ?_, ?_⟩ <;> (simp [val]; try omega)
theorem raw_val (f : Nat → Nat) : ∀ i, i ≤ 17 → val (raw f i) = le f i
  | 0, _ => by simp [val, raw, le]
  | i + 1, hi => by
    show val (fun j => if 8 * i / 26 = j then raw f i j + f i * 2 ^ (8 * i % 26) else raw f i j) = le f i + f i * 256 ^ i
    rw [raw_step _ _ i (by omega), raw_val f i (by omega)]
theorem pow_le (i : Nat) : 2 ^ (8 * i % 26) ≤ 33554432 := by
  have : 8 * i % 26 ≤ 25 := by omega
  exact Nat.pow_le_pow_right (n := 2) (by omega) this
theorem raw_le {f : Nat → Nat} (h : ∀ j, f j < 256) : ∀ i j, raw f i j ≤ i * 8589934592
  | 0, _ => by show 0 ≤ _; omega
  | i + 1, j => by
    have h1 := raw_le h i j
    have h2 : f i * 2 ^ (8 * i % 26) ≤ 8589934592 := Nat.mul_le_mul (Nat.le_of_lt (h i)) (pow_le i)
    rw [raw, Nat.succ_mul i 8589934592]
    split
    · exact Nat.add_le_add h1 h2
    · exact Nat.le_trans h1 (Nat.le_add_right _ _)
theorem raw_small {f : Nat → Nat} (h : ∀ j, f j < 256) (i : Nat) (hi : i ≤ 17) : Small (raw f i) := fun j _ => by
  have := raw_le h i j
  omega

/-- The model's way. -/
def sp (f : Nat → Nat) : Nat → Nat → Nat
  | 0, _ => 0
  | i + 1, j => if 8 * i / 26 = j then sp f i j + f i * 2 ^ (8 * i % 26) % 67108864 else if 18 < 8 * i % 26 ∧ 8 * i / 26 < 4 ∧ 8 * i / 26 + 1 = j then sp f i j + f i / 2 ^ (26 - 8 * i % 26) else sp f i j
theorem sp_step (g : Nat → Nat) (x i : Nat) (hi : i < 17) (hx : x < 256) (h16 : i = 16 → x < 4) :
    val (fun j => if 8 * i / 26 = j then g j + x * 2 ^ (8 * i % 26) % 67108864 else if 18 < 8 * i % 26 ∧ 8 * i / 26 < 4 ∧ 8 * i / 26 + 1 = j then g j + x / 2 ^ (26 - 8 * i % 26) else g j) = val g + x * 256 ^ i := by
  revert h16
  refine cases17 (p := fun i => (i = 16 → x < 4) → val (fun j => if 8 * i / 26 = j then g j + x * 2 ^ (8 * i % 26) % 67108864 else if 18 < 8 * i % 26 ∧ 8 * i / 26 < 4 ∧ 8 * i / 26 + 1 = j then g j + x / 2 ^ (26 - 8 * i % 26) else g j) = val g + x * 256 ^ i) ?_ i hi
  refine ⟨?_, ?_, ?_, ?_, ?_, ?_, ?_, ?_, ?_, ?_, ?_, ?_, ?_, ?_, ?_, ?_, ?_⟩ <;> (simp [val]; try omega)
theorem sp_val {f : Nat → Nat} (h : ∀ j, f j < 256) (h16 : f 16 < 4) : ∀ i, i ≤ 17 → val (sp f i) = le f i
  | 0, _ => by simp [val, sp, le]
  | i + 1, hi => by
    show val (fun j => if 8 * i / 26 = j then sp f i j + f i * 2 ^ (8 * i % 26) % 67108864 else if 18 < 8 * i % 26 ∧ 8 * i / 26 < 4 ∧ 8 * i / 26 + 1 = j then sp f i j + f i / 2 ^ (26 - 8 * i % 26) else sp f i j) = le f i + f i * 256 ^ i
    rw [sp_step _ _ i (by omega) (h i) (fun e => by rw [e]; exact h16), sp_val h h16 i (by omega)]
theorem sp_le {f : Nat → Nat} (h : ∀ j, f j < 256) : ∀ i j, sp f i j ≤ i * 67108864
  | 0, _ => by show 0 ≤ _; omega
  | i + 1, j => by
    have h1 := sp_le h i j
    have h2 : f i * 2 ^ (8 * i % 26) % 67108864 ≤ 67108864 := Nat.le_of_lt (Nat.mod_lt _ (by omega))
    have h3 : f i / 2 ^ (26 - 8 * i % 26) ≤ 67108864 := Nat.le_trans (Nat.div_le_self _ _) (by have := h i; omega)
    rw [sp, Nat.succ_mul i 67108864]
    split
    · exact Nat.add_le_add h1 h2
    · split
      · exact Nat.add_le_add h1 h3
      · exact Nat.le_trans h1 (Nat.le_add_right _ _)
theorem sp_lt {f : Nat → Nat} (h : ∀ j, f j < 256) (h16 : f 16 < 4) (j : Nat) : sp f 17 j < 67108864 := by
  have h0 := h 0
  have h1 := h 1
  have h2 := h 2
  have h3 := h 3
  have h4 := h 4
  have h5 := h 5
  have h6 := h 6
  have h7 := h 7
  have h8 := h 8
  have h9 := h 9
  have h10 := h 10
  have h11 := h 11
  have h12 := h 12
  have h13 := h 13
  have h14 := h 14
  have h15 := h 15
  by_cases hj : j < 5
  · match j, hj with
    | 0, _ => simp [sp]; omega
    | 1, _ => simp [sp]; omega
    | 2, _ => simp [sp]; omega
    | 3, _ => simp [sp]; omega
    | 4, _ => simp [sp]; omega
  · have n0 : ¬ 0 = j := by omega
    have n1 : ¬ 1 = j := by omega
    have n2 : ¬ 2 = j := by omega
    have n3 : ¬ 3 = j := by omega
    have n4 : ¬ 4 = j := by omega
    simp [sp, n0, n1, n2, n3, n4]

/-! The bytes of a number in five parts below 2 to the 26. -/
theorem byte_or (v : Nat → Nat) (hv : ∀ j, v j < 67108864) (i : Nat) (hi : i < 16) :
    (if 8 * i / 26 + 1 < 5 then v (8 * i / 26) / 2 ^ (8 * i % 26) ||| v (8 * i / 26 + 1) * 2 ^ (26 - 8 * i % 26) else v (8 * i / 26) / 2 ^ (8 * i % 26)) % 256 = val v / 256 ^ i % 256 := by
  have e : ∀ a b k, a < 2 ^ k → a ||| b * 2 ^ k = a + b * 2 ^ k := fun a b k h => by
    rw [Nat.or_comm, Nat.mul_comm, ← Nat.two_pow_add_eq_or_of_lt h, Nat.add_comm]
  have h0 := hv 0
  have h1 := hv 1
  have h2 := hv 2
  have h3 := hv 3
  have h4 := hv 4
  refine cases17 (p := fun i => i < 16 → (if 8 * i / 26 + 1 < 5 then v (8 * i / 26) / 2 ^ (8 * i % 26) ||| v (8 * i / 26 + 1) * 2 ^ (26 - 8 * i % 26) else v (8 * i / 26) / 2 ^ (8 * i % 26)) % 256 = val v / 256 ^ i % 256) ?_ i (by omega) hi
  refine ⟨?_, ?_, ?_, ?_, ?_, ?_, ?_, ?_, ?_, ?_, ?_, ?_, ?_, ?_, ?_, ?_, fun h => absurd h (by omega)⟩
  all_goals
    intro _
    first | rw [if_pos (by omega), e _ _ _ (by simp; omega)] | rw [if_neg (by omega)]
    simp only [val, Nat.reduceMul, Nat.reduceDiv, Nat.reduceMod, Nat.reducePow, Nat.reduceAdd, Nat.reduceSub]
    omega
theorem byte_add (v : Nat → Nat) (hv : ∀ j, v j < 67108864) (i : Nat) (hi : i < 16) :
    (if 18 < 8 * i % 26 then v (8 * i / 26) / 2 ^ (8 * i % 26) + v (8 * i / 26 + 1) * 2 ^ (26 - 8 * i % 26) else v (8 * i / 26) / 2 ^ (8 * i % 26)) % 256 = val v / 256 ^ i % 256 := by
  have h0 := hv 0
  have h1 := hv 1
  have h2 := hv 2
  have h3 := hv 3
  have h4 := hv 4
  refine cases17 (p := fun i => i < 16 → (if 18 < 8 * i % 26 then v (8 * i / 26) / 2 ^ (8 * i % 26) + v (8 * i / 26 + 1) * 2 ^ (26 - 8 * i % 26) else v (8 * i / 26) / 2 ^ (8 * i % 26)) % 256 = val v / 256 ^ i % 256) ?_ i (by omega) hi
  refine ⟨?_, ?_, ?_, ?_, ?_, ?_, ?_, ?_, ?_, ?_, ?_, ?_, ?_, ?_, ?_, ?_, fun h => absurd h (by omega)⟩
  all_goals
    intro _
    first | rw [if_pos (by omega)] | rw [if_neg (by omega)]
    simp only [val, Nat.reduceMul, Nat.reduceDiv, Nat.reduceMod, Nat.reducePow, Nat.reduceAdd, Nat.reduceSub]
    omega

/-! The least number that is the same modulo 2 to the 130 less 5. -/
def p5 (v : Nat → Nat) (j : Nat) : Nat := if j = 0 then v 0 + 5 else v j
theorem p5_val (v : Nat → Nat) : val (p5 v) = val v + 5 := by
  show (v 0 + 5) + v 1 * _ + v 2 * _ + v 3 * _ + v 4 * _ = _
  unfold val
  omega
def rd (v : Nat → Nat) : Nat → Nat := if 0 < ov (p5 v) 5 then dg (p5 v) else v
theorem p5_small {v : Nat → Nat} (h : Half v) : Small (p5 v) := fun j _ => by
  have := h.lt j
  have := h.lt 0
  unfold p5
  split <;> omega
theorem rd_val {v : Nat → Nat} (h : Half v) : val (rd v) = val v % P := by
  have h1 := p5_val v
  have h2 := ov5 (p5 v)
  have h3 := val_dg_mod (p5 v)
  have h4 := h.num
  unfold P
  by_cases hx : val v < 1361129467683753853853498429727072845819
  · have h5 : ov (p5 v) 5 = 0 := by rw [h2]; exact Nat.div_eq_of_lt (by omega)
    unfold rd
    rw [h5, if_neg (by omega), Nat.mod_eq_of_lt hx]
  · have h5 : 0 < ov (p5 v) 5 := by rw [h2]; exact Nat.div_pos (by omega) (by omega)
    unfold rd
    rw [if_pos h5, h3, h1]
    generalize val v = X at *
    clear h1 h2 h3 h5
    have e1 : (X + 5) % 1361129467683753853853498429727072845824 = X + 5 - 1361129467683753853853498429727072845824 := by
      rw [Nat.mod_eq_sub_mod (by omega), Nat.mod_eq_of_lt (by omega)]
    have e2 : X % 1361129467683753853853498429727072845819 = X - 1361129467683753853853498429727072845819 := by
      rw [Nat.mod_eq_sub_mod (by omega), Nat.mod_eq_of_lt (by omega)]
    omega
theorem rd_half {v : Nat → Nat} (h : Half v) : Half (rd v) := by
  unfold rd
  split
  · exact dg_half _
  · exact h
end Go.Proofs.YtggobhpjfflooaaGreatDoor.Poly
namespace Go.Proofs.YtggobhpjfflooaaGreatDoor.Five
open Go.ChangeShapes Go.WideShapes Go.ChangeAt Go.RowKit
open Arr (Row)
set_option linter.unusedVariables false

/-- Five numbers as cells. -/
def cn (κ : IntKind) (v : Nat → Nat) : List Value := (List.range 5).map fun j => .int κ (v j : Int)
theorem cn_len (κ : IntKind) (v : Nat → Nat) : (cn κ v).length = 5 := by simp [cn]
theorem cn_at (κ : IntKind) (v : Nat → Nat) (j : Nat) (h : j < 5) : (cn κ v)[j]? = some (.int κ (v j : Int)) := by
  simp [cn, h]
theorem cn_one (κ : IntKind) (v : Nat → Nat) : (cn κ v).toArray.all (·.oneCell') = true := all_oneCell_toArray fun u hu => by
  simp only [cn, List.mem_map] at hu
  obtain ⟨j, _, rfl⟩ := hu
  rfl
theorem cn_congr (κ : IntKind) {v u : Nat → Nat} (h : ∀ j, j < 5 → v j = u j) : cn κ v = cn κ u := by
  unfold cn
  apply List.map_congr_left
  intro j hj
  rw [h j (by simpa using hj)]
theorem cn_set (κ : IntKind) (v u : Nat → Nat) (k : Nat) (x : Int) (hk : k < 5) (hx : x = (u k : Int)) (h : ∀ j, j < 5 → j ≠ k → v j = u j) : (cn κ v).set k (.int κ x) = cn κ u := by
  apply List.ext_getElem?
  intro j
  by_cases hj : j < 5
  · by_cases e : j = k
    · subst e
      rw [List.getElem?_set_self (by rw [cn_len]; exact hk), cn_at κ u j hj, hx]
    · rw [List.getElem?_set_ne (by omega), cn_at κ v j hj, cn_at κ u j hj, h j hj e]
  · rw [List.getElem?_eq_none (by rw [List.length_set, cn_len]; omega), List.getElem?_eq_none (by rw [cn_len]; omega)]
theorem info44 : (Tryz.prog.info? 118).map (·.size) = some 5 := by kernel_rfl
theorem infoU (v : Nat → Nat) : (Tryz.prog.info? 118).map (·.size) = some (cn .u64 v).toArray.size := by rw [List.size_toArray, cn_len]; exact info44
theorem info50 : (Tryz.prog.info? 142).map (·.size) = some 5 := by kernel_rfl
theorem infoI (v : Nat → Nat) : (Tryz.prog.info? 142).map (·.size) = some (cn .i64 v).toArray.size := by rw [List.size_toArray, cn_len]; exact info50
theorem size_cn (κ : IntKind) (v : Nat → Nat) : (cn κ v).toArray.size = 5 := by rw [List.size_toArray, cn_len]
theorem there_row {w : World} {g : Nat} {t : TypeId} {xs : List Value} (h : Row w g t xs) (hl : xs.length = 5) (κ : IntKind) (v : Nat → Nat) : w.there g 0 (cn κ v).toArray.size := by
  have := h.there
  rw [hl] at this
  rw [size_cn]
  exact this
theorem sets_row {w : World} {g : Nat} {t : TypeId} {xs : List Value} (h : Row w g t xs) (hl : xs.length = 5) (κ : IntKind) (v : Nat → Nat) : Row (w.setCells g 0 (cn κ v)) g t (cn κ v) :=
  h.sets_all (by rw [cn_len, hl])
theorem three_new (w : World) (a b c : Array Value) (t u v : TypeId) : Row (((w.alloc (.cells a t)).alloc (.cells b u)).alloc (.cells c v)) w.heap.size t a.toList ∧ Row (((w.alloc (.cells a t)).alloc (.cells b u)).alloc (.cells c v)) (w.heap.size + 1) u b.toList ∧
    Row (((w.alloc (.cells a t)).alloc (.cells b u)).alloc (.cells c v)) (w.heap.size + 2) v c.toList ∧ Below w.heap.size w (((w.alloc (.cells a t)).alloc (.cells b u)).alloc (.cells c v)) ∧ w.heap.size + 3 ≤ (((w.alloc (.cells a t)).alloc (.cells b u)).alloc (.cells c v)).heap.size := by
  obtain ⟨h1, h2, h3, h4⟩ := Arr.two_new w a b t u
  refine ⟨h1.alloc _, h2.alloc _, ?_, h3.alloc (by omega) _, by simp⟩
  have := Arr.row_new ((w.alloc (.cells a t)).alloc (.cells b u)) c v
  rw [show ((w.alloc (.cells a t)).alloc (.cells b u)).heap.size = w.heap.size + 2 by simp] at this
  exact this
theorem loadU {w : World} {g : Nat} {t : TypeId} {v : Nat → Nat} (h : Row w g t (cn .u64 v)) : (loadVar 118 ⟨g, 0, none⟩).run Tryz.prog w = .ok (.agg (cn .u64 v).toArray) w :=
  run_loadVar_row w g t 118 _ (0, 0) _ h Tryz.underlying118 rfl (infoU v)
theorem results_cell_tmp_row {fn : Func} {p u : Tmp} {ty : TypeId} {P : Program} (h : fn.results = #[.cell p ty, .tmp u]) (tmps : Array Value) (w : World) (g : Nat) (cs x : Value)
    (hp : tmps.getD p undef = .pointer (some ⟨g, 0, none⟩)) (hl : (loadVar ty ⟨g, 0, none⟩).run P w = .ok cs w) (hx : tmps.getD u undef = x) :
    (results fn tmps).run P w = .ok (.tuple #[cs, x]) w := by
  rw [results_cell_tmp h, hp, hx]
  simp [asAddr, hl]
theorem u64_wrap (x : Nat) (h : x < 18446744073709551616) : IntKind.u64.wrap (x : Int) = (x : Int) := by rw [IntKind.wrap_u64]; omega
end Go.Proofs.YtggobhpjfflooaaGreatDoor.Five
namespace Go.Proofs.YtggobhpjfflooaaGreatDoor.Carried
open Go.ChangeShapes Go.WideShapes Go.ChangeAt Go.RowKit
open Arr (Row)
open Five Poly
set_option linter.unusedVariables false

set_option maxRecDepth 100000 in
set_option maxHeartbeats 1600000 in
theorem carried (v : Nat → Nat) (hv : Small v) (w : World) :
    Calls Tryz.prog 77 #[.agg (cn .u64 v).toArray] w fun e' w' => e' = .returned (.tuple #[.agg (cn .u64 (dg v)).toArray, .int .u64 (ov v 5 : Int)]) ∧ Below w.heap.size w w' := by
  have HS := Lib.hid hv
  clear hv
  have HI := Lib.hid infoU
  have HCA := Lib.hid (cn_at .u64 v)
  have HLN := Lib.hid (cn_len .u64)
  generalize hys : cn .u64 v = ys at *
  have HYS := Lib.hid hys
  clear hys
  go_enter Tryz.func77, Tryz.ntmps77
  go_wp2
  generalize hW : (w.alloc _).alloc _ = W
  obtain ⟨z1, hz1, R0, R1, HB, hsz⟩ : ∃ z1 : List Value, z1.length = 5 ∧ Row W w.heap.size 118 ys ∧ Row W (w.heap.size + 1) 118 z1 ∧ Below w.heap.size w W ∧ w.heap.size + 2 ≤ W.heap.size := by
    rw [← hW]
    refine ⟨_, ?_, (Arr.two_new w _ _ _ _).1, (Arr.two_new w _ _ _ _).2.1, (Arr.two_new w _ _ _ _).2.2.1, (Arr.two_new w _ _ _ _).2.2.2⟩
    · rfl
  clear hW
  have Z1 := Lib.hid hz1
  have RR := Lib.hid (show Row W w.heap.size 118 (cn .u64 fun j => if j < 0 then dg v j else v j) ∧ Row W (w.heap.size + 1) 118 z1 ∧ Below w.heap.size w W ∧ w.heap.size + 2 ≤ W.heap.size from ⟨by rw [← HYS.out] at R0; exact R0, R1, HB, hsz⟩)
  clear hz1 R0 R1 HB hsz
  go_loopw [4, 6] (fun o i wr => ∃ k : Nat, k ≤ 5 ∧ i = .int .i64 k ∧ o = .int .u64 (ov v k : Int) ∧ Hid (Row wr w.heap.size 118 (cn .u64 fun j => if j < k then dg v j else v j) ∧ Row wr (w.heap.size + 1) 118 z1 ∧ Below w.heap.size w wr ∧ w.heap.size + 2 ≤ wr.heap.size)) (fun _ i _ => 5 - (intOf i).toNat)
  case atStart => exact ⟨0, by omega, rfl, rfl, RR⟩
  case round =>
    rename_i wr
    clear RR
    obtain ⟨k, hk, rfl, rfl, HX⟩ := hrel
    by_cases hlt : k < 5
    · have c0 := HX.out.1.cell k
      rw [cn_at .u64 _ k hlt, if_neg (by omega)] at c0
      have f0 := HX.out.1.frozen k
      have b0 := HS.out k hlt
      have b1 := ov_lt HS.out k (by omega)
      have HD := Lib.hid (show dg v k = (v k + ov v k) % 67108864 from rfl)
      have HO := Lib.hid (show ov v (k + 1) = (v k + ov v k) / 67108864 from rfl)
      have i1 : (k : Int) < 5 := by omega
      have i0 : (0 : Int) ≤ (k : Int) := by omega
      obtain ⟨s, es⟩ : ∃ s, v k + ov v k = s := ⟨_, rfl⟩
      have hsb : s < 18446744073709551616 := by omega
      have hw : IntKind.u64.wrap ((v k : Int) + (ov v k : Int)) = (s : Int) := by rw [← u64_wrap s hsb, ← es]; rfl
      have hand := u64_and_nat s 67108863 hsb (by omega)
      rw [es] at HD HO
      clear es
      generalize v k = vk at *
      generalize ov v k = ok at *
      go_wp2
      go_roundw
      case rel =>
        obtain ⟨h1, h2, h3, h4⟩ := HX.out
        refine ⟨k + 1, by omega, by go_num, by rw [HO.out]; simp, Lib.hid ⟨?_, (h2.set_far _ _ _ (by omega)).set_far _ _ _ (by omega), (h3.setCell (show w.heap.size ≤ w.heap.size from Nat.le_refl _) _).setCell (show w.heap.size ≤ w.heap.size from Nat.le_refl _) _, by simp [World.setCell]; exact h4⟩⟩
        have h5 := (h1.set k (.int .u64 (s : Int))).set k (.int .u64 (bits .and .u64 (s : Int) 67108863))
        rw [List.set_set, cn_set .u64 _ (fun j => if j < k + 1 then dg v j else v j) k _ hlt ?_ ?_] at h5
        · exact h5
        · rw [if_pos (by omega), HD.out, ← nat_mask26, ← hand]
          rfl
        · intro j hj hjk
          by_cases e : j < k
          · rw [if_pos e, if_pos (by omega)]
          · rw [if_neg e, if_neg (by omega)]
      case measure => simp [intOf]; omega
    · obtain rfl : k = 5 := by omega
      obtain ⟨h1, h2, h3, h4⟩ := HX.out
      rw [cn_congr .u64 (u := dg v) (fun j hj => if_pos hj)] at h1
      have HRR := Lib.hid h1
      have HT := Lib.hid (there_row h2 Z1.out .u64 (dg v))
      have HRES := Lib.hid (sets_row h2 Z1.out .u64 (dg v))
      have HBF := Lib.hid (Arr.below_sets (B := w.heap.size) (a := w) (w.heap.size + 1) (by omega) (cn .u64 (dg v)) 0 wr h3)
      have HI4 := Lib.hid (infoU (dg v))
      have H1 := Lib.hid (cn_one .u64 (dg v))
      have HLD := Lib.hid (loadU HRES.out)
      clear h1 h2 h3 h4 HX
      generalize ho5 : ov v 5 = o5 at *
      have HO5 := Lib.hid ho5
      generalize hus : cn .u64 (dg v) = us at *
      have HUS := Lib.hid hus
      clear hus ho5
      go_wp2_with (first
        | ((with_reducible show wpList _ _ _ _ _ _); refine wpList_load_row rfl 118 _ rfl w.heap.size rfl 118 _ (0, 0) _ HRR.out Tryz.underlying118 rfl HI4.out ?_)
        | ((with_reducible show wpList _ _ _ _ _ _); refine wpList_store_mid rfl 118 _ _ rfl (w.heap.size + 1) 0 us.toArray rfl rfl HT.out HI4.out H1.out ?_))
      refine bodyPost_ret (v := .tuple #[.agg us.toArray, .int .u64 (o5 : Int)]) ?_ rfl ⟨by rw [HUS.out, HO5.out], HBF.out⟩
      exact results_cell_tmp_row rfl _ _ (w.heap.size + 1) _ _ rfl HLD.out rfl
end Go.Proofs.YtggobhpjfflooaaGreatDoor.Carried
namespace Go.Proofs.YtggobhpjfflooaaGreatDoor.Wrapped
open Go.ChangeShapes Go.WideShapes Go.ChangeAt Go.RowKit
open Arr (Row)
open Five Poly
set_option linter.unusedVariables false

set_option maxRecDepth 100000 in
set_option maxHeartbeats 1600000 in
theorem wrapped (v : Nat → Nat) (hv : Small v) (w : World) :
    Calls Tryz.prog 89 #[.agg (cn .u64 v).toArray] w fun e' w' => e' = .returned (.agg (cn .u64 (fo v)).toArray) ∧ Below w.heap.size w w' := by
  have HC := Lib.hid (Carried.carried v hv)
  have hov := ov_lt hv 5 (by omega)
  have hd0 := dg_lt v 0
  have HFO := Lib.hid (fun (x : Int) (hx : x = (fo v 0 : Int)) => cn_set .u64 (dg v) (fo v) 0 x (by omega) hx (fun j hj h0 => (fo_pos v j (by omega)).symm))
  have HF0 := Lib.hid (fo_zero v)
  have HA0 := Lib.hid (cn_at .u64 (dg v) 0 (by omega))
  have HI := Lib.hid (infoU v)
  have HID := Lib.hid (infoU (dg v))
  have HIF := Lib.hid (infoU (fo v))
  have HOD := Lib.hid (cn_one .u64 (dg v))
  have HOF := Lib.hid (cn_one .u64 (fo v))
  have HLN := Lib.hid (cn_len .u64 v)
  have HLD := Lib.hid (cn_len .u64 (dg v))
  have HLF := Lib.hid (cn_len .u64 (fo v))
  have HTH := Lib.hid (fun (w : World) g t xs (h : Row w g t xs) hl => there_row h hl .u64 (dg v))
  have HTF := Lib.hid (fun (w : World) g t xs (h : Row w g t xs) hl => there_row h hl .u64 (fo v))
  have HSD := Lib.hid (fun (w : World) g t xs (h : Row w g t xs) hl => sets_row h hl .u64 (dg v))
  have HSF := Lib.hid (fun (w : World) g t xs (h : Row w g t xs) hl => sets_row h hl .u64 (fo v))
  clear hv
  obtain ⟨s, es⟩ : ∃ s, dg v 0 + 5 * ov v 5 = s := ⟨_, rfl⟩
  have hsb : s < 18446744073709551616 := by omega
  obtain ⟨p, ep⟩ : ∃ p, 5 * ov v 5 = p := ⟨_, rfl⟩
  have hw0 : IntKind.u64.wrap (5 * (ov v 5 : Int)) = (p : Int) := by rw [← u64_wrap p (by omega), ← ep]; rfl
  have hw : IntKind.u64.wrap ((dg v 0 : Int) + (p : Int)) = (s : Int) := by rw [← u64_wrap s hsb, ← es, ← ep]; rfl
  rw [es] at HF0
  clear es ep
  generalize ov v 5 = o5 at *
  generalize dg v 0 = d0 at *
  generalize cn .u64 v = ys at *
  generalize cn .u64 (dg v) = ds at *
  generalize cn .u64 (fo v) = fs at *
  go_enter Tryz.func89, Tryz.ntmps89
  have HW := Lib.hid (Arr.two_new w ys.toArray)
  go_upto_region 1 with (fail)
  generalize hW : (w.alloc _).alloc _ = W
  obtain ⟨z1, hz1, R0, R1, HB, hsz⟩ : ∃ z1 : List Value, z1.length = 5 ∧ Row W w.heap.size 118 ys ∧ Row W (w.heap.size + 1) 118 z1 ∧ Below w.heap.size w W ∧ w.heap.size + 2 ≤ W.heap.size := by
    rw [← hW]
    exact ⟨_, rfl, HW.out _ _ _⟩
  clear hW HW
  have Z1 := Lib.hid hz1
  have HR0 := Lib.hid R0
  have HR1 := Lib.hid R1
  have HBB := Lib.hid HB
  clear hz1 R0 R1 HB
  go_wp2_with (((with_reducible show wpList _ _ _ _ _ _); refine wpList_load_row rfl 118 _ rfl w.heap.size rfl 118 _ (0, 0) _ HR0.out Tryz.underlying118 rfl HI.out ?_))
  refine (HC.out _).mono ?_
  rintro e' w1 ⟨rfl, hb⟩
  have HQ0 := Lib.hid (HR0.out.below hb (by omega))
  have HQ1 := Lib.hid (HR1.out.below hb (by omega))
  have HQB := Lib.hid (HBB.out.trans (hb.mono (by omega)))
  clear hb HR0 HR1 HBB
  have HT1 := Lib.hid (HTH.out _ _ _ _ HQ0.out HLN.out)
  have HS1 := Lib.hid (HSD.out _ _ _ _ HQ0.out HLN.out)
  have HS2 := Lib.hid (HQ1.out.sets_far (show w.heap.size + 1 ≠ w.heap.size by omega) ds 0 w1)
  have HSB := Lib.hid (Arr.below_sets (B := w.heap.size) (a := w) w.heap.size (Nat.le_refl _) ds 0 w1 HQB.out)
  clear HQ0 HQ1 HQB
  go_upto_region 2 with (((with_reducible show wpList _ _ _ _ _ _); refine wpList_store_mid rfl 118 _ _ rfl w.heap.size 0 ds.toArray rfl rfl HT1.out HID.out HOD.out ?_; simp only []))
  generalize w1.setCells w.heap.size 0 ds = W2 at *
  have c0 := HS1.out.cell 0
  rw [HA0.out] at c0
  have f0 := HS1.out.frozen 0
  go_upto_region 3 with (fail)
  have HX0 := Lib.hid (HS1.out.set 0 (.int .u64 (s : Int)))
  rw [HFO.out _ (by rw [HF0.out])] at HX0
  have HX1 := Lib.hid (HS2.out.set_far w.heap.size 0 (.int .u64 (s : Int)) (show w.heap.size + 1 ≠ w.heap.size by omega))
  have HXB := Lib.hid (HSB.out.setCell (p := ⟨w.heap.size, 0, none⟩) (Nat.le_refl _) (.int .u64 (s : Int)))
  clear HS1 HS2 HSB
  generalize W2.setCell ⟨w.heap.size, 0, none⟩ (.int .u64 (s : Int)) = W3 at *
  have HT := Lib.hid (HTF.out _ _ _ _ HX1.out Z1.out)
  have HRES := Lib.hid (HSF.out _ _ _ _ HX1.out Z1.out)
  have HBF := Lib.hid (Arr.below_sets (B := w.heap.size) (a := w) (w.heap.size + 1) (by omega) fs 0 W3 HXB.out)
  go_wp2_with (first
    | ((with_reducible show wpList _ _ _ _ _ _); refine wpList_load_row rfl 118 _ rfl w.heap.size rfl 118 _ (0, 0) _ HX0.out Tryz.underlying118 rfl HIF.out ?_)
    | ((with_reducible show wpList _ _ _ _ _ _); refine wpList_store_mid rfl 118 _ _ rfl (w.heap.size + 1) 0 fs.toArray rfl rfl HT.out HIF.out HOF.out ?_))
  refine bodyPost_ret (v := .agg fs.toArray) ?_ rfl ⟨rfl, HBF.out⟩
  exact results_cell_row rfl _ _ (w.heap.size + 1) 118 _ (0, 0) _ rfl HRES.out Tryz.underlying118 rfl HIF.out

set_option maxRecDepth 100000 in
set_option maxHeartbeats 1600000 in
theorem plus (a b : Nat → Nat) (hs : ∀ j, j < 5 → a j + b j < 18446744073709551616) (w : World) :
    Calls Tryz.prog 74 #[.agg (cn .u64 a).toArray, .agg (cn .u64 b).toArray] w fun e' w' => e' = .returned (.agg (cn .u64 fun j => a j + b j).toArray) ∧ Below w.heap.size w w' := by
  have HS := Lib.hid hs
  clear hs
  generalize hys : cn .u64 a = ys at *
  generalize hzs : cn .u64 b = zs at *
  have HYS := Lib.hid hys
  have HZS := Lib.hid hzs
  clear hys hzs
  go_enter Tryz.func74, Tryz.ntmps74
  have HW := Lib.hid (three_new w ys.toArray zs.toArray)
  go_wp2
  generalize hW : ((w.alloc _).alloc _).alloc _ = W
  obtain ⟨z1, hz1, R0, R1, R2, HB, hsz⟩ : ∃ z1 : List Value, z1.length = 5 ∧ Row W w.heap.size 118 ys ∧ Row W (w.heap.size + 1) 118 zs ∧ Row W (w.heap.size + 2) 118 z1 ∧ Below w.heap.size w W ∧ w.heap.size + 3 ≤ W.heap.size := by
    rw [← hW]
    exact ⟨_, rfl, HW.out _ _ _ _⟩
  clear hW HW
  have Z1 := Lib.hid hz1
  rw [← HYS.out] at R0
  rw [← HZS.out] at R1
  have RR := Lib.hid (show Row W w.heap.size 118 (cn .u64 fun j => if j < 0 then a j + b j else a j) ∧ Row W (w.heap.size + 1) 118 (cn .u64 b) ∧ Row W (w.heap.size + 2) 118 z1 ∧ Below w.heap.size w W from ⟨R0, R1, R2, HB⟩)
  clear hz1 R0 R1 R2 HB hsz
  go_loopw [6] (fun i wr => ∃ k : Nat, k ≤ 5 ∧ i = .int .i64 k ∧ Hid (Row wr w.heap.size 118 (cn .u64 fun j => if j < k then a j + b j else a j) ∧ Row wr (w.heap.size + 1) 118 (cn .u64 b) ∧ Row wr (w.heap.size + 2) 118 z1 ∧ Below w.heap.size w wr)) (fun i _ => 5 - (intOf i).toNat)
  case atStart => exact ⟨0, by omega, rfl, RR⟩
  case round =>
    rename_i wr
    clear RR
    obtain ⟨k, hk, rfl, HX⟩ := hrel
    by_cases hlt : k < 5
    · have c0 := HX.out.1.cell k
      rw [cn_at .u64 _ k hlt, if_neg (by omega)] at c0
      have c1 := HX.out.2.1.cell k
      rw [cn_at .u64 _ k hlt] at c1
      have f0 := HX.out.1.frozen k
      have b0 := HS.out k hlt
      have i1 : (k : Int) < 5 := by omega
      have i0 : (0 : Int) ≤ (k : Int) := by omega
      obtain ⟨s, es⟩ : ∃ s, a k + b k = s := ⟨_, rfl⟩
      have hw : IntKind.u64.wrap ((a k : Int) + (b k : Int)) = (s : Int) := by rw [← u64_wrap s (by omega), ← es]; rfl
      have HES := Lib.hid (show ∀ c, c = k → a c + b c = s from fun c hc => by rw [hc]; exact es)
      clear es b0
      generalize a k = ak at *
      generalize b k = bk at *
      have q0 : ∀ k', (World.mk wr.heap wr.tape k' wr.os wr.output).cell? ⟨w.heap.size, k, none⟩ = some (.int .u64 (ak : Int)) := fun _ => c0
      have q1 : ∀ k', (World.mk wr.heap wr.tape k' wr.os wr.output).cell? ⟨w.heap.size + 1, k, none⟩ = some (.int .u64 (bk : Int)) := fun _ => c1
      go_wp2
      go_still_tail 8, (by kernel_rfl)
      clear q0 q1
      change wpList _ _ _ _ _ wr.drew
      go_wp2
      go_roundw
      case rel =>
        obtain ⟨h1, h2, h3, h4⟩ := HX.out
        refine ⟨k + 1, by omega, by go_num, Lib.hid ⟨?_, (h2.set_far _ _ _ (by omega)).drew, (h3.set_far _ _ _ (by omega)).drew, (h4.setCell (show w.heap.size ≤ w.heap.size from Nat.le_refl _) _).drew⟩⟩
        have h5 := h1.set k (.int .u64 (s : Int))
        rw [cn_set .u64 _ (fun j => if j < k + 1 then a j + b j else a j) k _ hlt ?_ ?_] at h5
        · exact h5.drew
        · rw [if_pos (by omega), HES.out k rfl]
        · intro j hj hjk
          by_cases e : j < k
          · rw [if_pos e, if_pos (by omega)]
          · rw [if_neg e, if_neg (by omega)]
      case measure => simp [intOf]; omega
    · obtain rfl : k = 5 := by omega
      obtain ⟨h1, h2, h3, h4⟩ := HX.out
      rw [cn_congr .u64 (u := fun j => a j + b j) (fun j hj => if_pos hj)] at h1
      have HRR := Lib.hid h1
      have HT := Lib.hid (there_row h3 Z1.out .u64 (fun j => a j + b j))
      have HRES := Lib.hid (sets_row h3 Z1.out .u64 (fun j => a j + b j))
      have HBF := Lib.hid (Arr.below_sets (B := w.heap.size) (a := w) (w.heap.size + 2) (by omega) (cn .u64 (fun j => a j + b j)) 0 wr h4)
      have HI4 := Lib.hid (infoU (fun j => a j + b j))
      have H1 := Lib.hid (cn_one .u64 (fun j => a j + b j))
      clear h1 h2 h3 h4 HX
      generalize hus : cn .u64 (fun j => a j + b j) = us at *
      have HUS := Lib.hid hus
      clear hus
      go_wp2_with (first
        | ((with_reducible show wpList _ _ _ _ _ _); refine wpList_load_row rfl 118 _ rfl w.heap.size rfl 118 _ (0, 0) _ HRR.out Tryz.underlying118 rfl HI4.out ?_)
        | ((with_reducible show wpList _ _ _ _ _ _); refine wpList_store_mid rfl 118 _ _ rfl (w.heap.size + 2) 0 us.toArray rfl rfl HT.out HI4.out H1.out ?_))
      refine bodyPost_ret (v := .agg us.toArray) ?_ rfl ⟨by rw [HUS.out], HBF.out⟩
      exact results_cell_row rfl _ _ (w.heap.size + 2) 118 _ (0, 0) _ rfl HRES.out Tryz.underlying118 rfl HI4.out
end Go.Proofs.YtggobhpjfflooaaGreatDoor.Wrapped
namespace Go.Proofs.YtggobhpjfflooaaGreatDoor.Times
open Go.ChangeShapes Go.WideShapes Go.ChangeAt Go.RowKit
open Arr (Row)
open Five Poly
set_option linter.unusedVariables false

theorem four_new (w : World) (a b c d : Array Value) (t u v x : TypeId) : Row ((((w.alloc (.cells a t)).alloc (.cells b u)).alloc (.cells c v)).alloc (.cells d x)) w.heap.size t a.toList ∧ Row ((((w.alloc (.cells a t)).alloc (.cells b u)).alloc (.cells c v)).alloc (.cells d x)) (w.heap.size + 1) u b.toList ∧
    Row ((((w.alloc (.cells a t)).alloc (.cells b u)).alloc (.cells c v)).alloc (.cells d x)) (w.heap.size + 2) v c.toList ∧ Row ((((w.alloc (.cells a t)).alloc (.cells b u)).alloc (.cells c v)).alloc (.cells d x)) (w.heap.size + 3) x d.toList ∧ Below w.heap.size w ((((w.alloc (.cells a t)).alloc (.cells b u)).alloc (.cells c v)).alloc (.cells d x)) ∧ w.heap.size + 4 ≤ ((((w.alloc (.cells a t)).alloc (.cells b u)).alloc (.cells c v)).alloc (.cells d x)).heap.size := by
  obtain ⟨h1, h2, h3, h4, h5⟩ := three_new w a b c t u v
  refine ⟨h1.alloc _, h2.alloc _, h3.alloc _, ?_, h4.alloc (by omega) _, by simp⟩
  have := Arr.row_new (((w.alloc (.cells a t)).alloc (.cells b u)).alloc (.cells c v)) d x
  rw [show (((w.alloc (.cells a t)).alloc (.cells b u)).alloc (.cells c v)).heap.size = w.heap.size + 3 by simp] at this
  exact this
/-- One step of a product. -/
theorem pa_step (κ : IntKind) (a b : Nat → Nat) (i j q : Nat) (s : Int) (hj : j < 5) (hq : q = (i + j) % 5) (hs : s = ((pa a b (5 * i + j) q + pt a b (5 * i + j) : Nat) : Int)) :
    (cn κ (pa a b (5 * i + j))).set q (.int κ s) = cn κ (pa a b (5 * i + (j + 1))) := by
  have e1 : (5 * i + j) / 5 = i := by omega
  have e2 : (5 * i + j) % 5 = j := by omega
  refine cn_set κ _ _ q s (by omega) ?_ ?_
  · show s = (((if ((5 * i + j) / 5 + (5 * i + j) % 5) % 5 = q then pa a b (5 * i + j) q + pt a b (5 * i + j) else pa a b (5 * i + j) q : Nat)) : Int)
    rw [e1, e2, if_pos hq.symm, hs]
  · intro k hk hne
    show _ = (if ((5 * i + j) / 5 + (5 * i + j) % 5) % 5 = k then pa a b (5 * i + j) k + pt a b (5 * i + j) else pa a b (5 * i + j) k : Nat)
    rw [e1, e2, if_neg (by omega)]
theorem pt_at (a b : Nat → Nat) (i j : Nat) (hj : j < 5) : pt a b (5 * i + j) = if 5 ≤ i + j then a i * b j * 5 else a i * b j := by
  have e1 : (5 * i + j) / 5 = i := by omega
  have e2 : (5 * i + j) % 5 = j := by omega
  unfold pt
  rw [e1, e2]

set_option maxRecDepth 100000 in
set_option maxHeartbeats 3200000 in
theorem times (a b : Nat → Nat) (ha : ∀ j, a j < 268435456) (hb : ∀ j, b j < 67108864) (w : World) :
    Calls Tryz.prog 75 #[.agg (cn .u64 a).toArray, .agg (cn .u64 b).toArray] w fun e' w' => e' = .returned (.agg (cn .u64 (fo (fo (pa a b 25)))).toArray) ∧ Below w.heap.size w w' := by
  have HA := Lib.hid ha
  have HB := Lib.hid hb
  have HSM := Lib.hid (pa_small ha hb)
  have HPL := Lib.hid (pa_le ha hb)
  have HPT := Lib.hid (pt_le ha hb)
  clear ha hb
  generalize hys : cn .u64 a = ys at *
  generalize hzs : cn .u64 b = zs at *
  have HYS := Lib.hid hys
  have HZS := Lib.hid hzs
  clear hys hzs
  go_enter Tryz.func75, Tryz.ntmps75
  have HW := Lib.hid (four_new w ys.toArray zs.toArray)
  go_wp2
  generalize hW : (((w.alloc _).alloc _).alloc _).alloc _ = W
  obtain ⟨z1, hz1, R0, R1, R2, R3, HBL, hsz⟩ : ∃ z1 : List Value, z1.length = 5 ∧ Row W w.heap.size 118 ys ∧ Row W (w.heap.size + 1) 118 zs ∧ Row W (w.heap.size + 2) 118 z1 ∧ Row W (w.heap.size + 3) 118 (cn .u64 (pa a b (5 * 0))) ∧ Below w.heap.size w W ∧ w.heap.size + 4 ≤ W.heap.size := by
    rw [← hW]
    exact ⟨_, rfl, HW.out _ _ _ _ _ _⟩
  clear hW HW
  have Z1 := Lib.hid hz1
  rw [← HYS.out] at R0
  rw [← HZS.out] at R1
  have RR := Lib.hid (show Row W w.heap.size 118 (cn .u64 a) ∧ Row W (w.heap.size + 1) 118 (cn .u64 b) ∧ Row W (w.heap.size + 2) 118 z1 ∧ Row W (w.heap.size + 3) 118 (cn .u64 (pa a b (5 * 0))) ∧ Below w.heap.size w W ∧ w.heap.size + 4 ≤ W.heap.size from ⟨R0, R1, R2, R3, HBL, hsz⟩)
  clear hz1 R0 R1 R2 R3 HBL hsz
  go_loopw [9] (fun i wz => ∃ (k : Nat) (wr : World), k ≤ 5 ∧ i = .int .i64 k ∧ wr = wz ∧ Hid (Row wr w.heap.size 118 (cn .u64 a) ∧ Row wr (w.heap.size + 1) 118 (cn .u64 b) ∧ Row wr (w.heap.size + 2) 118 z1 ∧ Row wr (w.heap.size + 3) 118 (cn .u64 (pa a b (5 * k))) ∧ Below w.heap.size w wr ∧ w.heap.size + 4 ≤ wr.heap.size)) (fun i _ => 5 - (intOf i).toNat)
  case atStart => exact ⟨0, _, by omega, rfl, rfl, RR⟩
  case round =>
    clear RR
    obtain ⟨i, wo, hi, rfl, rfl, HX⟩ := hrel
    by_cases hlt : i < 5
    · have i1 : (i : Int) < 5 := by omega
      have i0 : (0 : Int) ≤ (i : Int) := by omega
      have HST := Lib.hid (show cn .u64 (pa a b (5 * i)) = cn .u64 (pa a b (5 * i + 0)) from rfl)
      rw [HST.out] at HX
      clear HST
      go_wp2
      go_loopw [12] (fun j wz => ∃ (k : Nat) (wr : World), k ≤ 5 ∧ j = .int .i64 k ∧ wr = wz ∧ Hid (Row wr w.heap.size 118 (cn .u64 a) ∧ Row wr (w.heap.size + 1) 118 (cn .u64 b) ∧ Row wr (w.heap.size + 2) 118 z1 ∧ Row wr (w.heap.size + 3) 118 (cn .u64 (pa a b (5 * i + k))) ∧ Below w.heap.size w wr ∧ w.heap.size + 4 ≤ wr.heap.size)) (fun j _ => 5 - (intOf j).toNat)
      case atStart => exact ⟨0, _, by omega, rfl, rfl, HX⟩
      case round =>
        clear HX
        obtain ⟨j, wr, hj, rfl, rfl, HX⟩ := hrel
        by_cases hjt : j < 5
        · have j1 : (j : Int) < 5 := by omega
          have j0 : (0 : Int) ≤ (j : Int) := by omega
          have c0 := HX.out.1.cell i
          rw [cn_at .u64 _ i hlt] at c0
          have c1 := HX.out.2.1.cell j
          rw [cn_at .u64 _ j hjt] at c1
          obtain ⟨q, eq⟩ : ∃ q, (i + j) % 5 = q := ⟨_, rfl⟩
          have hq : q < 5 := by omega
          have c2 := HX.out.2.2.2.1.cell q
          rw [cn_at .u64 _ q hq] at c2
          have f2 := HX.out.2.2.2.1.frozen q
          have b0 := HPL.out (5 * i + j) q
          have b1 := HPT.out (5 * i + j)
          have HSTEP := Lib.hid (fun s => pa_step .u64 a b i j q s hjt eq.symm)
          have ept := pt_at a b i j hjt
          obtain ⟨t, et⟩ : ∃ t, i + j = t := ⟨_, rfl⟩
          rw [et] at ept eq
          have ht8 : t ≤ 8 := by omega
          have hij : (i : Int) + (j : Int) = (t : Int) := by omega
          have hq0 : (t : Int) % 5 = (q : Int) := by omega
          have hq1 : (q : Int) < 5 := by omega
          have hq2 : (0 : Int) ≤ (q : Int) := by omega
          have jt : IntKind.i64.wrap (t : Int) = t := by rw [IntKind.wrap_i64]; omega
          have jq : IntKind.i64.wrap (q : Int) = q := by rw [IntKind.wrap_i64]; omega
          have hmb := Nat.mul_le_mul (Nat.le_of_lt (HA.out i)) (Nat.le_of_lt (HB.out j))
          obtain ⟨x, ex⟩ : ∃ x, a i * b j = x := ⟨_, rfl⟩
          rw [ex] at hmb ept
          have hwx : IntKind.u64.wrap ((a i : Int) * (b j : Int)) = (x : Int) := by rw [← u64_wrap x (by omega), ← ex]; rfl
          generalize hpt : pt a b (5 * i + j) = y at *
          have hb0 : pa a b (5 * i + j) q < 4611686018427387904 := by omega
          generalize pa a b (5 * i + j) q = o at *
          have hwy : IntKind.u64.wrap ((o : Int) + (y : Int)) = ((o + y : Nat) : Int) := by rw [← u64_wrap (o + y) (by omega)]; rfl
          generalize hs : o + y = s at *
          generalize a i = ai at *
          generalize b j = bj at *
          clear hpt hs et eq ex b0 hmb
          by_cases h5 : 5 ≤ t
          · have t5 : (5 : Int) ≤ (t : Int) := by omega
            rw [if_pos h5] at ept
            have hwz : IntKind.u64.wrap ((x : Int) * 5) = (y : Int) := by rw [← u64_wrap y (by omega), ept]; rfl
            clear ept
            go_wp2
            go_quiet (fail)
            go_wp2
            go_roundw
            case rel =>
              obtain ⟨h1, h2, h3, h4, h6, h7⟩ := HX.out
              refine ⟨j + 1, _, by omega, by go_num, rfl, Lib.hid ⟨h1.set_far _ _ _ (by omega), h2.set_far _ _ _ (by omega), h3.set_far _ _ _ (by omega), ?_, (below_drewN h6 _).setCell (show w.heap.size ≤ w.heap.size + 3 by omega) _, by simp [World.setCell]; exact h7⟩⟩
              rw [← HSTEP.out (s : Int) rfl]
              exact h4.set q _
            case measure => simp [intOf]; omega
          · have t5 : ¬ (5 : Int) ≤ (t : Int) := by omega
            rw [if_neg h5] at ept
            subst ept
            go_wp2
            go_quiet (fail)
            go_wp2
            go_roundw
            case rel =>
              obtain ⟨h1, h2, h3, h4, h6, h7⟩ := HX.out
              refine ⟨j + 1, _, by omega, by go_num, rfl, Lib.hid ⟨h1.set_far _ _ _ (by omega), h2.set_far _ _ _ (by omega), h3.set_far _ _ _ (by omega), ?_, (below_drewN h6 _).setCell (show w.heap.size ≤ w.heap.size + 3 by omega) _, by simp [World.setCell]; exact h7⟩⟩
              rw [← HSTEP.out (s : Int) rfl]
              exact h4.set q _
            case measure => simp [intOf]; omega
        · obtain rfl : j = 5 := by omega
          go_wp2
          go_roundw
          case rel => exact ⟨i + 1, _, by omega, by go_num, rfl, HX⟩
          case measure => simp [intOf]; omega
    · obtain rfl : i = 5 := by omega
      have HW1 := Lib.hid (Wrapped.wrapped _ HSM.out)
      have HW2 := Lib.hid (Wrapped.wrapped (fo (pa a b 25)) (fun j hj => by have := (fo_small HSM.out).1 j hj; omega))
      obtain ⟨h1, h2, h3, h4, h6, h7⟩ := HX.out
      have HR3 := Lib.hid (show Row wo (w.heap.size + 3) 118 (cn .u64 (pa a b 25)) from h4)
      have HR2 := Lib.hid h3
      have HBB := Lib.hid h6
      have HI0 := Lib.hid (infoU (pa a b 25))
      have HIF := Lib.hid (infoU (fo (fo (pa a b 25))))
      have HOF := Lib.hid (cn_one .u64 (fo (fo (pa a b 25))))
      have HTF := Lib.hid (fun (w : World) g t xs (h : Row w g t xs) hl => there_row h hl .u64 (fo (fo (pa a b 25))))
      have HSF := Lib.hid (fun (w : World) g t xs (h : Row w g t xs) hl => sets_row h hl .u64 (fo (fo (pa a b 25))))
      clear h1 h2 h3 h4 h6 HX HSM HPL HPT HA HB
      generalize hus : cn .u64 (fo (fo (pa a b 25))) = us at *
      have HUS := Lib.hid hus
      clear hus
      generalize cn .u64 (fo (pa a b 25)) = u1 at *
      generalize cn .u64 (pa a b 25) = u0 at *
      go_wp2_with (((with_reducible show wpList _ _ _ _ _ _); refine wpList_load_row rfl 118 _ rfl (w.heap.size + 3) rfl 118 _ (0, 0) _ HR3.out Tryz.underlying118 rfl HI0.out ?_))
      refine (HW1.out _).mono ?_
      rintro e' w1 ⟨rfl, hb⟩
      have HR21 := Lib.hid (HR2.out.below hb (by omega))
      have HB1 := Lib.hid (HBB.out.trans (hb.mono (by omega)))
      have hz1 : w.heap.size + 4 ≤ w1.heap.size := Nat.le_trans h7 hb.size
      clear hb HR2 HBB HR3
      go_wp2_with fail
      refine (HW2.out _).mono ?_
      rintro e' w2 ⟨rfl, hb⟩
      have HR22 := Lib.hid (HR21.out.below hb (by omega))
      have HB2 := Lib.hid (HB1.out.trans (hb.mono (by omega)))
      clear hb HR21 HB1
      have HT := Lib.hid (HTF.out _ _ _ _ HR22.out Z1.out)
      have HRES := Lib.hid (HSF.out _ _ _ _ HR22.out Z1.out)
      have HBF := Lib.hid (Arr.below_sets (B := w.heap.size) (a := w) (w.heap.size + 2) (by omega) us 0 w2 HB2.out)
      go_wp2_with (((with_reducible show wpList _ _ _ _ _ _); refine wpList_store_mid rfl 118 _ _ rfl (w.heap.size + 2) 0 us.toArray rfl rfl HT.out HIF.out HOF.out ?_))
      refine bodyPost_ret (v := .agg us.toArray) ?_ rfl ⟨by rw [HUS.out], HBF.out⟩
      exact results_cell_row rfl _ _ (w.heap.size + 2) 118 _ (0, 0) _ rfl HRES.out Tryz.underlying118 rfl HIF.out
end Go.Proofs.YtggobhpjfflooaaGreatDoor.Times
namespace Go.Proofs.YtggobhpjfflooaaGreatDoor.Reduced
open Go.ChangeShapes Go.WideShapes Go.ChangeAt Go.RowKit
open Arr (Row)
open Five Poly
set_option linter.unusedVariables false

theorem cn_p5 (v : Nat → Nat) (x : Int) (hx : x = ((v 0 + 5 : Nat) : Int)) : (cn .u64 v).set 0 (.int .u64 x) = cn .u64 (p5 v) :=
  cn_set .u64 v (p5 v) 0 x (by omega) hx (fun j hj h0 => (if_neg h0).symm)
theorem new_row (w : World) (κ : IntKind) (v : Nat → Nat) (t : TypeId) (cs : Array Value) (hcs : cs.size = 5) : (w.alloc (.cells cs t)).there w.heap.size 0 (cn κ v).toArray.size ∧
    Row ((w.alloc (.cells cs t)).setCells w.heap.size 0 (cn κ v)) w.heap.size t (cn κ v) := by
  have h := Arr.row_new w cs t
  exact ⟨there_row h (by simpa using hcs) κ v, sets_row h (by simpa using hcs) κ v⟩

set_option maxRecDepth 100000 in
set_option maxHeartbeats 1600000 in
theorem reduced (v : Nat → Nat) (hv : Half v) (w : World) :
    Calls Tryz.prog 76 #[.agg (cn .u64 v).toArray] w fun e' w' => e' = .returned (.agg (cn .u64 (rd v)).toArray) ∧ Below w.heap.size w w' := by
  have HC := Lib.hid (Carried.carried (p5 v) (p5_small hv))
  have HP5 := Lib.hid (cn_p5 v)
  have hv0 := hv.low
  have HA0 := Lib.hid (cn_at .u64 v 0 (by omega))
  have hw : IntKind.u64.wrap ((v 0 : Int) + 5) = ((v 0 + 5 : Nat) : Int) := by rw [← u64_wrap (v 0 + 5) (by omega)]; rfl
  have HI := Lib.hid (infoU v)
  have HI5 := Lib.hid (infoU (p5 v))
  have HID := Lib.hid (infoU (dg (p5 v)))
  have HO := Lib.hid (cn_one .u64 v)
  have HOD := Lib.hid (cn_one .u64 (dg (p5 v)))
  have HTH := Lib.hid (fun (w : World) g t xs (h : Row w g t xs) hl => there_row h hl .u64 v)
  have HTD := Lib.hid (fun (w : World) g t xs (h : Row w g t xs) hl => there_row h hl .u64 (dg (p5 v)))
  have HSV := Lib.hid (fun (w : World) g t xs (h : Row w g t xs) hl => sets_row h hl .u64 v)
  have HSD := Lib.hid (fun (w : World) g t xs (h : Row w g t xs) hl => sets_row h hl .u64 (dg (p5 v)))
  have HNV := Lib.hid (fun (w : World) cs hcs => new_row w .u64 v 118 cs hcs)
  have HND := Lib.hid (fun (w : World) cs hcs => new_row w .u64 (dg (p5 v)) 118 cs hcs)
  have HRD := Lib.hid (show cn .u64 (rd v) = if 0 < ov (p5 v) 5 then cn .u64 (dg (p5 v)) else cn .u64 v by unfold rd; split <;> rfl)
  clear hv
  generalize hs : v 0 + 5 = s at *
  generalize v 0 = v0 at *
  clear hs
  generalize ov (p5 v) 5 = o5 at *
  generalize cn .u64 v = ys at *
  generalize cn .u64 (p5 v) = ps at *
  generalize cn .u64 (dg (p5 v)) = ds at *
  generalize cn .u64 (rd v) = rs at *
  go_enter Tryz.func76, Tryz.ntmps76
  have HW := Lib.hid (Arr.two_new w ys.toArray)
  go_upto_region 1 with (fail)
  generalize hW : (w.alloc _).alloc _ = W
  obtain ⟨z1, hz1, R0, R1, HB, hsz⟩ : ∃ z1 : List Value, z1.length = 5 ∧ Row W w.heap.size 118 ys ∧ Row W (w.heap.size + 1) 118 z1 ∧ Below w.heap.size w W ∧ w.heap.size + 2 ≤ W.heap.size := by
    rw [← hW]
    exact ⟨_, rfl, HW.out _ _ _⟩
  clear hW HW
  have Z1 := Lib.hid hz1
  have HR0 := Lib.hid R0
  have HR1 := Lib.hid R1
  have HBB := Lib.hid HB
  clear hz1 R0 R1 HB
  go_upto_region 2 with (first
    | ((with_reducible show wpList _ _ _ _ _ _); refine wpList_load_row rfl 118 _ rfl w.heap.size rfl 118 _ (0, 0) _ HR0.out Tryz.underlying118 rfl HI.out ?_)
    | ((with_reducible show wpList _ _ _ _ _ _); refine wpList_store_mid rfl 118 _ _ rfl W.heap.size 0 ys.toArray rfl rfl (HNV.out W _ rfl).1 HI.out HO.out ?_; simp only []))
  generalize hW1 : (W.alloc _).setCells _ _ _ = W1
  obtain ⟨Q0, Q1, Q2, QB, qsz⟩ : Row W1 w.heap.size 118 ys ∧ Row W1 (w.heap.size + 1) 118 z1 ∧ Row W1 W.heap.size 118 ys ∧ Below w.heap.size w W1 ∧ W1.heap.size = W.heap.size + 1 := by
    rw [← hW1]
    refine ⟨(HR0.out.alloc _).sets_far (by omega) _ _ _, (HR1.out.alloc _).sets_far (by omega) _ _ _, (HNV.out W _ rfl).2, Arr.below_sets _ (by omega) _ _ _ (HBB.out.alloc (by omega) _), by rw [Arr.size_sets]; simp⟩
  clear hW1
  generalize W.heap.size = G at *
  have c0 := Q2.cell 0
  rw [HA0.out] at c0
  have f0 := Q2.frozen 0
  have HX2 := Lib.hid (Q2.set 0 (.int .u64 (s : Int)))
  rw [HP5.out _ rfl] at HX2
  have HX0 := Lib.hid (Q0.set_far G 0 (.int .u64 (s : Int)) (by omega))
  have HX1 := Lib.hid (Q1.set_far G 0 (.int .u64 (s : Int)) (by omega))
  have HXB := Lib.hid (QB.setCell (p := ⟨G, 0, none⟩) (show w.heap.size ≤ G by omega) (.int .u64 (s : Int)))
  have hxs : (W1.setCell ⟨G, 0, none⟩ (.int .u64 (s : Int))).heap.size = G + 1 := by simp [World.setCell]; exact qsz
  clear Q0 Q1 Q2 QB HR0 HR1 HBB
  go_upto_region 3 with (fail)
  generalize W1.setCell ⟨G, 0, none⟩ (.int .u64 (s : Int)) = W2 at *
  go_wp2_with (((with_reducible show wpList _ _ _ _ _ _); refine wpList_load_row rfl 118 _ rfl G rfl 118 _ (0, 0) _ HX2.out Tryz.underlying118 rfl HI5.out ?_))
  refine (HC.out _).mono ?_
  rintro e' w1 ⟨rfl, hb⟩
  have HY0 := Lib.hid (HX0.out.below hb (by omega))
  have HY1 := Lib.hid (HX1.out.below hb (by omega))
  have HYB := Lib.hid (HXB.out.trans (hb.mono (by omega)))
  have hys : G + 1 ≤ w1.heap.size := by have := hb.size; omega
  clear hb HX0 HX1 HX2 HXB hxs c0 f0
  go_upto_region 4 with (((with_reducible show wpList _ _ _ _ _ _); refine wpList_store_mid rfl 118 _ _ rfl w1.heap.size 0 ds.toArray rfl rfl (HND.out w1 _ rfl).1 HID.out HOD.out ?_; simp only []))
  generalize hW3 : (w1.alloc _).setCells _ _ _ = W3
  obtain ⟨Q0, Q1, Q2, QB⟩ : Row W3 w.heap.size 118 ys ∧ Row W3 (w.heap.size + 1) 118 z1 ∧ Row W3 w1.heap.size 118 ds ∧ Below w.heap.size w W3 := by
    rw [← hW3]
    refine ⟨(HY0.out.alloc _).sets_far (by omega) _ _ _, (HY1.out.alloc _).sets_far (by omega) _ _ _, (HND.out w1 _ rfl).2, Arr.below_sets _ (by omega) _ _ _ (HYB.out.alloc (by omega) _)⟩
  clear hW3
  have HQ0 := Lib.hid Q0
  have HQ2 := Lib.hid Q2
  by_cases ho : 0 < o5
  · have ho2 : (0 : Int) < (o5 : Int) := by omega
    rw [if_pos ho] at HRD
    have HT := Lib.hid (HTD.out _ _ _ _ Q1 Z1.out)
    have HRES := Lib.hid (HSD.out _ _ _ _ Q1 Z1.out)
    have HBF := Lib.hid (Arr.below_sets (B := w.heap.size) (a := w) (w.heap.size + 1) (by omega) ds 0 W3 QB)
    clear Q0 Q1 Q2 QB
    go_wp2_with (first
      | ((with_reducible show wpList _ _ _ _ _ _); refine wpList_load_row rfl 118 _ rfl w1.heap.size rfl 118 _ (0, 0) _ HQ2.out Tryz.underlying118 rfl HID.out ?_)
      | ((with_reducible show wpList _ _ _ _ _ _); refine wpList_store_mid rfl 118 _ _ rfl (w.heap.size + 1) 0 ds.toArray rfl rfl HT.out HID.out HOD.out ?_))
    refine bodyPost_ret (v := .agg ds.toArray) ?_ rfl ⟨by rw [HRD.out], HBF.out⟩
    exact results_cell_row rfl _ _ (w.heap.size + 1) 118 _ (0, 0) _ rfl HRES.out Tryz.underlying118 rfl HID.out
  · have ho2 : ¬ (0 : Int) < (o5 : Int) := by omega
    rw [if_neg ho] at HRD
    have HT := Lib.hid (HTH.out _ _ _ _ Q1 Z1.out)
    have HRES := Lib.hid (HSV.out _ _ _ _ Q1 Z1.out)
    have HBF := Lib.hid (Arr.below_sets (B := w.heap.size) (a := w) (w.heap.size + 1) (by omega) ys 0 W3 QB)
    clear Q0 Q1 Q2 QB
    go_wp2_with (first
      | ((with_reducible show wpList _ _ _ _ _ _); refine wpList_load_row rfl 118 _ rfl w.heap.size rfl 118 _ (0, 0) _ HQ0.out Tryz.underlying118 rfl HI.out ?_)
      | ((with_reducible show wpList _ _ _ _ _ _); refine wpList_store_mid rfl 118 _ _ rfl (w.heap.size + 1) 0 ys.toArray rfl rfl HT.out HI.out HO.out ?_))
    refine bodyPost_ret (v := .agg ys.toArray) ?_ rfl ⟨by rw [HRD.out], HBF.out⟩
    exact results_cell_row rfl _ _ (w.heap.size + 1) 118 _ (0, 0) _ rfl HRES.out Tryz.underlying118 rfl HI.out
end Go.Proofs.YtggobhpjfflooaaGreatDoor.Reduced
namespace Go.Proofs.YtggobhpjfflooaaGreatDoor.PartsOf
open Go.ChangeShapes Go.WideShapes Go.ChangeAt Go.RowKit
open Arr (Row)
open Five Poly
open Word (bN bN_lt bN_at)
set_option linter.unusedVariables false

theorem raw_set (f : Nat → Nat) (i q s : Nat) (hi : i < 17) (hq : 8 * i / 26 = q) (hs : raw f i q + f i * 2 ^ (8 * i % 26) = s) :
    (cn .u64 (raw f i)).set q (.int .u64 (s : Int)) = cn .u64 (raw f (i + 1)) := by
  refine cn_set .u64 _ _ q _ (by omega) ?_ ?_
  · show (s : Int) = ((if 8 * i / 26 = q then raw f i q + f i * 2 ^ (8 * i % 26) else raw f i q : Nat) : Int)
    rw [if_pos hq, hs]
  · intro j hj hne
    show _ = (if 8 * i / 26 = j then raw f i j + f i * 2 ^ (8 * i % 26) else raw f i j : Nat)
    rw [if_neg (by omega)]

set_option maxRecDepth 100000 in
set_option maxHeartbeats 1600000 in
theorem partsOf (t : ByteArray) (ht : t.size ≤ 17) (w : World) :
    Calls Tryz.prog 72 #[.string t] w fun e' w' => e' = .returned (.agg (cn .u64 (dg (raw (bN t) t.size))).toArray) ∧ Below w.heap.size w w' := by
  have HC := Lib.hid (Carried.carried _ (raw_small (bN_lt t) t.size ht))
  have HRL := Lib.hid (raw_le (bN_lt t))
  have HRS := Lib.hid (raw_set (bN t))
  have ht0 : (t.size : Int) ≤ 17 := by omega
  go_enter Tryz.func72, Tryz.ntmps72
  have HW := Lib.hid (Arr.two_new w)
  go_wp2
  generalize hW : (w.alloc _).alloc _ = W
  obtain ⟨z1, hz1, R0, R1, HB, hsz⟩ : ∃ z1 : List Value, z1.length = 5 ∧ Row W w.heap.size 118 z1 ∧ Row W (w.heap.size + 1) 118 (cn .u64 (raw (bN t) 0)) ∧ Below w.heap.size w W ∧ w.heap.size + 2 ≤ W.heap.size := by
    rw [← hW]
    exact ⟨_, rfl, HW.out _ _ _ _⟩
  clear hW HW
  have Z1 := Lib.hid hz1
  have RR := Lib.hid (show Row W w.heap.size 118 z1 ∧ Row W (w.heap.size + 1) 118 (cn .u64 (raw (bN t) 0)) ∧ Below w.heap.size w W ∧ w.heap.size + 2 ≤ W.heap.size from ⟨R0, R1, HB, hsz⟩)
  clear hz1 R0 R1 HB hsz
  go_loopw [7] (fun i wr => ∃ k : Nat, k ≤ t.size ∧ i = .int .i64 k ∧ Hid (Row wr w.heap.size 118 z1 ∧ Row wr (w.heap.size + 1) 118 (cn .u64 (raw (bN t) k)) ∧ Below w.heap.size w wr ∧ w.heap.size + 2 ≤ wr.heap.size)) (fun i _ => t.size - (intOf i).toNat)
  case atStart => exact ⟨0, by omega, rfl, RR⟩
  case round =>
    rename_i wr
    clear RR
    obtain ⟨k, hk, rfl, HX⟩ := hrel
    by_cases hlt : k < t.size
    · obtain ⟨q, eq⟩ : ∃ q, 8 * k / 26 = q := ⟨_, rfl⟩
      obtain ⟨r, er⟩ : ∃ r, 8 * k % 26 = r := ⟨_, rfl⟩
      obtain ⟨p, ep⟩ : ∃ p, 8 * k = p := ⟨_, rfl⟩
      have hq : q < 5 := by omega
      have hr : r < 26 := by omega
      have c0 := HX.out.2.1.cell q
      rw [cn_at .u64 _ q hq] at c0
      have f0 := HX.out.2.1.frozen q
      have i1 : (k : Int) < (t.size : Int) := by omega
      have i0 : (0 : Int) ≤ (k : Int) := by omega
      have e0 : (8 : Int) * (k : Int) = (p : Int) := by omega
      have e1 : (p : Int) / 26 = (q : Int) := by omega
      have e1t : (p : Int).tdiv 26 = (q : Int) := by rw [Int.tdiv_eq_ediv_of_nonneg (by omega)]; omega
      have e2 : (p : Int) % 26 = (r : Int) := by omega
      have e2t : (p : Int).tmod 26 = (r : Int) := by rw [Int.tmod_eq_emod_of_nonneg (by omega)]; omega
      have wp : IntKind.i64.wrap (p : Int) = p := by rw [IntKind.wrap_i64]; omega
      have wq : IntKind.i64.wrap (q : Int) = q := by rw [IntKind.wrap_i64]; omega
      have wr1 : IntKind.i64.wrap (r : Int) = r := by rw [IntKind.wrap_i64]; omega
      have q1 : (q : Int) < 5 := by omega
      have q0 : (0 : Int) ≤ (q : Int) := by omega
      have r0 : (0 : Int) ≤ (r : Int) := by omega
      have y0 : t[k].toNat = bN t k := bN_at t k hlt
      have hb := bN_lt t k
      have hpw : 2 ^ r ≤ 33554432 := by rw [← er]; exact pow_le k
      have hxl := Nat.mul_le_mul (Nat.le_of_lt hb) hpw
      have HSET := Lib.hid (fun s hs => HRS.out k q s (by omega) eq hs)
      have hol := HRL.out k q
      have hol2 : raw (bN t) k q ≤ 17 * 8589934592 := Nat.le_trans hol (Nat.mul_le_mul_right _ (by omega))
      rw [er] at HSET
      obtain ⟨x, ex⟩ : ∃ x, bN t k * 2 ^ r = x := ⟨_, rfl⟩
      rw [ex] at HSET hxl
      have wb : IntKind.u64.wrap (bN t k : Int) = (bN t k : Int) := u64_wrap _ (by omega)
      have hsh : IntKind.u64.wrap ((bN t k : Int) * 2 ^ r) = (x : Int) := by
        have e10 : (bN t k : Int) * 2 ^ r = (x : Int) := by rw [← ex]; simp
        rw [e10, u64_wrap x (by omega)]
      generalize raw (bN t) k q = o at *
      have hwo : IntKind.u64.wrap ((o : Int) + (x : Int)) = ((o + x : Nat) : Int) := by rw [← u64_wrap (o + x) (by omega)]; rfl
      generalize o + x = s at *
      generalize bN t k = bk at *
      clear hol hol2 hxl hpw ex er ep eq hq hr
      have q2 : ∀ k', (World.mk wr.heap wr.tape k' wr.os wr.output).cell? ⟨w.heap.size + 1, q, none⟩ = some (.int .u64 (o : Int)) := fun _ => c0
      go_wp2
      go_still_tail 15, (by kernel_rfl)
      clear q2
      change wpList _ _ _ _ _ wr.drew
      go_wp2
      go_roundw
      case rel =>
        obtain ⟨h1, h2, h3, h4⟩ := HX.out
        refine ⟨k + 1, by omega, by go_num, Lib.hid ⟨(h1.set_far _ _ _ (by omega)).drew, ?_, (h3.setCell (show w.heap.size ≤ w.heap.size + 1 by omega) _).drew, by rw [show ∀ (x : World), x.drew.heap.size = x.heap.size from fun _ => rfl]; simp [World.setCell]; exact h4⟩⟩
        rw [← HSET.out s rfl]
        exact (h2.set q _).drew
      case measure => simp [intOf]; omega
    · obtain rfl : k = t.size := by omega
      obtain ⟨h1, h2, h3, h4⟩ := HX.out
      have HR0 := Lib.hid h1
      have HR1 := Lib.hid h2
      have HBB := Lib.hid h3
      have HI0 := Lib.hid (infoU (raw (bN t) t.size))
      have HL0 := Lib.hid (cn_len .u64 (raw (bN t) t.size))
      have HID := Lib.hid (infoU (dg (raw (bN t) t.size)))
      have HOD := Lib.hid (cn_one .u64 (dg (raw (bN t) t.size)))
      have HLD := Lib.hid (cn_len .u64 (dg (raw (bN t) t.size)))
      have HTD := Lib.hid (fun (w : World) g t1 xs (h : Row w g t1 xs) hl => there_row h hl .u64 (dg (raw (bN t) t.size)))
      have HSD := Lib.hid (fun (w : World) g t1 xs (h : Row w g t1 xs) hl => sets_row h hl .u64 (dg (raw (bN t) t.size)))
      clear h1 h2 h3 HX HRL HRS
      generalize ov (raw (bN t) t.size) 5 = o5 at *
      generalize hus : cn .u64 (dg (raw (bN t) t.size)) = ds at *
      have HUS := Lib.hid hus
      clear hus
      generalize cn .u64 (raw (bN t) t.size) = ys at *
      go_wp2_with (((with_reducible show wpList _ _ _ _ _ _); refine wpList_load_row rfl 118 _ rfl (w.heap.size + 1) rfl 118 _ (0, 0) _ HR1.out Tryz.underlying118 rfl HI0.out ?_))
      refine (HC.out _).mono ?_
      rintro e' w1 ⟨rfl, hb⟩
      have HQ0 := Lib.hid (HR0.out.below hb (by omega))
      have HQ1 := Lib.hid (HR1.out.below hb (by omega))
      have HQB := Lib.hid (HBB.out.trans (hb.mono (by omega)))
      clear hb HR0 HR1 HBB
      have HT1 := Lib.hid (HTD.out _ _ _ _ HQ1.out HL0.out)
      have HS1 := Lib.hid (HSD.out _ _ _ _ HQ1.out HL0.out)
      have HS0 := Lib.hid (HQ0.out.sets_far (show w.heap.size ≠ w.heap.size + 1 by omega) ds 0 w1)
      have HSB := Lib.hid (Arr.below_sets (B := w.heap.size) (a := w) (w.heap.size + 1) (by omega) ds 0 w1 HQB.out)
      go_upto_region 8 with (((with_reducible show wpList _ _ _ _ _ _); refine wpList_store_mid rfl 118 _ _ rfl (w.heap.size + 1) 0 ds.toArray rfl rfl HT1.out HID.out HOD.out ?_; simp only []))
      generalize w1.setCells (w.heap.size + 1) 0 ds = W2 at *
      have HT := Lib.hid (HTD.out _ _ _ _ HS0.out Z1.out)
      have HRES := Lib.hid (HSD.out _ _ _ _ HS0.out Z1.out)
      have HBF := Lib.hid (Arr.below_sets (B := w.heap.size) (a := w) w.heap.size (Nat.le_refl _) ds 0 W2 HSB.out)
      go_wp2_with (first
        | ((with_reducible show wpList _ _ _ _ _ _); refine wpList_load_row rfl 118 _ rfl (w.heap.size + 1) rfl 118 _ (0, 0) _ HS1.out Tryz.underlying118 rfl HID.out ?_)
        | ((with_reducible show wpList _ _ _ _ _ _); refine wpList_store_mid rfl 118 _ _ rfl w.heap.size 0 ds.toArray rfl rfl HT.out HID.out HOD.out ?_))
      refine bodyPost_ret (v := .agg ds.toArray) ?_ rfl ⟨by rw [HUS.out], HBF.out⟩
      exact results_cell_row rfl _ _ w.heap.size 118 _ (0, 0) _ rfl HRES.out Tryz.underlying118 rfl HID.out
end Go.Proofs.YtggobhpjfflooaaGreatDoor.PartsOf
namespace Go.Proofs.YtggobhpjfflooaaGreatDoor.TagBytes
open Go.ChangeShapes Go.WideShapes Go.ChangeAt Go.RowKit
open Arr (Row)
open Five Poly
open Word (bN bN_lt bN_at)
set_option linter.unusedVariables false

/-- The lowest sixteen bytes of a number. -/
def bl (N : Nat) : List UInt8 := (List.range 16).map fun i => UInt8.ofNat (N / 256 ^ i % 256)
theorem bl_length (N : Nat) : (bl N).length = 16 := by simp [bl]
theorem bl_at (N : Nat) (j : Nat) (hj : j < (bl N).length) : ((bl N)[j]'hj).toNat = N / 256 ^ j % 256 := by
  simp only [bl, List.getElem_map, List.getElem_range, UInt8.toNat_ofNat']
  exact Nat.mod_eq_of_lt (Nat.mod_lt _ (by omega))
theorem bl_congr {N M : Nat} (h : ∀ i, i < 16 → N / 256 ^ i % 256 = M / 256 ^ i % 256) : bl N = bl M := by
  unfold bl
  apply List.map_congr_left
  intro j hj
  rw [h j (by simpa using hj)]
theorem info56 : (Tryz.prog.info? 137).map (·.size) = some 16 := by kernel_rfl

set_option maxRecDepth 100000 in
set_option maxHeartbeats 1600000 in
theorem tagBytes (v : Nat → Nat) (hv : ∀ j, v j < 67108864) (w : World) :
    Calls Tryz.prog 78 #[.agg (cn .u64 v).toArray] w fun e' w' => e' = .returned (.string ⟨(bl (val v)).toArray⟩) ∧ Below w.heap.size w w' := by
  have HV := Lib.hid hv
  have HBO := Lib.hid (byte_or v hv)
  have HBA := Lib.hid (bl_at (val v))
  have HBL := Lib.hid (bl_length (val v))
  clear hv
  generalize hbl : bl (val v) = BL at *
  clear hbl
  generalize val v = N at *
  generalize hys : cn .u64 v = ys at *
  have HYS := Lib.hid hys
  clear hys
  go_enter Tryz.func78, Tryz.ntmps78
  have HW := Lib.hid (Arr.two_new w ys.toArray)
  go_wp2
  generalize hW : (w.alloc _).alloc _ = W
  obtain ⟨z1, hz1, R0, R1, HB, hsz⟩ : ∃ z1 : List Value, z1.length = 16 ∧ Row W w.heap.size 118 ys ∧ Row W (w.heap.size + 1) 137 z1 ∧ Below w.heap.size w W ∧ w.heap.size + 2 ≤ W.heap.size := by
    rw [← hW]
    exact ⟨_, rfl, HW.out _ _ _⟩
  clear hW HW
  rw [← HYS.out] at R0
  have RR := Lib.hid (show Row W w.heap.size 118 (cn .u64 v) ∧ Row W (w.heap.size + 1) 137 z1 ∧ z1.length = 16 ∧ (∀ j, j < 0 → z1[j]? = some (.int .u8 ((N / 256 ^ j % 256 : Nat) : Int))) ∧ Below w.heap.size w W from ⟨R0, R1, hz1, fun j h => by omega, HB⟩)
  clear hz1 R0 R1 HB hsz
  go_loopw [8] (fun i wr => ∃ (k : Nat) (xs : List Value), k ≤ 16 ∧ i = .int .i64 k ∧ Hid (Row wr w.heap.size 118 (cn .u64 v) ∧ Row wr (w.heap.size + 1) 137 xs ∧ xs.length = 16 ∧ (∀ j, j < k → xs[j]? = some (.int .u8 ((N / 256 ^ j % 256 : Nat) : Int))) ∧ Below w.heap.size w wr)) (fun i _ => 16 - (intOf i).toNat)
  case atStart => exact ⟨0, z1, by omega, rfl, RR⟩
  case round =>
    rename_i wr
    clear RR
    obtain ⟨k, xs, hk, rfl, HX⟩ := hrel
    by_cases hlt : k < 16
    · obtain ⟨q, eq⟩ : ∃ q, 8 * k / 26 = q := ⟨_, rfl⟩
      obtain ⟨r, er⟩ : ∃ r, 8 * k % 26 = r := ⟨_, rfl⟩
      obtain ⟨p, ep⟩ : ∃ p, 8 * k = p := ⟨_, rfl⟩
      obtain ⟨s, es⟩ : ∃ s, 26 - r = s := ⟨_, rfl⟩
      have hq : q < 5 := by omega
      have hr : r < 26 := by omega
      have c0 := HX.out.1.cell q
      rw [cn_at .u64 _ q hq] at c0
      obtain ⟨old, c1⟩ : ∃ v, wr.cell? ⟨w.heap.size + 1, k, none⟩ = some v := ⟨_, (HX.out.2.1.cell k).trans (List.getElem?_eq_getElem (by have := HX.out.2.2.1; omega))⟩
      have f1 := HX.out.2.1.frozen k
      have i1 : (k : Int) < 16 := by omega
      have i0 : (0 : Int) ≤ (k : Int) := by omega
      have e0 : (8 : Int) * (k : Int) = (p : Int) := by omega
      have e1 : (p : Int) / 26 = (q : Int) := by omega
      have e2 : (p : Int) % 26 = (r : Int) := by omega
      have e3 : (26 : Int) - (r : Int) = (s : Int) := by omega
      have wp : IntKind.i64.wrap (p : Int) = p := by rw [IntKind.wrap_i64]; omega
      have wq : IntKind.i64.wrap (q : Int) = q := by rw [IntKind.wrap_i64]; omega
      have wr1 : IntKind.i64.wrap (r : Int) = r := by rw [IntKind.wrap_i64]; omega
      have ws : IntKind.i64.wrap (s : Int) = s := by rw [IntKind.wrap_i64]; omega
      have q1 : (q : Int) < 5 := by omega
      have q0 : (0 : Int) ≤ (q : Int) := by omega
      have r0 : (0 : Int) ≤ (r : Int) := by omega
      have s0 : (0 : Int) ≤ (s : Int) := by omega
      have m0 : min r 64 = r := by omega
      have m1 : min s 64 = s := by omega
      have HBY := Lib.hid (HBO.out k hlt)
      have hvq := HV.out q
      have hvn := HV.out (q + 1)
      rw [eq, er, es] at HBY
      obtain ⟨a, ea⟩ : ∃ a, v q / 2 ^ r = a := ⟨_, rfl⟩
      have hab : a ≤ v q := by rw [← ea]; exact Nat.div_le_self _ _
      have hdv : (v q : Int) / 2 ^ r = (a : Int) := by rw [← ea]; simp
      obtain ⟨y, ey⟩ : ∃ y, v (q + 1) * 2 ^ s = y := ⟨_, rfl⟩
      have hyb : y ≤ 67108864 * 67108864 := by rw [← ey]; exact Nat.mul_le_mul (Nat.le_of_lt hvn) (show 2 ^ s ≤ 2 ^ 26 from Nat.pow_le_pow_right (by omega) (by omega))
      have hml : IntKind.u64.wrap ((v (q + 1) : Int) * 2 ^ s) = (y : Int) := by
        have e10 : (v (q + 1) : Int) * 2 ^ s = (y : Int) := by rw [← ey]; simp
        rw [e10, u64_wrap y (by omega)]
      rw [ea, ey] at HBY
      have hor := u64_or_nat a y (by omega) (by omega)
      by_cases h5 : q + 1 < 5
      · have c2 := HX.out.1.cell (q + 1)
        rw [cn_at .u64 _ (q + 1) h5] at c2
        rw [if_pos h5] at HBY
        have q2 : (q : Int) + 1 < 5 := by omega
        obtain ⟨qn, eqn⟩ : ∃ qn, q + 1 = qn := ⟨_, rfl⟩
        have e5 : (q : Int) + 1 = (qn : Int) := by omega
        rw [eqn] at c2 hml
        have q3 : (qn : Int) < 5 := by omega
        have q4 : (0 : Int) ≤ (qn : Int) := by omega
        have wqn : IntKind.i64.wrap (qn : Int) = qn := by rw [IntKind.wrap_i64]; omega
        generalize v q = vq at *
        generalize v qn = vn at *
        generalize hx : a ||| y = x at *
        clear hx ea ey eq er ep es hq hr hab hyb hvq hvn
        go_wp2
        go_roundw
        case rel =>
          obtain ⟨h1, h2, h3, h4, h6⟩ := HX.out
          refine ⟨k + 1, xs.set k _, by omega, by go_num, Lib.hid ⟨h1.set_far _ _ _ (by omega), h2.set k _, by simp [h3], fun j hj => ?_, h6.setCell (show w.heap.size ≤ w.heap.size + 1 by omega) _⟩⟩
          by_cases e : j = k
          · rw [e, List.getElem?_set_self (by omega), ← HBY.out]
            simp
          · rw [List.getElem?_set_ne (by omega)]; exact h4 j (by omega)
        case measure => simp [intOf]; omega
      · rw [if_neg h5] at HBY
        have q2 : ¬ (q : Int) + 1 < 5 := by omega
        generalize v q = vq at *
        clear ea ey eq er ep es hq hr hab hyb hvq hvn hml hor
        go_wp2
        go_roundw
        case rel =>
          obtain ⟨h1, h2, h3, h4, h6⟩ := HX.out
          refine ⟨k + 1, xs.set k _, by omega, by go_num, Lib.hid ⟨h1.set_far _ _ _ (by omega), h2.set k _, by simp [h3], fun j hj => ?_, h6.setCell (show w.heap.size ≤ w.heap.size + 1 by omega) _⟩⟩
          by_cases e : j = k
          · rw [e, List.getElem?_set_self (by omega), ← HBY.out]
            simp
          · rw [List.getElem?_set_ne (by omega)]; exact h4 j (by omega)
        case measure => simp [intOf]; omega
    · have hfin := Lib.hid (show k = 16 by omega)
      have hconv := Flat.back wr (w.heap.size + 1) 16 16 BL HBL.out (fun j hj => by
        have hj2 := hj
        rw [HBL.out] at hj2
        rw [HX.out.2.1.cell j, HX.out.2.2.2.1 j (by have := hfin.out; omega), HBA.out j hj])
      go_wp2
      go_ret
      exact ⟨rfl, HX.out.2.2.2.2⟩
end Go.Proofs.YtggobhpjfflooaaGreatDoor.TagBytes
namespace Go.Proofs.YtggobhpjfflooaaGreatDoor.PolyN
open Poly
open Word (bN bN_lt bN_at)
open Clamp (clT)
open TagBytes (bl)
set_option linter.unusedVariables false

theorem bN_zero (s : ByteArray) (j : Nat) (h : s.size ≤ j) : bN s j = 0 := by
  have h2 : s.data.toList.length ≤ j := by simpa using h
  simp [bN, List.getD_eq_getElem?_getD, List.getElem?_eq_none h2]
/-- The number that a text's bytes are. -/
def num (s : ByteArray) : Nat := le (bN s) s.size
theorem num_pad (s : ByteArray) (n : Nat) (h : s.size ≤ n) : le (bN s) n = num s := by
  have := le_zeros (f := bN s) s.size (fun j hj => bN_zero s j hj) (n - s.size)
  rw [show s.size + (n - s.size) = n by omega] at this
  exact this
def one : ByteArray := ⟨#[1]⟩
/-- Piece k of a text, with a byte 1 behind. -/
def piece (t : ByteArray) (k : Nat) : ByteArray := t.extract (16 * k) (min t.size (16 * k + 16)) ++ one
theorem piece_size (t : ByteArray) (k : Nat) : (piece t k).size = min t.size (16 * k + 16) - 16 * k + 1 := by
  unfold piece
  rw [ByteArray.size_append, ByteArray.size_extract]
  show _ + 1 = _
  omega
theorem piece_small (t : ByteArray) (k : Nat) : (piece t k).size ≤ 17 := by rw [piece_size]; omega
theorem bN_append (a b : ByteArray) (j : Nat) : bN (a ++ b) j = if j < a.size then bN a j else bN b (j - a.size) := by
  unfold bN
  rw [show (a ++ b).data.toList = a.data.toList ++ b.data.toList by rw [ByteArray.data_append]; simp]
  simp only [List.getD_eq_getElem?_getD]
  by_cases h : j < a.size
  · rw [if_pos h, List.getElem?_append_left (by simpa using h)]
  · rw [if_neg h, List.getElem?_append_right (by simpa using h)]
    simp
theorem piece_top (t : ByteArray) (k : Nat) : bN (piece t k) 16 < 4 := by
  unfold piece
  rw [bN_append]
  split
  · rename_i h
    rw [ByteArray.size_extract] at h
    omega
  · generalize 16 - _ = m
    cases m with
    | zero => decide
    | succ m =>
      rw [bN_zero one (m + 1) (show 1 ≤ m + 1 by omega)]
      omega
theorem num_lt (s : ByteArray) (h : s.size ≤ 17) (h16 : bN s 16 < 4) : num s < 1361129467683753853853498429727072845824 := by
  rw [← num_pad s 17 h]
  have h1 := le_lt (bN_lt s) 16
  show le (bN s) 16 + bN s 16 * 256 ^ 16 < _
  simp only [Nat.reducePow] at *
  omega
theorem num_lt16 (s : ByteArray) (h : s.size ≤ 16) : num s < 340282366920938463463374607431768211456 := by
  rw [← num_pad s 16 h]
  have h1 := le_lt (bN_lt s) 16
  simp only [Nat.reducePow] at *
  omega
/-- How many pieces. -/
def pcs (t : ByteArray) : Nat := (t.size + 15) / 16
def hN (r : Nat) (t : ByteArray) : Nat → Nat
  | 0 => 0
  | k + 1 => (hN r t k + num (piece t k)) * r % P
theorem hN_lt (r : Nat) (t : ByteArray) : ∀ k, hN r t k < P
  | 0 => by show 0 < P; unfold P; omega
  | k + 1 => Nat.mod_lt _ (by unfold P; omega)
/-- A step, whatever stands for the number that came. -/
theorem hN_step (r : Nat) (t : ByteArray) (k x y : Nat) (hx : x % P = hN r t k) (hy : y % P = (x + num (piece t k)) * r % P) : y % P = hN r t (k + 1) := by
  rw [hy]
  show _ = (hN r t k + num (piece t k)) * r % P
  rw [← hx]
  generalize num (piece t k) = m
  have e : (x % P + m) % P = (x + m) % P := Nat.mod_add_mod x P m
  rw [Nat.mul_mod (x + m) r, Nat.mul_mod (x % P + m) r, e]
/-- The factor, the sum and the tag. -/
def fac (key : ByteArray) : Nat := num (clT key)
def tail (key : ByteArray) : ByteArray := key.extract 16 key.size
def tagN (key t : ByteArray) : Nat := hN (fac key) t (pcs t) + num (tail key)
def tagT (key t : ByteArray) : ByteArray := ⟨(bl (tagN key t)).toArray⟩
theorem tagT_size (key t : ByteArray) : (tagT key t).size = 16 := by
  show (bl _).toArray.size = 16
  rw [List.size_toArray, TagBytes.bl_length]
end Go.Proofs.YtggobhpjfflooaaGreatDoor.PolyN
