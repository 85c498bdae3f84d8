/-
  What is proved: both ways to clamp a key answer one plain function of it; the law on them returns true (the walk).
-/
import Derived.Test.YtcfdnifllehbjaaDoorRows
import Derived.Test.YtcfdnifllehbjaaDoorBytes
import Derived.Test.YtcfdnifllehbjaaDoorWord
import Derived.Test.YtcfdnifllehbjaaDoorFlat
import Derived.Lib.ConvBytes
namespace Go.Proofs.YtcfdnifllehbjaaDoor.Clamp
open Go.ChangeShapes Go.WideShapes Go.ChangeAt Go.RowKit
open Bytes (BV Owns)
open Word (bN bN_lt bN_at)
open Flat (RowF Only)
set_option linter.unusedVariables false

/-- Byte j of a clamped key. -/
def cb (key : ByteArray) (j : Nat) : Nat := if j % 4 = 3 then bN key j &&& 15 else if j % 4 = 0 ∧ 0 < j then bN key j &&& 252 else bN key j
theorem cb_lt (key : ByteArray) (j : Nat) : cb key j < 256 := by
  have := bN_lt key j
  unfold cb
  split
  · exact Nat.lt_of_le_of_lt Nat.and_le_left this
  · split
    · exact Nat.lt_of_le_of_lt Nat.and_le_left this
    · exact this
def cl (key : ByteArray) : List UInt8 := (List.range 16).map fun j => UInt8.ofNat (cb key j)
theorem cl_length (key : ByteArray) : (cl key).length = 16 := by simp [cl]
theorem cl_at (key : ByteArray) (j : Nat) (hj : j < (cl key).length) : ((cl key)[j]'hj).toNat = cb key j := by
  simp only [cl, List.getElem_map, List.getElem_range, UInt8.toNat_ofNat']
  exact Nat.mod_eq_of_lt (cb_lt key j)
/-- A clamped key. -/
def clT (key : ByteArray) : ByteArray := ⟨(cl key).toArray⟩
theorem clT_size (key : ByteArray) : (clT key).size = 16 := by
  show (cl key).toArray.size = 16
  rw [List.size_toArray, cl_length]
theorem clT_bN (key : ByteArray) (j : Nat) (hj : j < 16) : bN (clT key) j = cb key j := by
  have h : j < (cl key).length := by rw [cl_length]; exact hj
  show ((cl key).toArray.toList.getD j 0).toNat = _
  rw [List.getD_eq_getElem?_getD, List.getElem?_eq_getElem (by simpa using h)]
  exact cl_at key j h
theorem u8_and (x m : Nat) (hx : x < 256) (hm : m < 256) : bits .and .u8 (x : Int) (m : Int) = ((x &&& m : Nat) : Int) := by
  have h1 : x &&& m < 256 := Nat.lt_of_le_of_lt Nat.and_le_left hx
  show IntKind.u8.wrap ((BitVec.ofInt 8 (x : Int) &&& BitVec.ofInt 8 (m : Int)).toNat : Int) = _
  rw [BitVec.toNat_and]
  simp only [BitVec.ofInt_natCast, BitVec.toNat_ofNat, Nat.reducePow]
  rw [Nat.mod_eq_of_lt hx, Nat.mod_eq_of_lt hm, IntKind.wrap_u8']
  omega

theorem ok_impl (key : ByteArray) (k : Nat) (ys : List Value) (v : Value) (hk : k < 16) (hv : v = .int .u8 (cb key k : Int)) (h : ∀ j, j < 16 → ys[j]? = some (.int .u8 ((if j < k then cb key j else bN key j : Nat) : Int))) :
    ∀ j, j < 16 → (ys.set k v)[j]? = some (.int .u8 ((if j < k + 1 then cb key j else bN key j : Nat) : Int)) := by
  intro j hj
  have h0 := h k hk
  have hl : k < ys.length := (List.getElem?_eq_some_iff.1 h0).1
  by_cases e : j = k
  · subst e
    rw [List.getElem?_set_self hl, if_pos (by omega), hv]
  · rw [List.getElem?_set_ne (by omega), h j hj]
    by_cases e2 : j < k
    · rw [if_pos e2, if_pos (by omega)]
    · rw [if_neg e2, if_neg (by omega)]

set_option maxRecDepth 100000 in
set_option maxHeartbeats 1600000 in
theorem clamped (key : ByteArray) (hs : 16 ≤ key.size) (hm : key.size ≤ 65536) (w : World) :
    Calls Tryd.prog 55 #[.string key] w fun e w' => e = .returned (.string (clT key)) ∧ Below w.heap.size w w' := by
  have k1 := fun u : World => Lib.run_convert_string_bytes (P := Tryd.prog) u 9 22 5 (key.extract 0 16) Tryd.underlying9 Tryd.underlying22 Tryd.underlying5
  have HR := Lib.hid (Flat.bytes_row w (key.extract 0 16))
  have HBN := Lib.hid (show ∀ j, j < 16 → bN (key.extract 0 16) j = bN key j from fun j hj => by rw [Flat.bN_extract key 0 16 j hs (by omega), Nat.zero_add])
  have HSZ := Lib.hid (show (key.extract 0 16).size = 16 by rw [ByteArray.size_extract]; omega)
  have HCT := Lib.hid (show clT key = ⟨(cl key).toArray⟩ from rfl)
  generalize clT key = CT at *
  go_enter Tryd.func55, Tryd.ntmps55
  go_wp2_with fail
  clear k1
  generalize Lib.bytesWorld w _ _ = W at *
  generalize grownCap w 16 0 _ = cap at *
  obtain ⟨fr, xs, h1, h2, h3, h4, h5⟩ := HR.out
  rw [HSZ.out] at h2 h3
  have HST := Lib.hid (show RowF W w.heap.size 5 fr xs ∧ (∀ j, j < 16 → xs[j]? = some (.int .u8 ((if j < 0 then cb key j else bN key j : Nat) : Int))) ∧ Below w.heap.size w W from
    ⟨h1, fun j hj => by rw [h3 j hj, HBN.out j hj, if_neg (by omega)], h4⟩)
  have HFR := Lib.hid h2
  clear h1 h2 h3 h4 h5 HR HBN HSZ
  go_loopw [8] (fun i wr => ∃ (k : Nat) (ys : List Value), k ≤ 16 ∧ i = .int .i64 k ∧ Hid (RowF wr w.heap.size 5 fr ys ∧ (∀ j, j < 16 → ys[j]? = some (.int .u8 ((if j < k then cb key j else bN key j : Nat) : Int))) ∧ Below w.heap.size w wr)) (fun i _ => 16 - (intOf i).toNat)
  case atStart => exact ⟨0, xs, by omega, rfl, HST⟩
  case round =>
    rename_i wr
    clear HST
    obtain ⟨k, ys, hk, rfl, HX⟩ := hrel
    by_cases hlt : k < 16
    · have c0 := HX.out.1.cell k
      rw [HX.out.2.1 k hlt, if_neg (by omega)] at c0
      have f0 := HX.out.1.frozen k (.inl (by have := HFR.out; omega))
      have b0 := bN_lt key k
      have e15 := u8_and (bN key k) 15 b0 (by omega)
      have e252 := u8_and (bN key k) 252 b0 (by omega)
      have HCB := Lib.hid (show cb key k = if k % 4 = 3 then bN key k &&& 15 else if k % 4 = 0 ∧ 0 < k then bN key k &&& 252 else bN key k from rfl)
      have i1 : (k : Int) < 16 := by omega
      have i0 : (0 : Int) ≤ (k : Int) := by omega
      by_cases q3 : k % 4 = 3
      · have t3 : ((k : Int) % 4 == 3) = true := by simp; omega
        rw [if_pos q3] at HCB
        generalize hb : bN key k = b at *
        have HV := Lib.hid (Eq.symm HCB.out)
        go_wp2
        go_roundw
        case rel =>
          refine ⟨k + 1, ys.set k _, by omega, by go_num, Lib.hid ⟨HX.out.1.set k _, ok_impl key k ys _ hlt ?_ HX.out.2.1, HX.out.2.2.setCell (p := ⟨w.heap.size, k, none⟩) (Nat.le_refl _) _⟩⟩
          rw [HCB.out, nat_mask4]
          try rfl
          try simp
        case measure => simp [intOf]; omega
      · have t3 : ((k : Int) % 4 == 3) = false := by simp; omega
        rw [if_neg q3] at HCB
        by_cases q0 : k % 4 = 0 ∧ 0 < k
        · have t0 : ((k : Int) % 4 == 0) = true := by simp; omega
          have tk : (0 : Int) < (k : Int) := by omega
          rw [if_pos q0] at HCB
          generalize hb : bN key k = b at *
          have HV := Lib.hid (Eq.symm HCB.out)
          go_wp2
          go_roundw
          case rel =>
            refine ⟨k + 1, ys.set k _, by omega, by go_num, Lib.hid ⟨HX.out.1.set k _, ok_impl key k ys _ hlt ?_ HX.out.2.1, HX.out.2.2.setCell (p := ⟨w.heap.size, k, none⟩) (Nat.le_refl _) _⟩⟩
            rw [HCB.out, ← e252]
            try rfl
            try simp
          case measure => simp [intOf]; omega
        · rw [if_neg q0] at HCB
          have HN := Lib.hid (show ∀ j, j < 16 → ys[j]? = some (.int .u8 ((if j < k + 1 then cb key j else bN key j : Nat) : Int)) from fun j hj => by
            rw [HX.out.2.1 j hj]
            by_cases e : j = k
            · rw [e, if_neg (by omega), if_pos (by omega), HCB.out]
            · by_cases e2 : j < k
              · rw [if_pos e2, if_pos (by omega)]
              · rw [if_neg e2, if_neg (by omega)])
          by_cases z : k = 0
          · have t0 : ((k : Int) % 4 == 0) = true := by simp; omega
            have tk : ¬ (0 : Int) < (k : Int) := by omega
            have HZ := Lib.hid z
            clear z
            go_wp2
            go_roundw
            case rel => exact ⟨k + 1, ys, by omega, by go_num, Lib.hid ⟨HX.out.1, HN.out, HX.out.2.2⟩⟩
            case measure => simp [intOf]; omega
          · have t0 : ((k : Int) % 4 == 0) = false := by simp; omega
            go_wp2
            go_roundw
            case rel => exact ⟨k + 1, ys, by omega, by go_num, Lib.hid ⟨HX.out.1, HN.out, HX.out.2.2⟩⟩
            case measure => simp [intOf]; omega
    · have hfin := Lib.hid (show k = 16 by omega)
      have hconv := Flat.back wr w.heap.size cap 16 (cl key) (cl_length key) (fun j hj => by
        have hj2 := hj
        rw [cl_length] at hj2
        rw [HX.out.1.cell j, HX.out.2.1 j hj2, if_pos (by have := hfin.out; omega), cl_at])
      rw [← HCT.out] at hconv
      go_wp2
      go_ret
      exact ⟨rfl, HX.out.2.2⟩

/-- Byte j, clamped in the places of the one sort below m, and in those of the other below n. -/
def cb2 (key : ByteArray) (m n j : Nat) : Nat := if j % 4 = 3 ∧ j < m then bN key j &&& 15 else if j % 4 = 0 ∧ 0 < j ∧ j < n then bN key j &&& 252 else bN key j
theorem cb2_start (key : ByteArray) (j : Nat) : cb2 key 3 4 j = bN key j := by
  unfold cb2
  rw [if_neg (by omega), if_neg (by omega)]
theorem cb2_end (key : ByteArray) (m n j : Nat) (hj : j < 16) (hm : 16 ≤ m) (hn : 16 ≤ n) : cb2 key m n j = cb key j := by
  unfold cb2 cb
  by_cases h : j % 4 = 3
  · rw [if_pos h, if_pos ⟨h, by omega⟩]
  · rw [if_neg h, if_neg (by omega)]
    by_cases h2 : j % 4 = 0 ∧ 0 < j
    · rw [if_pos h2, if_pos (by omega)]
    · rw [if_neg h2, if_neg (by omega)]
theorem ok_spec (key : ByteArray) (k m n m' n' : Nat) (ys : List Value) (v : Value) (hk : k < 16) (hv : v = .int .u8 (cb2 key m' n' k : Int)) (hsame : ∀ j, j ≠ k → cb2 key m' n' j = cb2 key m n j) (h : ∀ j, j < 16 → ys[j]? = some (.int .u8 (cb2 key m n j : Int))) :
    ∀ j, j < 16 → (ys.set k v)[j]? = some (.int .u8 (cb2 key m' n' j : Int)) := by
  intro j hj
  have h0 := h k hk
  have hl : k < ys.length := (List.getElem?_eq_some_iff.1 h0).1
  by_cases e : j = k
  · subst e
    rw [List.getElem?_set_self hl, hv]
  · rw [List.getElem?_set_ne (by omega), h j hj, hsame j e]
theorem same3 (key : ByteArray) (k n j : Nat) (hk : k % 4 = 3) (hj : j ≠ k) : cb2 key (k + 4) n j = cb2 key k n j := by
  unfold cb2
  by_cases h : j % 4 = 3 ∧ j < k
  · rw [if_pos (by omega), if_pos h]
  · rw [if_neg (by omega), if_neg h]
theorem same0 (key : ByteArray) (k m j : Nat) (hk : k % 4 = 0) (hj : j ≠ k) : cb2 key m (k + 4) j = cb2 key m k j := by
  unfold cb2
  by_cases h : j % 4 = 3 ∧ j < m
  · rw [if_pos h, if_pos h]
  · rw [if_neg h, if_neg h]
    by_cases h : j % 4 = 0 ∧ 0 < j ∧ j < k
    · rw [if_pos (by omega), if_pos h]
    · rw [if_neg (by omega), if_neg h]

set_option maxRecDepth 100000 in
set_option maxHeartbeats 1600000 in
theorem l03Clamp (key : ByteArray) (hs : 16 ≤ key.size) (hm : key.size ≤ 65536) (w : World) :
    Calls Tryd.prog 66 #[.string key] w fun e w' => e = .returned (.string (clT key)) ∧ Below w.heap.size w w' := by
  have k1 := fun u : World => Lib.run_convert_string_bytes (P := Tryd.prog) u 9 22 5 (key.extract 0 16) Tryd.underlying9 Tryd.underlying22 Tryd.underlying5
  have HR := Lib.hid (Flat.bytes_row w (key.extract 0 16))
  have HBN := Lib.hid (show ∀ j, j < 16 → bN (key.extract 0 16) j = bN key j from fun j hj => by rw [Flat.bN_extract key 0 16 j hs (by omega), Nat.zero_add])
  have HSZ := Lib.hid (show (key.extract 0 16).size = 16 by rw [ByteArray.size_extract]; omega)
  have HCT := Lib.hid (show clT key = ⟨(cl key).toArray⟩ from rfl)
  generalize clT key = CT at *
  go_enter Tryd.func66, Tryd.ntmps66
  go_wp2_with fail
  clear k1
  generalize Lib.bytesWorld w _ _ = W at *
  generalize grownCap w 16 0 _ = cap at *
  obtain ⟨fr, xs, h1, h2, h3, h4, h5⟩ := HR.out
  rw [HSZ.out] at h2 h3
  have HST := Lib.hid (show RowF W w.heap.size 5 fr xs ∧ (∀ j, j < 16 → xs[j]? = some (.int .u8 (cb2 key 3 4 j : Int))) ∧ Below w.heap.size w W from
    ⟨h1, fun j hj => by rw [h3 j hj, HBN.out j hj, cb2_start], h4⟩)
  have HFR := Lib.hid h2
  clear h1 h2 h3 h4 h5 HR HBN HSZ
  go_loopw [4] (fun i wr => ∃ (k : Nat) (ys : List Value), k ≤ 19 ∧ k % 4 = 3 ∧ i = .int .i64 k ∧ Hid (RowF wr w.heap.size 5 fr ys ∧ (∀ j, j < 16 → ys[j]? = some (.int .u8 (cb2 key k 4 j : Int))) ∧ Below w.heap.size w wr)) (fun i _ => 19 - (intOf i).toNat)
  case atStart => exact ⟨3, xs, by omega, by omega, rfl, HST⟩
  case round =>
    rename_i wr
    clear HST
    obtain ⟨k, ys, hk, hk4, rfl, HX⟩ := hrel
    by_cases hlt : k < 16
    · have c0 := HX.out.1.cell k
      rw [HX.out.2.1 k hlt, show cb2 key k 4 k = bN key k by unfold cb2; rw [if_neg (by omega), if_neg (by omega)]] at c0
      have f0 := HX.out.1.frozen k (.inl (by have := HFR.out; omega))
      have b0 := bN_lt key k
      have HCB := Lib.hid (show cb2 key (k + 4) 4 k = bN key k &&& 15 by unfold cb2; rw [if_pos (by omega)])
      have HSM := Lib.hid (fun j => same3 key k 4 j hk4)
      have i1 : (k : Int) < 16 := by omega
      have i0 : (0 : Int) ≤ (k : Int) := by omega
      have HK4 := Lib.hid hk4
      clear hk4
      generalize hb : bN key k = b at *
      go_wp2
      go_roundw
      case rel =>
        refine ⟨k + 4, ys.set k _, by omega, by have := HK4.out; omega, by go_num, Lib.hid ⟨HX.out.1.set k _, ok_spec key k k 4 (k + 4) 4 ys _ hlt ?_ HSM.out HX.out.2.1, HX.out.2.2.setCell (p := ⟨w.heap.size, k, none⟩) (Nat.le_refl _) _⟩⟩
        rw [HCB.out, nat_mask4]
        simp
      case measure => simp [intOf]; omega
    · have HF := Lib.hid (show ∀ j, j < 16 → ys[j]? = some (.int .u8 (cb2 key 16 4 j : Int)) from fun j hj => by
        rw [HX.out.2.1 j hj]
        unfold cb2
        by_cases h : j % 4 = 3
        · rw [if_pos (show j % 4 = 3 ∧ j < k by omega), if_pos (show j % 4 = 3 ∧ j < 16 by omega)]
        · rw [if_neg (show ¬ (j % 4 = 3 ∧ j < k) by omega), if_neg (show ¬ (j % 4 = 3 ∧ j < 16) by omega)])
      clear hk4
      go_wp2
      go_loopw [5] (fun i wz => ∃ (k : Nat) (ys : List Value) (wr : World), k ≤ 16 ∧ k % 4 = 0 ∧ 0 < k ∧ i = .int .i64 k ∧ wr = wz ∧ Hid (RowF wr w.heap.size 5 fr ys ∧ (∀ j, j < 16 → ys[j]? = some (.int .u8 (cb2 key 16 k j : Int))) ∧ Below w.heap.size w wr)) (fun i _ => 19 - (intOf i).toNat)
      case atStart => exact ⟨4, ys, _, by omega, by omega, by omega, rfl, rfl, Lib.hid ⟨HX.out.1, HF.out, HX.out.2.2⟩⟩
      case round =>
        clear HX HF hlt hk
        obtain ⟨k, ys, wz, hk, hk4, hk0, rfl, rfl, HX⟩ := hrel
        by_cases hlt : k < 16
        · have c0 := HX.out.1.cell k
          rw [HX.out.2.1 k hlt, show cb2 key 16 k k = bN key k by unfold cb2; rw [if_neg (by omega), if_neg (by omega)]] at c0
          have f0 := HX.out.1.frozen k (.inl (by have := HFR.out; omega))
          have b0 := bN_lt key k
          have e252 := u8_and (bN key k) 252 b0 (by omega)
          have HCB := Lib.hid (show cb2 key 16 (k + 4) k = bN key k &&& 252 by unfold cb2; rw [if_neg (by omega), if_pos (by omega)])
          have HSM := Lib.hid (fun j => same0 key k 16 j hk4)
          have i1 : (k : Int) < 16 := by omega
          have i0 : (0 : Int) ≤ (k : Int) := by omega
          have HK4 := Lib.hid hk4
          clear hk4
          generalize hb : bN key k = b at *
          go_wp2
          go_roundw
          case rel =>
            refine ⟨k + 4, ys.set k _, _, by have := HK4.out; omega, by have := HK4.out; omega, by omega, by go_num, rfl, Lib.hid ⟨HX.out.1.set k _, ok_spec key k 16 k 16 (k + 4) ys _ hlt ?_ HSM.out HX.out.2.1, HX.out.2.2.setCell (p := ⟨w.heap.size, k, none⟩) (Nat.le_refl _) _⟩⟩
            rw [HCB.out, ← e252]
            try rfl
          case measure => simp [intOf]; omega
        · have hconv := Flat.back wz w.heap.size cap 16 (cl key) (cl_length key) (fun j hj => by
            have hj2 := hj
            rw [cl_length] at hj2
            rw [HX.out.1.cell j, HX.out.2.1 j hj2, cb2_end key 16 k j hj2 (by omega) (by omega), cl_at])
          rw [← HCT.out] at hconv
          clear hk4
          go_wp2
          go_ret
          exact ⟨rfl, HX.out.2.2⟩

/-- What both answer. -/
def fault (key : ByteArray) : Int := if 65536 < key.size then 2 else if key.size = 32 then 0 else 8
def res (key : ByteArray) : Value := .tuple #[.string (if key.size = 32 then clT key else ⟨#[]⟩), .int .i64 (fault key)]

theorem res_form (key : ByteArray) : ∃ (s : ByteArray) (c : Int), res key = .tuple #[.string s, .int .i64 c] := ⟨_, _, rfl⟩

end Go.Proofs.YtcfdnifllehbjaaDoor.Clamp
