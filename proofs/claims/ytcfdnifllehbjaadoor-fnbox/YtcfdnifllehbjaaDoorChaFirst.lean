/-
  What is proved: the program's first sixteen words are the plain ones (contract for the walks).
-/
import Derived.Test.YtcfdnifllehbjaaDoorRows
import Derived.Test.YtcfdnifllehbjaaDoorCha
import Derived.Test.YtcfdnifllehbjaaDoorXorInto
import Derived.WalkSpells
namespace Go.Proofs.YtcfdnifllehbjaaDoor.ChaFirst
open Go.ChangeShapes Go.WideShapes Go.ChangeAt Go.RowKit
open Arr (Row)
open XorInto (Only)
open Word (bN bN_lt bN_at bN_extract)
open Cha
set_option linter.unusedVariables false

theorem low_or (x0 x1 x2 x3 : Nat) (h0 : x0 < 256) (h1 : x1 < 256) (h2 : x2 < 256) (h3 : x3 < 256) :
    ((x0 ||| x1 * 256) ||| x2 * 65536) ||| x3 * 16777216 = x0 + x1 * 256 + x2 * 65536 + x3 * 16777216 := by
  rw [Nat.or_comm x0, Word.shl_or x1 x0 256 8 rfl h0, Nat.or_comm _ (x2 * 65536), Word.shl_or x2 _ 65536 16 rfl (by omega), Nat.or_comm _ (x3 * 16777216), Word.shl_or x3 _ 16777216 24 rfl (by omega)]
  omega
theorem u32_low (x0 x1 x2 x3 : Nat) (h0 : x0 < 256) (h1 : x1 < 256) (h2 : x2 < 256) (h3 : x3 < 256) :
    bits .or .u32 (bits .or .u32 (bits .or .u32 (x0 : Int) ((x1 : Int) * 256)) ((x2 : Int) * 65536)) ((x3 : Int) * 16777216) = ((x0 + x1 * 256 + x2 * 65536 + x3 * 16777216 : Nat) : Int) := by
  have e1 : (x1 : Int) * 256 = ((x1 * 256 : Nat) : Int) := by omega
  have e2 : (x2 : Int) * 65536 = ((x2 * 65536 : Nat) : Int) := by omega
  have e3 : (x3 : Int) * 16777216 = ((x3 * 16777216 : Nat) : Int) := by omega
  have l1 := Word.or_lt (a := x0) (b := x1 * 256) (by omega) (by omega)
  have l2 := Word.or_lt l1 (b := x2 * 65536) (by omega)
  rw [e1, e2, e3, u32_or_nat _ _ (by omega) (by omega), u32_or_nat _ _ l1 (by omega), u32_or_nat _ _ l2 (by omega), low_or x0 x1 x2 x3 h0 h1 h2 h3]

set_option maxRecDepth 100000 in
set_option maxHeartbeats 1600000 in
theorem lowWords (g o n cap : Nat) (t : TypeId) (xs : List Value) (s : ByteArray) (hs : 4 * n ≤ s.size) (hm : s.size ≤ 1000000) (ho : o + n ≤ xs.length) (w : World) (hr : Row w g t xs) :
    Calls Tryd.prog 51 #[.slice (some ⟨g, o, none⟩) n cap, .string s] w fun e' w' => e' = .returned (.tuple #[]) ∧
      Hid (Only g w w' ∧ ∃ ys, Row w' g t ys ∧ ys.length = xs.length ∧ (∀ j, j < n → ys[o + j]? = some (.int .u32 ((lw s j : Nat) : Int))) ∧ ∀ j, (j < o ∨ o + n ≤ j) → ys[j]? = xs[j]?) := by
  have HR := Lib.hid hr
  have HO := Lib.hid ho
  clear hr ho
  go_enter Tryd.func51, Tryd.ntmps51
  go_wp2
  go_loopw [8] (fun i wr => ∃ (k : Nat) (ys : List Value), k ≤ n ∧ i = .int .i64 k ∧ Hid (Only g w wr ∧ Row wr g t ys ∧ ys.length = xs.length ∧ (∀ j, j < k → ys[o + j]? = some (.int .u32 ((lw s j : Nat) : Int))) ∧ ∀ j, (j < o ∨ o + k ≤ j) → ys[j]? = xs[j]?)) (fun i _ => n - (intOf i).toNat)
  case atStart => exact ⟨0, xs, by omega, rfl, Lib.hid ⟨Only.refl _ _, HR.out, rfl, fun j h => by omega, fun j _ => rfl⟩⟩
  case round =>
    rename_i wr
    obtain ⟨k, ys, hk, rfl, HX⟩ := hrel
    by_cases hlt : k < n
    · obtain ⟨v0, c0⟩ : ∃ v, wr.cell? ⟨g, o + k, none⟩ = some v := ⟨_, (HX.out.2.1.cell (o + k)).trans (List.getElem?_eq_getElem (by have := HX.out.2.2.1; have := HO.out; omega))⟩
      have f0 := HX.out.2.1.frozen (o + k)
      have hkn : (k : Int) < (n : Int) := by omega
      have hk0 : (0 : Int) ≤ (k : Int) := by omega
      have h4a : 4 * k + 4 ≤ s.size := by omega
      have h4 : 4 * (k : Int) + 4 ≤ (s.size : Int) := by omega
      have hxb : (s.extract (4 * k) (4 * k + 4)).size = 4 := by rw [ByteArray.size_extract]; omega
      have y0 := bN_extract s (4 * k) (4 * k + 4) 0 (by omega)
      have y1 := bN_extract s (4 * k) (4 * k + 4) 1 (by omega)
      have y2 := bN_extract s (4 * k) (4 * k + 4) 2 (by omega)
      have y3 := bN_extract s (4 * k) (4 * k + 4) 3 (by omega)
      have Y := Lib.hid (And.intro hxb (And.intro y0 (And.intro y1 (And.intro y2 y3))))
      clear hxb y0 y1 y2 y3
      go_wp2
      generalize s.extract (4 * k) (4 * k + 4) = B at *
      obtain ⟨x0, e0, hx0⟩ : ∃ x : Nat, bN s (4 * k) = x ∧ x < 256 := ⟨_, rfl, bN_lt _ _⟩
      obtain ⟨x1, e1, hx1⟩ : ∃ x : Nat, bN s (4 * k + 1) = x ∧ x < 256 := ⟨_, rfl, bN_lt _ _⟩
      obtain ⟨x2, e2, hx2⟩ : ∃ x : Nat, bN s (4 * k + 2) = x ∧ x < 256 := ⟨_, rfl, bN_lt _ _⟩
      obtain ⟨x3, e3, hx3⟩ : ∃ x : Nat, bN s (4 * k + 3) = x ∧ x < 256 := ⟨_, rfl, bN_lt _ _⟩
      have b3 : 3 < B.size := by rw [Y.out.1]; omega
      have b2 : 2 < B.size := by omega
      have b1 : 1 < B.size := by omega
      have b0 : 0 < B.size := by omega
      have q0 : B[0].toNat = x0 := by rw [bN_at, Y.out.2.1]; exact e0
      have q1 : B[1].toNat = x1 := by rw [bN_at, Y.out.2.2.1]; exact e1
      have q2 : B[2].toNat = x2 := by rw [bN_at, Y.out.2.2.2.1]; exact e2
      have q3 : B[3].toNat = x3 := by rw [bN_at, Y.out.2.2.2.2]; exact e3
      have HM := Lib.hid (show lw s k = x0 + x1 * 256 + x2 * 65536 + x3 * 16777216 by unfold lw; rw [e0, e1, e2, e3])
      clear e0 e1 e2 e3 Y
      have c3' : (3 : Int) < (B.size : Int) := by omega
      have c2' : (2 : Int) < (B.size : Int) := by omega
      have c1' : (1 : Int) < (B.size : Int) := by omega
      have v0a : IntKind.u32.wrap (x0 : Int) = x0 := by rw [IntKind.wrap_u32']; omega
      have v1a : IntKind.u32.wrap (x1 : Int) = x1 := by rw [IntKind.wrap_u32']; omega
      have v2a : IntKind.u32.wrap (x2 : Int) = x2 := by rw [IntKind.wrap_u32']; omega
      have v3a : IntKind.u32.wrap (x3 : Int) = x3 := by rw [IntKind.wrap_u32']; omega
      have v3b : IntKind.u32.wrap ((x3 : Int) * 16777216) = (x3 : Int) * 16777216 := by rw [IntKind.wrap_u32']; omega
      have v1b : IntKind.u32.wrap ((x1 : Int) * 256) = (x1 : Int) * 256 := by rw [IntKind.wrap_u32']; omega
      have v2b : IntKind.u32.wrap ((x2 : Int) * 65536) = (x2 : Int) * 65536 := by rw [IntKind.wrap_u32']; omega
      go_still_tail 20, (by kernel_rfl)
      change wpList _ _ _ _ _ wr.drew
      clear v0a v1a v2a v3a v3b v1b v2b
      go_wp2
      rw [u32_low x0 x1 x2 x3 hx0 hx1 hx2 hx3, ← HM.out]
      go_roundw
      case rel =>
        obtain ⟨h1, h2, h3, h4, h5⟩ := HX.out
        refine ⟨k + 1, ys.set (o + k) (.int .u32 (lw s k : Int)), by omega, by go_num, Lib.hid ⟨(h1.set _ _).drew, (h2.set _ _).drew, by simp [h3], fun j hj => ?_, fun j hj => ?_⟩⟩
        · by_cases e : j = k
          · rw [e, List.getElem?_set_self (by have := HO.out; omega)]
          · rw [List.getElem?_set_ne (by omega)]; exact h4 j (by omega)
        · rw [List.getElem?_set_ne (by omega)]; exact h5 j (by omega)
      case measure => simp [intOf]; omega
    · have hk2 := Lib.hid (show k = n by omega)
      go_wp2
      go_end0
      obtain ⟨h1, h2, h3, h4, h5⟩ := HX.out
      rw [hk2.out] at h4 h5
      exact ⟨rfl, Lib.hid ⟨h1, ys, h2, h3, h4, h5⟩⟩

theorem first_at (key nonce : ByteArray) (count : Nat) (zs : List Value) (hl : zs.length = 16) (h0 : ∀ j, j < 4 → zs[j]? = some (.int .u32 ((lw opening j : Nat) : Int))) (h1 : ∀ j, j < 8 → zs[4 + j]? = some (.int .u32 ((lw key j : Nat) : Int)))
    (h2 : zs[12]? = some (.int .u32 ((count % 4294967296 : Nat) : Int))) (h3 : ∀ j, j < 3 → zs[13 + j]? = some (.int .u32 ((lw nonce j : Nat) : Int))) : zs = c32 (first key nonce count) := by
  apply List.ext_getElem?
  intro i
  by_cases hi : i < 16
  · match i, hi with
    | 0, _ => exact h0 0 (by omega)
    | 1, _ => exact h0 1 (by omega)
    | 2, _ => exact h0 2 (by omega)
    | 3, _ => exact h0 3 (by omega)
    | 4, _ => exact h1 0 (by omega)
    | 5, _ => exact h1 1 (by omega)
    | 6, _ => exact h1 2 (by omega)
    | 7, _ => exact h1 3 (by omega)
    | 8, _ => exact h1 4 (by omega)
    | 9, _ => exact h1 5 (by omega)
    | 10, _ => exact h1 6 (by omega)
    | 11, _ => exact h1 7 (by omega)
    | 12, _ => exact h2
    | 13, _ => exact h3 0 (by omega)
    | 14, _ => exact h3 1 (by omega)
    | 15, _ => exact h3 2 (by omega)
    | n + 16, h => exact absurd h (by omega)
  · rw [List.getElem?_eq_none (by omega), List.getElem?_eq_none (by rw [c32_len, (first_ok key nonce count).len]; omega)]

set_option maxRecDepth 100000 in
set_option maxHeartbeats 1600000 in
theorem firstWords (key nonce : ByteArray) (hk : key.size = 32) (hn : nonce.size = 12) (count : Nat) (hc : count ≤ 1100000000) (w : World) :
    Calls Tryd.prog 34 #[.string key, .string nonce, .int .i64 (count : Int)] w fun e' w' => e' = .returned (.agg (c32 (first key nonce count)).toArray) ∧ Below w.heap.size w w' := by
  have HK := Lib.hid hk
  have HN := Lib.hid hn
  have HF := Lib.hid (first_at key nonce count)
  have HFO := Lib.hid (first_ok key nonce count)
  have HO := Lib.hid (show opening.size = 16 from rfl)
  have HOP := Lib.hid (show (⟨#[101, 120, 112, 97, 110, 100, 32, 51, 50, 45, 98, 121, 116, 101, 32, 107]⟩ : ByteArray) = opening from rfl)
  have hcw : IntKind.u32.wrap (count : Int) = ((count % 4294967296 : Nat) : Int) := by rw [IntKind.wrap_u32']; omega
  generalize count % 4294967296 = cw at *
  generalize first key nonce count = FW at *
  generalize opening = op at *
  clear hk hn
  go_enter Tryd.func34, Tryd.ntmps34
  go_wp2_with fail
  rw [HOP.out]
  generalize hW : (w.alloc _).alloc _ = W
  obtain ⟨z0, z1, hz0, hz1, RR⟩ : ∃ z0 z1 : List Value, z0.length = 16 ∧ z1.length = 16 ∧ Row W w.heap.size 52 z0 ∧ Row W (w.heap.size + 1) 52 z1 ∧ Below w.heap.size w W ∧ w.heap.size + 2 ≤ W.heap.size := by
    rw [← hW]
    exact ⟨_, _, rfl, rfl, Arr.two_new w _ _ _ _⟩
  clear hW
  have Z0 := Lib.hid hz0
  have HR := Lib.hid RR
  clear RR hz0
  refine (lowWords (w.heap.size + 1) 0 4 _ 52 z1 op (by rw [HO.out]; omega) (by rw [HO.out]; omega) (by omega) W HR.out.2.1).mono ?_
  rintro e' w1 ⟨rfl, H1⟩
  obtain ⟨o1, ys1, r1, l1, p1, q1⟩ := H1.out
  have E1 := Lib.hid p1
  have O1 := Lib.hid (show Row w1 w.heap.size 52 z0 ∧ Below w.heap.size w w1 from ⟨(o1.block w.heap.size (by omega)).trans HR.out.1, HR.out.2.2.1.trans (o1.below (by omega))⟩)
  have R1 := Lib.hid r1
  rw [hz1] at l1
  have L1 := Lib.hid l1
  clear H1 o1 r1 p1 q1 l1 HR
  go_wp2_with fail
  refine (lowWords (w.heap.size + 1) 4 8 _ 52 ys1 key (by rw [HK.out]; omega) (by rw [HK.out]; omega) (by have := L1.out; omega) w1 R1.out).mono ?_
  rintro e' w2 ⟨rfl, H2⟩
  obtain ⟨o2, ys2, r2, l2, p2, q2⟩ := H2.out
  have E2 := Lib.hid (show (∀ j, j < 4 → ys2[j]? = some (.int .u32 ((lw op j : Nat) : Int))) ∧ ∀ j, j < 8 → ys2[4 + j]? = some (.int .u32 ((lw key j : Nat) : Int)) from ⟨fun j hj => by rw [q2 j (by omega)]; have := E1.out j hj; rwa [Nat.zero_add] at this, p2⟩)
  have O2 := Lib.hid (show Row w2 w.heap.size 52 z0 ∧ Below w.heap.size w w2 from ⟨(o2.block w.heap.size (by omega)).trans O1.out.1, O1.out.2.trans (o2.below (by omega))⟩)
  have R2 := Lib.hid r2
  rw [L1.out] at l2
  have L2 := Lib.hid l2
  have f12 := r2.frozen 12
  obtain ⟨v12, c12⟩ : ∃ v, w2.cell? ⟨w.heap.size + 1, 12, none⟩ = some v := ⟨_, (r2.cell 12).trans (List.getElem?_eq_getElem (by omega))⟩
  clear H2 o2 r2 p2 q2 l2 E1 O1 R1 L1
  go_wp2_with fail
  refine (lowWords (w.heap.size + 1) 13 3 _ 52 (ys2.set 12 (.int .u32 (cw : Int))) nonce (by rw [HN.out]; omega) (by rw [HN.out]; omega) (by have := L2.out; simp; omega) _ (R2.out.set 12 _)).mono ?_
  rintro e' w3 ⟨rfl, H3⟩
  obtain ⟨o3, ys3, r3, l3, p3, q3⟩ := H3.out
  have hys : ys3 = c32 FW := by
    refine HF.out ys3 (by rw [l3]; simp; exact L2.out) (fun j hj => ?_) (fun j hj => ?_) ?_ p3
    · rw [q3 j (by omega), List.getElem?_set_ne (by omega)]; exact E2.out.1 j hj
    · rw [q3 (4 + j) (by omega), List.getElem?_set_ne (by omega)]; exact E2.out.2 j hj
    · rw [q3 12 (by omega), List.getElem?_set_self (by have := L2.out; omega)]
  rw [hys] at r3
  have HRW := Lib.hid r3
  have HI4 := Lib.hid (infoUV HFO.out)
  have H1 := Lib.hid (c32_one FW)
  have HRW0 := Lib.hid (show Row w3 w.heap.size 52 z0 from (o3.block w.heap.size (by omega)).trans (O2.out.1.set_far _ _ _ (by omega)))
  have HT := Lib.hid (show w3.there w.heap.size 0 (c32 FW).toArray.size by have := HRW0.out.there; rw [Z0.out] at this; rw [show (c32 FW).toArray.size = 16 by rw [List.size_toArray, c32_len, HFO.out.len]]; exact this)
  have HRES := Lib.hid (HRW0.out.sets_all (vs := c32 FW) (by rw [c32_len, HFO.out.len, Z0.out]))
  have HBF := Lib.hid (Arr.below_sets (B := w.heap.size) (a := w) w.heap.size (Nat.le_refl _) (c32 FW) 0 w3 ((O2.out.2.setCell (show w.heap.size ≤ w.heap.size + 1 by omega) _).trans (o3.below (by omega))))
  clear H3 o3 r3 p3 q3 l3 hys E2 O2 R2 L2 HRW0 f12 c12
  generalize hus : c32 FW = us at *
  have HUS := Lib.hid hus
  clear hus
  go_wp2_with (first
    | ((with_reducible show wpList _ _ _ _ _ _); refine wpList_load_row rfl 52 _ rfl (w.heap.size + 1) rfl 52 _ (0, 0) _ HRW.out Tryd.underlying52 rfl HI4.out ?_)
    | ((with_reducible show wpList _ _ _ _ _ _); refine wpList_store_mid rfl 52 _ _ rfl w.heap.size 0 us.toArray rfl rfl HT.out HI4.out H1.out ?_))
  refine bodyPost_ret (v := .agg us.toArray) ?_ rfl ⟨by rw [HUS.out], HBF.out⟩
  exact results_cell_row rfl _ _ w.heap.size 52 _ (0, 0) _ rfl HRES.out Tryd.underlying52 rfl HI4.out
end Go.Proofs.YtcfdnifllehbjaaDoor.ChaFirst
