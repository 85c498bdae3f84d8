/-
  What is proved: the program's 64 bytes of sixteen words are the plain ones (contract for the walks).
-/
import Derived.Test.YtcfdnifllehbjaaDoorRows
import Derived.Test.YtcfdnifllehbjaaDoorChaMix
import Derived.Test.YtcfdnifllehbjaaDoorBytes
namespace Go.Proofs.YtcfdnifllehbjaaDoor.ChaOut
open Go.ChangeShapes Go.WideShapes Go.ChangeAt Go.RowKit
open Arr (Row)
open Bytes (BV)
open Cha
set_option linter.unusedVariables false

theorem le4_cells (m : Nat) (h : m < 4294967296) : BV (le4 m) = [.int .u8 ((m : Int) % 256), .int .u8 ((m : Int) / 256 % 256), .int .u8 ((m : Int) / 65536 % 256), .int .u8 ((m : Int) / 16777216)] := by
  simp only [BV, le4, List.map_cons, List.map_nil, UInt8.toNat_ofNat', Nat.reducePow, Nat.mod_mod]
  rw [show m / 16777216 % 256 = m / 16777216 by omega]
  simp
theorem set4 (xs : List Value) (p : Nat) (a b c d : Value) (h : p + 4 ≤ xs.length) :
    ((((xs.set p a).set (p + 1) b).set (p + 2) c).set (p + 3) d).take (p + 4) = xs.take p ++ [a, b, c, d] := by
  apply List.ext_getElem?
  intro i
  by_cases hi : i < p + 4
  · rw [List.getElem?_take_of_lt hi]
    by_cases h0 : i < p
    · rw [List.getElem?_append_left (by simp; omega), List.getElem?_take_of_lt h0, List.getElem?_set_ne (by omega), List.getElem?_set_ne (by omega), List.getElem?_set_ne (by omega), List.getElem?_set_ne (by omega)]
    · obtain ⟨q, rfl⟩ : ∃ q, i = p + q := ⟨i - p, by omega⟩
      have hlt : (xs.take p).length = p := by simp; omega
      rw [List.getElem?_append_right (by omega), hlt, show p + q - p = q by omega]
      have hq : q < 4 := by omega
      match q, hq with
      | 0, _ => rw [List.getElem?_set_ne (by omega), List.getElem?_set_ne (by omega), List.getElem?_set_ne (by omega), Nat.add_zero, List.getElem?_set_self (by omega)]; rfl
      | 1, _ => rw [List.getElem?_set_ne (by omega), List.getElem?_set_ne (by omega), List.getElem?_set_self (by simp; omega)]; rfl
      | 2, _ => rw [List.getElem?_set_ne (by omega), List.getElem?_set_self (by simp; omega)]; rfl
      | 3, _ => rw [List.getElem?_set_self (by simp; omega)]; rfl
  · rw [List.getElem?_eq_none (by simp; omega), List.getElem?_eq_none (by simp; omega)]
theorem index16 (cs : List Value) (k : Nat) (v : Value) (hk : k < 16) (hv : cs[k]? = some v) (w : World) :
    (Instr.index 52 (.agg cs.toArray) (.int .i64 (k : Int))).run Tryd.prog w = .ok v w := by
  simp [Instr.index, run_underlying Tryd.underlying52, part, go_sem, hv]
  omega
theorem info64 : (Tryd.prog.info? 54).map (·.size) = some 64 := by kernel_rfl
theorem three_new (w : World) (a b c : Array Value) (t u v : TypeId) : Row (((w.alloc (.cells a t)).alloc (.cells b u)).alloc (.cells c v)) w.heap.size t a.toList ∧ Row (((w.alloc (.cells a t)).alloc (.cells b u)).alloc (.cells c v)) (w.heap.size + 1) u b.toList ∧
    Row (((w.alloc (.cells a t)).alloc (.cells b u)).alloc (.cells c v)) (w.heap.size + 2) v c.toList ∧ Below w.heap.size w (((w.alloc (.cells a t)).alloc (.cells b u)).alloc (.cells c v)) ∧ w.heap.size + 3 ≤ (((w.alloc (.cells a t)).alloc (.cells b u)).alloc (.cells c v)).heap.size := by
  obtain ⟨h1, h2, h3, h4⟩ := Arr.two_new w a b t u
  refine ⟨h1.alloc _, h2.alloc _, ?_, h3.alloc (by omega) _, by simp⟩
  have := Arr.row_new ((w.alloc (.cells a t)).alloc (.cells b u)) c v
  rw [show ((w.alloc (.cells a t)).alloc (.cells b u)).heap.size = w.heap.size + 2 by simp] at this
  exact this

set_option maxRecDepth 100000 in
set_option maxHeartbeats 1600000 in
theorem chaBytes (V : List Nat) (hV : Ok V) (w : World) :
    Calls Tryd.prog 35 #[.agg (c32 V).toArray] w fun e' w' => e' = .returned (.agg (BV (Cha.blk V)).toArray) ∧ Below w.heap.size w w' := by
  have HV := Lib.hid hV
  have HI := Lib.hid (infoUV hV)
  have HMIX := Lib.hid (ChaMix.mixed V hV)
  have HMO := Lib.hid (mix_ok hV)
  have HFIN := Lib.hid (show ∀ i, fin V i = ((mix V).getD i 0 + V.getD i 0) % 4294967296 from fun _ => rfl)
  have HB0 := Lib.hid (show Cha.bytes V 0 = [] from rfl)
  have HBS := Lib.hid (bytes_succ V)
  have HBL := Lib.hid (show Cha.blk V = Cha.bytes V 16 from rfl)
  have HLEN := Lib.hid (bytes_length V)
  have HFL := Lib.hid (fin_lt V)
  clear hV
  generalize mix V = M at *
  generalize fin V = Fi at *
  generalize Cha.bytes V = By at *
  generalize Cha.blk V = Bk at *
  go_enter Tryd.func35, Tryd.ntmps35
  have HW := Lib.hid (three_new w (c32 V).toArray)
  generalize hys : c32 V = ys at *
  have HYS := Lib.hid hys
  clear hys
  go_upto_region 2 with (fail)
  generalize hW : ((w.alloc _).alloc _).alloc _ = W
  obtain ⟨z1, z2, hz1, hz2, RR⟩ : ∃ z1 z2 : List Value, z1.length = 64 ∧ z2.length = 64 ∧ Row W w.heap.size 52 ys ∧ Row W (w.heap.size + 1) 54 z1 ∧ Row W (w.heap.size + 2) 54 z2 ∧ Below w.heap.size w W ∧ w.heap.size + 3 ≤ W.heap.size := by
    rw [← hW]
    exact ⟨_, _, rfl, rfl, HW.out _ _ _ _ _⟩
  clear hW HW
  have Z1 := Lib.hid hz1
  have Z2 := Lib.hid hz2
  have HRR := Lib.hid RR
  clear hz1 hz2 RR
  go_wp2_with (((with_reducible show wpList _ _ _ _ _ _); refine wpList_load_row rfl 52 _ rfl w.heap.size rfl 52 _ (0, 0) _ HRR.out.1 Tryd.underlying52 rfl HI.out ?_))
  refine (HMIX.out _).mono ?_
  rintro e' w1 ⟨rfl, hb⟩
  have HR1 := Lib.hid (show Row w1 w.heap.size 52 ys ∧ Row w1 (w.heap.size + 1) 54 z1 ∧ Row w1 (w.heap.size + 2) 54 z2 ∧ Below w.heap.size w w1 ∧ w.heap.size + 3 ≤ w1.heap.size from
    ⟨HRR.out.1.below hb (by have := HRR.out.2.2.2.2; omega), HRR.out.2.1.below hb (by have := HRR.out.2.2.2.2; omega), HRR.out.2.2.1.below hb (by have := HRR.out.2.2.2.2; omega), HRR.out.2.2.2.1.trans (hb.mono (by have := HRR.out.2.2.2.2; omega)), Nat.le_trans HRR.out.2.2.2.2 hb.size⟩)
  clear hb HRR
  have HIX := Lib.hid (fun k (h : k < 16) => index16 (c32 M) k _ h (c32_at M k (by rw [HMO.out.len]; exact h)))
  generalize c32 M = ms at *
  go_wp2
  go_loopw [8] (fun i wr => ∃ (k : Nat) (xs : List Value), k ≤ 16 ∧ i = .int .i64 k ∧ Hid (xs.length = 64 ∧ xs.take (4 * k) = BV (By k) ∧ Row wr (w.heap.size + 2) 54 xs) ∧ Hid (Row wr w.heap.size 52 ys ∧ Row wr (w.heap.size + 1) 54 z1 ∧ Below w.heap.size w wr)) (fun i _ => 16 - (intOf i).toNat)
  case atStart => exact ⟨0, z2, by omega, rfl, Lib.hid ⟨Z2.out, by rw [HB0.out]; rfl, HR1.out.2.2.1⟩, Lib.hid ⟨HR1.out.1, HR1.out.2.1, HR1.out.2.2.2.1⟩⟩
  case round =>
    rename_i wr
    clear HR1
    obtain ⟨k, xs, hk, rfl, HX, HR⟩ := hrel
    by_cases hlt : k < 16
    · have hidx := HIX.out k hlt
      have hv := HR.out.1.cell k
      rw [← HYS.out, c32_at V k (by rw [HV.out.len]; exact hlt)] at hv
      have HF := Lib.hid (HFIN.out k)
      have hm := HMO.out.getD k
      have hvl := HV.out.getD k
      generalize M.getD k 0 = m at *
      generalize V.getD k 0 = v at *
      obtain ⟨f, ef, lf⟩ : ∃ f, (m + v) % 4294967296 = f ∧ f < 4294967296 := ⟨_, rfl, Nat.mod_lt _ (by omega)⟩
      have hkw : IntKind.u32.wrap ((m : Int) + (v : Int)) = (f : Int) := by rw [IntKind.wrap_u32', ← ef]; omega
      rw [ef] at HF
      have HLE := Lib.hid (le4_cells f lf)
      obtain ⟨p0, e0⟩ : ∃ p, 4 * k = p := ⟨_, rfl⟩
      obtain ⟨p1, e1⟩ : ∃ p, 4 * k + 1 = p := ⟨_, rfl⟩
      obtain ⟨p2, e2⟩ : ∃ p, 4 * k + 2 = p := ⟨_, rfl⟩
      obtain ⟨p3, e3⟩ : ∃ p, 4 * k + 3 = p := ⟨_, rfl⟩
      have i0 : (4 : Int) * (k : Int) = (p0 : Int) := by omega
      have i1 : (p0 : Int) + 1 = (p1 : Int) := by omega
      have i2 : (p0 : Int) + 2 = (p2 : Int) := by omega
      have i3 : (p0 : Int) + 3 = (p3 : Int) := by omega
      have HP := Lib.hid (show p0 = 4 * k ∧ p1 = p0 + 1 ∧ p2 = p0 + 2 ∧ p3 = p0 + 3 by omega)
      have r0 : (p0 : Int) < 64 := by omega
      have r1 : (p1 : Int) < 64 := by omega
      have r2 : (p2 : Int) < 64 := by omega
      have r3 : (p3 : Int) < 64 := by omega
      have n1 : p0 ≠ p1 := by omega
      have n2 : p0 ≠ p2 := by omega
      have n3 : p0 ≠ p3 := by omega
      have n4 : p1 ≠ p2 := by omega
      have n5 : p1 ≠ p3 := by omega
      have n6 : p2 ≠ p3 := by omega
      have j0 : IntKind.i64.wrap (p0 : Int) = p0 := by rw [IntKind.wrap_i64]; omega
      have j1 : IntKind.i64.wrap (p1 : Int) = p1 := by rw [IntKind.wrap_i64]; omega
      have j2 : IntKind.i64.wrap (p2 : Int) = p2 := by rw [IntKind.wrap_i64]; omega
      have j3 : IntKind.i64.wrap (p3 : Int) = p3 := by rw [IntKind.wrap_i64]; omega
      clear e0 e1 e2 e3 ef
      obtain ⟨v0, c0⟩ : ∃ v, wr.cell? ⟨w.heap.size + 2, p0, none⟩ = some v := ⟨_, (HX.out.2.2.cell p0).trans (List.getElem?_eq_getElem (by have := HX.out.1; omega))⟩
      obtain ⟨v1, c1⟩ : ∃ v, wr.cell? ⟨w.heap.size + 2, p1, none⟩ = some v := ⟨_, (HX.out.2.2.cell p1).trans (List.getElem?_eq_getElem (by have := HX.out.1; omega))⟩
      obtain ⟨v2, c2⟩ : ∃ v, wr.cell? ⟨w.heap.size + 2, p2, none⟩ = some v := ⟨_, (HX.out.2.2.cell p2).trans (List.getElem?_eq_getElem (by have := HX.out.1; omega))⟩
      obtain ⟨v3, c3⟩ : ∃ v, wr.cell? ⟨w.heap.size + 2, p3, none⟩ = some v := ⟨_, (HX.out.2.2.cell p3).trans (List.getElem?_eq_getElem (by have := HX.out.1; omega))⟩
      have f0 := HX.out.2.2.frozen p0
      have f1 := HX.out.2.2.frozen p1
      have f2 := HX.out.2.2.frozen p2
      have f3 := HX.out.2.2.frozen p3
      have k16 : (k : Int) < 16 := by omega
      have k0 : (0 : Int) ≤ (k : Int) := by omega
      go_wp2
      go_roundw
      case rel =>
        obtain ⟨h1, h2, h3⟩ := HX.out
        obtain ⟨g1, g2, g3⟩ := HR.out
        obtain ⟨q0, q1, q2, q3⟩ := HP.out
        refine ⟨k + 1, (((xs.set p0 (.int .u8 ((f : Int) % 256))).set p1 (.int .u8 ((f : Int) / 256 % 256))).set p2 (.int .u8 ((f : Int) / 65536 % 256))).set p3 (.int .u8 ((f : Int) / 16777216)), by omega, by go_num, Lib.hid ⟨by simp [h1], ?_, ?_⟩, Lib.hid ⟨?_, ?_, ?_⟩⟩
        · rw [HBS.out k, HF.out, Bytes.BV_append, HLE.out, ← h2, q1, q2, q3, ← q0, show 4 * (k + 1) = p0 + 4 by omega]
          exact set4 xs p0 _ _ _ _ (by omega)
        · exact (((h3.set p0 _).set p1 _).set p2 _).set p3 _
        · exact (((g1.set_far _ _ _ (by omega)).set_far _ _ _ (by omega)).set_far _ _ _ (by omega)).set_far _ _ _ (by omega)
        · exact (((g2.set_far _ _ _ (by omega)).set_far _ _ _ (by omega)).set_far _ _ _ (by omega)).set_far _ _ _ (by omega)
        · exact (((g3.setCell (show w.heap.size ≤ w.heap.size + 2 by omega) _).setCell (show w.heap.size ≤ w.heap.size + 2 by omega) _).setCell (show w.heap.size ≤ w.heap.size + 2 by omega) _).setCell (show w.heap.size ≤ w.heap.size + 2 by omega) _
      case measure => simp [intOf]; omega
    · obtain rfl : k = 16 := by omega
      obtain ⟨h1, h2, h3⟩ := HX.out
      have hxs : xs = BV Bk := by
        rw [HBL.out, ← h2, List.take_of_length_le (by omega)]
      have HLB := Lib.hid (show (BV Bk).length = 64 by rw [← hxs]; exact h1)
      rw [hxs] at h3
      have HRW := Lib.hid h3
      have HI4 := Lib.hid (show (Tryd.prog.info? 54).map (·.size) = some (BV Bk).toArray.size by rw [List.size_toArray, HLB.out]; exact info64)
      have H1 := Lib.hid (show (BV Bk).toArray.all (·.oneCell') = true from all_oneCell_toArray (Bytes.BV_one Bk))
      have HT := Lib.hid (show wr.there (w.heap.size + 1) 0 (BV Bk).toArray.size by have := HR.out.2.1.there; rw [Z1.out] at this; rw [show (BV Bk).toArray.size = 64 by rw [List.size_toArray, HLB.out]]; exact this)
      have HRES := Lib.hid (HR.out.2.1.sets_all (vs := BV Bk) (by rw [HLB.out, Z1.out]))
      have HBF := Lib.hid (Arr.below_sets (B := w.heap.size) (a := w) (w.heap.size + 1) (by omega) (BV Bk) 0 wr HR.out.2.2)
      clear h1 h2 h3 hxs HX HR
      generalize hus : BV Bk = us at *
      have HUS := Lib.hid hus
      clear hus
      go_wp2_with (first
        | ((with_reducible show wpList _ _ _ _ _ _); refine wpList_load_row rfl 54 _ rfl (w.heap.size + 2) rfl 54 _ (0, 0) _ HRW.out Tryd.underlying54 rfl HI4.out ?_)
        | ((with_reducible show wpList _ _ _ _ _ _); refine wpList_store_mid rfl 54 _ _ rfl (w.heap.size + 1) 0 us.toArray rfl rfl HT.out HI4.out H1.out ?_))
      refine bodyPost_ret (v := .agg us.toArray) ?_ rfl ⟨by rw [HUS.out], HBF.out⟩
      exact results_cell_row rfl _ _ (w.heap.size + 1) 54 _ (0, 0) _ rfl HRES.out Tryd.underlying54 rfl HI4.out
end Go.Proofs.YtcfdnifllehbjaaDoor.ChaOut
