/-
  What is proved: twenty rows of four quarter rounds of sixteen words of uint32 are the plain ones (contract for the walks).
  What is proved: the program's 64 bytes of sixteen words are the plain ones (contract for the walks).
  What is proved: the program's first sixteen words are the plain ones (contract for the walks).
  What is proved: the program's block of the stream is the plain one, with its codes (contract for the walks).
-/
import Derived.Test.YtggobhpjfflooaaGreatDoorRows
import Derived.Test.YtggobhpjfflooaaGreatDoorSlant0
import Derived.Test.YtggobhpjfflooaaGreatDoorSlant1
import Derived.Test.YtggobhpjfflooaaGreatDoorKitA
import Derived.WalkSpells
namespace Go.Proofs.YtggobhpjfflooaaGreatDoor.ChaMix
open Go.ChangeShapes Go.WideShapes Go.ChangeAt Go.RowKit
open Arr (Row)
open Cha
set_option linter.unusedVariables false

theorem mixN_zero (V : List Nat) : mixN V 0 = V := rfl
theorem mixN_succ (V : List Nat) (n : Nat) : mixN V (n + 1) = slant 1 (slant 0 (mixN V n)) := rfl
set_option maxRecDepth 100000 in
set_option maxHeartbeats 1600000 in
theorem mixed (V : List Nat) (hV : Ok V) (w : World) :
    Calls Tryz.prog 70 #[.agg (c32 V).toArray] w fun e' w' => e' = .returned (.agg (c32 (mix V)).toArray) ∧ Below w.heap.size w w' := by
  have HV := Lib.hid hV
  have HRO := Lib.hid (fun k => mixN_ok hV k)
  have HR0 := Lib.hid (mixN_zero V)
  have HRS := Lib.hid (mixN_succ V)
  have HSL := Lib.hid (show mix V = mixN V 10 from rfl)
  have HI := Lib.hid (infoUV hV)
  clear hV
  generalize mixN V = F at *
  generalize mix V = M at *
  generalize hys : c32 V = ys at *
  have HYS := Lib.hid hys
  clear hys
  go_enter Tryz.func70, Tryz.ntmps70
  go_wp2
  generalize hW : (w.alloc _).alloc _ = W
  obtain ⟨z1, hz1, R0, R1, HB, hsz⟩ : ∃ z1 : List Value, z1.length = 16 ∧ Row W w.heap.size 91 ys ∧ Row W (w.heap.size + 1) 91 z1 ∧ Below w.heap.size w W ∧ w.heap.size + 2 ≤ W.heap.size := by
    rw [← hW]
    refine ⟨_, ?_, (Arr.two_new w _ _ _ _).1, (Arr.two_new w _ _ _ _).2.1, (Arr.two_new w _ _ _ _).2.2.1, (Arr.two_new w _ _ _ _).2.2.2⟩
    · rfl
  clear hW
  have Z1 := Lib.hid hz1
  have RR := Lib.hid (show Row W w.heap.size 91 (c32 (F 0)) ∧ Row W (w.heap.size + 1) 91 z1 ∧ Below w.heap.size w W ∧ w.heap.size + 2 ≤ W.heap.size from ⟨by rw [HR0.out, HYS.out]; exact R0, R1, HB, hsz⟩)
  clear hz1 R0 R1 HB hsz
  go_loopw [3] (fun i wr => ∃ k : Nat, k ≤ 10 ∧ i = .int .i64 k ∧ Hid (Row wr w.heap.size 91 (c32 (F k)) ∧ Row wr (w.heap.size + 1) 91 z1 ∧ Below w.heap.size w wr ∧ w.heap.size + 2 ≤ wr.heap.size)) (fun i _ => 10 - (intOf i).toNat)
  case atStart => exact ⟨0, by omega, rfl, RR⟩
  case round =>
    rename_i wr
    clear RR
    obtain ⟨k, hk, rfl, HX⟩ := hrel
    by_cases hlt : k < 10
    · have HK := Lib.hid (HRO.out k)
      have HNX := Lib.hid (HRS.out k)
      have HRR := Lib.hid HX.out.1
      have HI0 := Lib.hid (infoUV HK.out)
      generalize F k = X at *
      go_wp2_with (first
        | ((with_reducible show wpList _ _ _ _ _ _); refine wpList_load_row rfl 91 _ rfl w.heap.size rfl 91 _ (0, 0) _ HRR.out Tryz.underlying91 rfl HI0.out ?_))
      refine (Slant0.slanted X HK.out _).mono ?_
      rintro e' w1 ⟨rfl, hb⟩
      have HK1 := Lib.hid (slant_ok 0 HK.out)
      generalize slant 0 X = X1 at *
      have HI1 := Lib.hid (infoUV HK1.out)
      have H11 := Lib.hid (c32_one X1)
      have HR1 := Lib.hid (show Row w1 w.heap.size 91 (c32 X) ∧ Row w1 (w.heap.size + 1) 91 z1 ∧ Below w.heap.size w w1 ∧ w.heap.size + 2 ≤ w1.heap.size from
        ⟨HX.out.1.below hb (by have := HX.out.2.2.2; omega), HX.out.2.1.below hb (by have := HX.out.2.2.2; omega), HX.out.2.2.1.trans (hb.mono (by have := HX.out.2.2.2; omega)), Nat.le_trans HX.out.2.2.2 hb.size⟩)
      have HT1 := Lib.hid (show w1.there w.heap.size 0 (c32 X1).toArray.size by have := HR1.out.1.there; rw [c32_len, HK.out.len] at this; rw [show (c32 X1).toArray.size = 16 by rw [List.size_toArray, c32_len, HK1.out.len]]; exact this)
      have HS1 := Lib.hid (show Row (w1.setCells w.heap.size 0 (c32 X1)) w.heap.size 91 (c32 X1) ∧ Row (w1.setCells w.heap.size 0 (c32 X1)) (w.heap.size + 1) 91 z1 ∧ Below w.heap.size w (w1.setCells w.heap.size 0 (c32 X1)) ∧ w.heap.size + 2 ≤ (w1.setCells w.heap.size 0 (c32 X1)).heap.size from
        ⟨HR1.out.1.sets_all (by rw [c32_len, c32_len, HK1.out.len, HK.out.len]), HR1.out.2.1.sets_far (by omega) _ _ _, Arr.below_sets _ (Nat.le_refl _) _ _ _ HR1.out.2.2.1, by rw [Arr.size_sets]; exact HR1.out.2.2.2⟩)
      clear hb HX HRR
      go_wp2_with (first
        | ((with_reducible show wpList _ _ _ _ _ _); refine wpList_store_mid rfl 91 _ _ rfl w.heap.size 0 (c32 X1).toArray rfl rfl HT1.out HI1.out H11.out ?_; simp only [])
        | ((with_reducible show wpList _ _ _ _ _ _); refine wpList_load_row rfl 91 _ rfl w.heap.size rfl 91 _ (0, 0) _ HS1.out.1 Tryz.underlying91 rfl HI1.out ?_))
      generalize w1.setCells w.heap.size 0 (c32 X1) = W2 at *
      refine (Slant1.slanted X1 HK1.out _).mono ?_
      rintro e' w3 ⟨rfl, hb⟩
      have HK2 := Lib.hid (slant_ok 1 HK1.out)
      generalize slant 1 X1 = X2 at *
      have HI2 := Lib.hid (infoUV HK2.out)
      have H12 := Lib.hid (c32_one X2)
      have HR3 := Lib.hid (show Row w3 w.heap.size 91 (c32 X1) ∧ Row w3 (w.heap.size + 1) 91 z1 ∧ Below w.heap.size w w3 ∧ w.heap.size + 2 ≤ w3.heap.size from
        ⟨HS1.out.1.below hb (by have := HS1.out.2.2.2; omega), HS1.out.2.1.below hb (by have := HS1.out.2.2.2; omega), HS1.out.2.2.1.trans (hb.mono (by have := HS1.out.2.2.2; omega)), Nat.le_trans HS1.out.2.2.2 hb.size⟩)
      have HT3 := Lib.hid (show w3.there w.heap.size 0 (c32 X2).toArray.size by have := HR3.out.1.there; rw [c32_len, HK1.out.len] at this; rw [show (c32 X2).toArray.size = 16 by rw [List.size_toArray, c32_len, HK2.out.len]]; exact this)
      have HS3 := Lib.hid (show Row (w3.setCells w.heap.size 0 (c32 X2)) w.heap.size 91 (c32 X2) ∧ Row (w3.setCells w.heap.size 0 (c32 X2)) (w.heap.size + 1) 91 z1 ∧ Below w.heap.size w (w3.setCells w.heap.size 0 (c32 X2)) ∧ w.heap.size + 2 ≤ (w3.setCells w.heap.size 0 (c32 X2)).heap.size from
        ⟨HR3.out.1.sets_all (by rw [c32_len, c32_len, HK2.out.len, HK1.out.len]), HR3.out.2.1.sets_far (by omega) _ _ _, Arr.below_sets _ (Nat.le_refl _) _ _ _ HR3.out.2.2.1, by rw [Arr.size_sets]; exact HR3.out.2.2.2⟩)
      clear hb HS1 HR1 HT1 HI1
      go_wp2_with (first
        | ((with_reducible show wpList _ _ _ _ _ _); refine wpList_store_mid rfl 91 _ _ rfl w.heap.size 0 (c32 X2).toArray rfl rfl HT3.out HI2.out H12.out ?_; simp only []))
      generalize w3.setCells w.heap.size 0 (c32 X2) = W4 at *
      go_wp2
      go_roundw
      case rel => exact ⟨k + 1, by omega, by go_num, Lib.hid (by rw [HNX.out]; exact HS3.out)⟩
      case measure => simp [intOf]; omega
    · obtain rfl : k = 10 := by omega
      have HK := HRO.out 10
      have HI4 := Lib.hid (infoUV HK)
      have H1 := Lib.hid (c32_one (F 10))
      have HRR := Lib.hid HX.out.1
      have HT := Lib.hid (show wr.there (w.heap.size + 1) 0 (c32 (F 10)).toArray.size by have := HX.out.2.1.there; rw [Z1.out] at this; rw [show (c32 (F 10)).toArray.size = 16 by rw [List.size_toArray, c32_len, HK.len]]; exact this)
      have HRES := Lib.hid (HX.out.2.1.sets_all (vs := c32 (F 10)) (by rw [c32_len, HK.len, Z1.out]))
      have HBF := Lib.hid (Arr.below_sets (B := w.heap.size) (a := w) (w.heap.size + 1) (by omega) (c32 (F 10)) 0 wr HX.out.2.2.1)
      clear HK HX
      generalize hus : c32 (F 10) = us at *
      have HUS := Lib.hid hus
      clear hus
      go_wp2_with (first
        | ((with_reducible show wpList _ _ _ _ _ _); refine wpList_load_row rfl 91 _ rfl w.heap.size rfl 91 _ (0, 0) _ HRR.out Tryz.underlying91 rfl HI4.out ?_)
        | ((with_reducible show wpList _ _ _ _ _ _); refine wpList_store_mid rfl 91 _ _ rfl (w.heap.size + 1) 0 us.toArray rfl rfl HT.out HI4.out H1.out ?_))
      refine bodyPost_ret (v := .agg us.toArray) ?_ rfl ⟨by rw [HSL.out, HUS.out], HBF.out⟩
      exact results_cell_row rfl _ _ (w.heap.size + 1) 91 _ (0, 0) _ rfl HRES.out Tryz.underlying91 rfl HI4.out
end Go.Proofs.YtggobhpjfflooaaGreatDoor.ChaMix
namespace Go.Proofs.YtggobhpjfflooaaGreatDoor.ChaOut
open Go.ChangeShapes Go.WideShapes Go.ChangeAt Go.RowKit
open Arr (Row)
open Bytes (BV)
open Cha
set_option linter.unusedVariables false

theorem le4_cells (m : Nat) (h : m < 4294967296) : BV (le4 m) = [.int .u8 ((m : Int) % 256), .int .u8 ((m : Int) / 256 % 256), .int .u8 ((m : Int) / 65536 % 256), .int .u8 ((m : Int) / 16777216)] := by
  simp only [BV, le4, List.map_cons, List.map_nil, UInt8.toNat_ofNat', Nat.reducePow, Nat.mod_mod]
  rw [show m / 16777216 % 256 = m / 16777216 by omega]
  simp
theorem set4 (xs : List Value) (p : Nat) (a b c d : Value) (h : p + 4 ≤ xs.length) :
    ((((xs.set p a).set (p + 1) b).set (p + 2) c).set (p + 3) d).take (p + 4) = xs.take p ++ [a, b, c, d] := by
  apply List.ext_getElem?
  intro i
  by_cases hi : i < p + 4
  · rw [List.getElem?_take_of_lt hi]
    by_cases h0 : i < p
    · rw [List.getElem?_append_left (by simp; omega), List.getElem?_take_of_lt h0, List.getElem?_set_ne (by omega), List.getElem?_set_ne (by omega), List.getElem?_set_ne (by omega), List.getElem?_set_ne (by omega)]
    · obtain ⟨q, rfl⟩ : ∃ q, i = p + q := ⟨i - p, by omega⟩
      have hlt : (xs.take p).length = p := by simp; omega
      rw [List.getElem?_append_right (by omega), hlt, show p + q - p = q by omega]
      have hq : q < 4 := by omega
      match q, hq with
      | 0, _ => rw [List.getElem?_set_ne (by omega), List.getElem?_set_ne (by omega), List.getElem?_set_ne (by omega), Nat.add_zero, List.getElem?_set_self (by omega)]; rfl
      | 1, _ => rw [List.getElem?_set_ne (by omega), List.getElem?_set_ne (by omega), List.getElem?_set_self (by simp; omega)]; rfl
      | 2, _ => rw [List.getElem?_set_ne (by omega), List.getElem?_set_self (by simp; omega)]; rfl
      | 3, _ => rw [List.getElem?_set_self (by simp; omega)]; rfl
  · rw [List.getElem?_eq_none (by simp; omega), List.getElem?_eq_none (by simp; omega)]
theorem index16 (cs : List Value) (k : Nat) (v : Value) (hk : k < 16) (hv : cs[k]? = some v) (w : World) :
    (Instr.index 91 (.agg cs.toArray) (.int .i64 (k : Int))).run Tryz.prog w = .ok v w := by
  simp [Instr.index, run_underlying Tryz.underlying91, part, go_sem, hv]
  omega
theorem info64 : (Tryz.prog.info? 93).map (·.size) = some 64 := by kernel_rfl
theorem three_new (w : World) (a b c : Array Value) (t u v : TypeId) : Row (((w.alloc (.cells a t)).alloc (.cells b u)).alloc (.cells c v)) w.heap.size t a.toList ∧ Row (((w.alloc (.cells a t)).alloc (.cells b u)).alloc (.cells c v)) (w.heap.size + 1) u b.toList ∧
    Row (((w.alloc (.cells a t)).alloc (.cells b u)).alloc (.cells c v)) (w.heap.size + 2) v c.toList ∧ Below w.heap.size w (((w.alloc (.cells a t)).alloc (.cells b u)).alloc (.cells c v)) ∧ w.heap.size + 3 ≤ (((w.alloc (.cells a t)).alloc (.cells b u)).alloc (.cells c v)).heap.size := by
  obtain ⟨h1, h2, h3, h4⟩ := Arr.two_new w a b t u
  refine ⟨h1.alloc _, h2.alloc _, ?_, h3.alloc (by omega) _, by simp⟩
  have := Arr.row_new ((w.alloc (.cells a t)).alloc (.cells b u)) c v
  rw [show ((w.alloc (.cells a t)).alloc (.cells b u)).heap.size = w.heap.size + 2 by simp] at this
  exact this

set_option maxRecDepth 100000 in
set_option maxHeartbeats 1600000 in
theorem chaBytes (V : List Nat) (hV : Ok V) (w : World) :
    Calls Tryz.prog 54 #[.agg (c32 V).toArray] w fun e' w' => e' = .returned (.agg (BV (Cha.blk V)).toArray) ∧ Below w.heap.size w w' := by
  have HV := Lib.hid hV
  have HI := Lib.hid (infoUV hV)
  have HMIX := Lib.hid (ChaMix.mixed V hV)
  have HMO := Lib.hid (mix_ok hV)
  have HFIN := Lib.hid (show ∀ i, fin V i = ((mix V).getD i 0 + V.getD i 0) % 4294967296 from fun _ => rfl)
  have HB0 := Lib.hid (show Cha.bytes V 0 = [] from rfl)
  have HBS := Lib.hid (bytes_succ V)
  have HBL := Lib.hid (show Cha.blk V = Cha.bytes V 16 from rfl)
  have HLEN := Lib.hid (bytes_length V)
  have HFL := Lib.hid (fin_lt V)
  clear hV
  generalize mix V = M at *
  generalize fin V = Fi at *
  generalize Cha.bytes V = By at *
  generalize Cha.blk V = Bk at *
  go_enter Tryz.func54, Tryz.ntmps54
  have HW := Lib.hid (three_new w (c32 V).toArray)
  generalize hys : c32 V = ys at *
  have HYS := Lib.hid hys
  clear hys
  go_upto_region 2 with (fail)
  generalize hW : ((w.alloc _).alloc _).alloc _ = W
  obtain ⟨z1, z2, hz1, hz2, RR⟩ : ∃ z1 z2 : List Value, z1.length = 64 ∧ z2.length = 64 ∧ Row W w.heap.size 91 ys ∧ Row W (w.heap.size + 1) 93 z1 ∧ Row W (w.heap.size + 2) 93 z2 ∧ Below w.heap.size w W ∧ w.heap.size + 3 ≤ W.heap.size := by
    rw [← hW]
    exact ⟨_, _, rfl, rfl, HW.out _ _ _ _ _⟩
  clear hW HW
  have Z1 := Lib.hid hz1
  have Z2 := Lib.hid hz2
  have HRR := Lib.hid RR
  clear hz1 hz2 RR
  go_wp2_with (((with_reducible show wpList _ _ _ _ _ _); refine wpList_load_row rfl 91 _ rfl w.heap.size rfl 91 _ (0, 0) _ HRR.out.1 Tryz.underlying91 rfl HI.out ?_))
  refine (HMIX.out _).mono ?_
  rintro e' w1 ⟨rfl, hb⟩
  have HR1 := Lib.hid (show Row w1 w.heap.size 91 ys ∧ Row w1 (w.heap.size + 1) 93 z1 ∧ Row w1 (w.heap.size + 2) 93 z2 ∧ Below w.heap.size w w1 ∧ w.heap.size + 3 ≤ w1.heap.size from
    ⟨HRR.out.1.below hb (by have := HRR.out.2.2.2.2; omega), HRR.out.2.1.below hb (by have := HRR.out.2.2.2.2; omega), HRR.out.2.2.1.below hb (by have := HRR.out.2.2.2.2; omega), HRR.out.2.2.2.1.trans (hb.mono (by have := HRR.out.2.2.2.2; omega)), Nat.le_trans HRR.out.2.2.2.2 hb.size⟩)
  clear hb HRR
  have HIX := Lib.hid (fun k (h : k < 16) => index16 (c32 M) k _ h (c32_at M k (by rw [HMO.out.len]; exact h)))
  generalize c32 M = ms at *
  go_wp2
  go_loopw [8] (fun i wr => ∃ (k : Nat) (xs : List Value), k ≤ 16 ∧ i = .int .i64 k ∧ Hid (xs.length = 64 ∧ xs.take (4 * k) = BV (By k) ∧ Row wr (w.heap.size + 2) 93 xs) ∧ Hid (Row wr w.heap.size 91 ys ∧ Row wr (w.heap.size + 1) 93 z1 ∧ Below w.heap.size w wr)) (fun i _ => 16 - (intOf i).toNat)
  case atStart => exact ⟨0, z2, by omega, rfl, Lib.hid ⟨Z2.out, by rw [HB0.out]; rfl, HR1.out.2.2.1⟩, Lib.hid ⟨HR1.out.1, HR1.out.2.1, HR1.out.2.2.2.1⟩⟩
  case round =>
    rename_i wr
    clear HR1
    obtain ⟨k, xs, hk, rfl, HX, HR⟩ := hrel
    by_cases hlt : k < 16
    · have hidx := HIX.out k hlt
      have hv := HR.out.1.cell k
      rw [← HYS.out, c32_at V k (by rw [HV.out.len]; exact hlt)] at hv
      have HF := Lib.hid (HFIN.out k)
      have hm := HMO.out.getD k
      have hvl := HV.out.getD k
      generalize M.getD k 0 = m at *
      generalize V.getD k 0 = v at *
      obtain ⟨f, ef, lf⟩ : ∃ f, (m + v) % 4294967296 = f ∧ f < 4294967296 := ⟨_, rfl, Nat.mod_lt _ (by omega)⟩
      have hkw : IntKind.u32.wrap ((m : Int) + (v : Int)) = (f : Int) := by rw [IntKind.wrap_u32', ← ef]; omega
      rw [ef] at HF
      have HLE := Lib.hid (le4_cells f lf)
      obtain ⟨p0, e0⟩ : ∃ p, 4 * k = p := ⟨_, rfl⟩
      obtain ⟨p1, e1⟩ : ∃ p, 4 * k + 1 = p := ⟨_, rfl⟩
      obtain ⟨p2, e2⟩ : ∃ p, 4 * k + 2 = p := ⟨_, rfl⟩
      obtain ⟨p3, e3⟩ : ∃ p, 4 * k + 3 = p := ⟨_, rfl⟩
      have i0 : (4 : Int) * (k : Int) = (p0 : Int) := by omega
      have i1 : (p0 : Int) + 1 = (p1 : Int) := by omega
      have i2 : (p0 : Int) + 2 = (p2 : Int) := by omega
      have i3 : (p0 : Int) + 3 = (p3 : Int) := by omega
      have HP := Lib.hid (show p0 = 4 * k ∧ p1 = p0 + 1 ∧ p2 = p0 + 2 ∧ p3 = p0 + 3 by omega)
      have r0 : (p0 : Int) < 64 := by omega
      have r1 : (p1 : Int) < 64 := by omega
      have r2 : (p2 : Int) < 64 := by omega
      have r3 : (p3 : Int) < 64 := by omega
      have n1 : p0 ≠ p1 := by omega
      have n2 : p0 ≠ p2 := by omega
      have n3 : p0 ≠ p3 := by omega
      have n4 : p1 ≠ p2 := by omega
      have n5 : p1 ≠ p3 := by omega
      have n6 : p2 ≠ p3 := by omega
      have j0 : IntKind.i64.wrap (p0 : Int) = p0 := by rw [IntKind.wrap_i64]; omega
      have j1 : IntKind.i64.wrap (p1 : Int) = p1 := by rw [IntKind.wrap_i64]; omega
      have j2 : IntKind.i64.wrap (p2 : Int) = p2 := by rw [IntKind.wrap_i64]; omega
      have j3 : IntKind.i64.wrap (p3 : Int) = p3 := by rw [IntKind.wrap_i64]; omega
      clear e0 e1 e2 e3 ef
      obtain ⟨v0, c0⟩ : ∃ v, wr.cell? ⟨w.heap.size + 2, p0, none⟩ = some v := ⟨_, (HX.out.2.2.cell p0).trans (List.getElem?_eq_getElem (by have := HX.out.1; omega))⟩
      obtain ⟨v1, c1⟩ : ∃ v, wr.cell? ⟨w.heap.size + 2, p1, none⟩ = some v := ⟨_, (HX.out.2.2.cell p1).trans (List.getElem?_eq_getElem (by have := HX.out.1; omega))⟩
      obtain ⟨v2, c2⟩ : ∃ v, wr.cell? ⟨w.heap.size + 2, p2, none⟩ = some v := ⟨_, (HX.out.2.2.cell p2).trans (List.getElem?_eq_getElem (by have := HX.out.1; omega))⟩
      obtain ⟨v3, c3⟩ : ∃ v, wr.cell? ⟨w.heap.size + 2, p3, none⟩ = some v := ⟨_, (HX.out.2.2.cell p3).trans (List.getElem?_eq_getElem (by have := HX.out.1; omega))⟩
      have f0 := HX.out.2.2.frozen p0
      have f1 := HX.out.2.2.frozen p1
      have f2 := HX.out.2.2.frozen p2
      have f3 := HX.out.2.2.frozen p3
      have k16 : (k : Int) < 16 := by omega
      have k0 : (0 : Int) ≤ (k : Int) := by omega
      go_wp2
      go_roundw
      case rel =>
        obtain ⟨h1, h2, h3⟩ := HX.out
        obtain ⟨g1, g2, g3⟩ := HR.out
        obtain ⟨q0, q1, q2, q3⟩ := HP.out
        refine ⟨k + 1, (((xs.set p0 (.int .u8 ((f : Int) % 256))).set p1 (.int .u8 ((f : Int) / 256 % 256))).set p2 (.int .u8 ((f : Int) / 65536 % 256))).set p3 (.int .u8 ((f : Int) / 16777216)), by omega, by go_num, Lib.hid ⟨by simp [h1], ?_, ?_⟩, Lib.hid ⟨?_, ?_, ?_⟩⟩
        · rw [HBS.out k, HF.out, Bytes.BV_append, HLE.out, ← h2, q1, q2, q3, ← q0, show 4 * (k + 1) = p0 + 4 by omega]
          exact set4 xs p0 _ _ _ _ (by omega)
        · exact (((h3.set p0 _).set p1 _).set p2 _).set p3 _
        · exact (((g1.set_far _ _ _ (by omega)).set_far _ _ _ (by omega)).set_far _ _ _ (by omega)).set_far _ _ _ (by omega)
        · exact (((g2.set_far _ _ _ (by omega)).set_far _ _ _ (by omega)).set_far _ _ _ (by omega)).set_far _ _ _ (by omega)
        · exact (((g3.setCell (show w.heap.size ≤ w.heap.size + 2 by omega) _).setCell (show w.heap.size ≤ w.heap.size + 2 by omega) _).setCell (show w.heap.size ≤ w.heap.size + 2 by omega) _).setCell (show w.heap.size ≤ w.heap.size + 2 by omega) _
      case measure => simp [intOf]; omega
    · obtain rfl : k = 16 := by omega
      obtain ⟨h1, h2, h3⟩ := HX.out
      have hxs : xs = BV Bk := by
        rw [HBL.out, ← h2, List.take_of_length_le (by omega)]
      have HLB := Lib.hid (show (BV Bk).length = 64 by rw [← hxs]; exact h1)
      rw [hxs] at h3
      have HRW := Lib.hid h3
      have HI4 := Lib.hid (show (Tryz.prog.info? 93).map (·.size) = some (BV Bk).toArray.size by rw [List.size_toArray, HLB.out]; exact info64)
      have H1 := Lib.hid (show (BV Bk).toArray.all (·.oneCell') = true from all_oneCell_toArray (Bytes.BV_one Bk))
      have HT := Lib.hid (show wr.there (w.heap.size + 1) 0 (BV Bk).toArray.size by have := HR.out.2.1.there; rw [Z1.out] at this; rw [show (BV Bk).toArray.size = 64 by rw [List.size_toArray, HLB.out]]; exact this)
      have HRES := Lib.hid (HR.out.2.1.sets_all (vs := BV Bk) (by rw [HLB.out, Z1.out]))
      have HBF := Lib.hid (Arr.below_sets (B := w.heap.size) (a := w) (w.heap.size + 1) (by omega) (BV Bk) 0 wr HR.out.2.2)
      clear h1 h2 h3 hxs HX HR
      generalize hus : BV Bk = us at *
      have HUS := Lib.hid hus
      clear hus
      go_wp2_with (first
        | ((with_reducible show wpList _ _ _ _ _ _); refine wpList_load_row rfl 93 _ rfl (w.heap.size + 2) rfl 93 _ (0, 0) _ HRW.out Tryz.underlying93 rfl HI4.out ?_)
        | ((with_reducible show wpList _ _ _ _ _ _); refine wpList_store_mid rfl 93 _ _ rfl (w.heap.size + 1) 0 us.toArray rfl rfl HT.out HI4.out H1.out ?_))
      refine bodyPost_ret (v := .agg us.toArray) ?_ rfl ⟨by rw [HUS.out], HBF.out⟩
      exact results_cell_row rfl _ _ (w.heap.size + 1) 93 _ (0, 0) _ rfl HRES.out Tryz.underlying93 rfl HI4.out
end Go.Proofs.YtggobhpjfflooaaGreatDoor.ChaOut
namespace Go.Proofs.YtggobhpjfflooaaGreatDoor.ChaFirst
open Go.ChangeShapes Go.WideShapes Go.ChangeAt Go.RowKit
open Arr (Row)
open XorInto (Only)
open Word (bN bN_lt bN_at bN_extract)
open Cha
set_option linter.unusedVariables false

theorem low_or (x0 x1 x2 x3 : Nat) (h0 : x0 < 256) (h1 : x1 < 256) (h2 : x2 < 256) (h3 : x3 < 256) :
    ((x0 ||| x1 * 256) ||| x2 * 65536) ||| x3 * 16777216 = x0 + x1 * 256 + x2 * 65536 + x3 * 16777216 := by
  rw [Nat.or_comm x0, Word.shl_or x1 x0 256 8 rfl h0, Nat.or_comm _ (x2 * 65536), Word.shl_or x2 _ 65536 16 rfl (by omega), Nat.or_comm _ (x3 * 16777216), Word.shl_or x3 _ 16777216 24 rfl (by omega)]
  omega
theorem u32_low (x0 x1 x2 x3 : Nat) (h0 : x0 < 256) (h1 : x1 < 256) (h2 : x2 < 256) (h3 : x3 < 256) :
    bits .or .u32 (bits .or .u32 (bits .or .u32 (x0 : Int) ((x1 : Int) * 256)) ((x2 : Int) * 65536)) ((x3 : Int) * 16777216) = ((x0 + x1 * 256 + x2 * 65536 + x3 * 16777216 : Nat) : Int) := by
  have e1 : (x1 : Int) * 256 = ((x1 * 256 : Nat) : Int) := by omega
  have e2 : (x2 : Int) * 65536 = ((x2 * 65536 : Nat) : Int) := by omega
  have e3 : (x3 : Int) * 16777216 = ((x3 * 16777216 : Nat) : Int) := by omega
  have l1 := Word.or_lt (a := x0) (b := x1 * 256) (by omega) (by omega)
  have l2 := Word.or_lt l1 (b := x2 * 65536) (by omega)
  rw [e1, e2, e3, u32_or_nat _ _ (by omega) (by omega), u32_or_nat _ _ l1 (by omega), u32_or_nat _ _ l2 (by omega), low_or x0 x1 x2 x3 h0 h1 h2 h3]

set_option maxRecDepth 100000 in
set_option maxHeartbeats 1600000 in
theorem lowWords (g o n cap : Nat) (t : TypeId) (xs : List Value) (s : ByteArray) (hs : 4 * n ≤ s.size) (hm : s.size ≤ 1000000) (ho : o + n ≤ xs.length) (w : World) (hr : Row w g t xs) :
    Calls Tryz.prog 32 #[.slice (some ⟨g, o, none⟩) n cap, .string s] w fun e' w' => e' = .returned (.tuple #[]) ∧
      Hid (Only g w w' ∧ ∃ ys, Row w' g t ys ∧ ys.length = xs.length ∧ (∀ j, j < n → ys[o + j]? = some (.int .u32 ((lw s j : Nat) : Int))) ∧ ∀ j, (j < o ∨ o + n ≤ j) → ys[j]? = xs[j]?) := by
  have HR := Lib.hid hr
  have HO := Lib.hid ho
  clear hr ho
  go_enter Tryz.func32, Tryz.ntmps32
  go_wp2
  go_loopw [8] (fun i wr => ∃ (k : Nat) (ys : List Value), k ≤ n ∧ i = .int .i64 k ∧ Hid (Only g w wr ∧ Row wr g t ys ∧ ys.length = xs.length ∧ (∀ j, j < k → ys[o + j]? = some (.int .u32 ((lw s j : Nat) : Int))) ∧ ∀ j, (j < o ∨ o + k ≤ j) → ys[j]? = xs[j]?)) (fun i _ => n - (intOf i).toNat)
  case atStart => exact ⟨0, xs, by omega, rfl, Lib.hid ⟨Only.refl _ _, HR.out, rfl, fun j h => by omega, fun j _ => rfl⟩⟩
  case round =>
    rename_i wr
    obtain ⟨k, ys, hk, rfl, HX⟩ := hrel
    by_cases hlt : k < n
    · obtain ⟨v0, c0⟩ : ∃ v, wr.cell? ⟨g, o + k, none⟩ = some v := ⟨_, (HX.out.2.1.cell (o + k)).trans (List.getElem?_eq_getElem (by have := HX.out.2.2.1; have := HO.out; omega))⟩
      have f0 := HX.out.2.1.frozen (o + k)
      have hkn : (k : Int) < (n : Int) := by omega
      have hk0 : (0 : Int) ≤ (k : Int) := by omega
      have h4a : 4 * k + 4 ≤ s.size := by omega
      have h4 : 4 * (k : Int) + 4 ≤ (s.size : Int) := by omega
      have hxb : (s.extract (4 * k) (4 * k + 4)).size = 4 := by rw [ByteArray.size_extract]; omega
      have y0 := bN_extract s (4 * k) (4 * k + 4) 0 (by omega)
      have y1 := bN_extract s (4 * k) (4 * k + 4) 1 (by omega)
      have y2 := bN_extract s (4 * k) (4 * k + 4) 2 (by omega)
      have y3 := bN_extract s (4 * k) (4 * k + 4) 3 (by omega)
      have Y := Lib.hid (And.intro hxb (And.intro y0 (And.intro y1 (And.intro y2 y3))))
      clear hxb y0 y1 y2 y3
      go_wp2
      generalize s.extract (4 * k) (4 * k + 4) = B at *
      obtain ⟨x0, e0, hx0⟩ : ∃ x : Nat, bN s (4 * k) = x ∧ x < 256 := ⟨_, rfl, bN_lt _ _⟩
      obtain ⟨x1, e1, hx1⟩ : ∃ x : Nat, bN s (4 * k + 1) = x ∧ x < 256 := ⟨_, rfl, bN_lt _ _⟩
      obtain ⟨x2, e2, hx2⟩ : ∃ x : Nat, bN s (4 * k + 2) = x ∧ x < 256 := ⟨_, rfl, bN_lt _ _⟩
      obtain ⟨x3, e3, hx3⟩ : ∃ x : Nat, bN s (4 * k + 3) = x ∧ x < 256 := ⟨_, rfl, bN_lt _ _⟩
      have b3 : 3 < B.size := by rw [Y.out.1]; omega
      have b2 : 2 < B.size := by omega
      have b1 : 1 < B.size := by omega
      have b0 : 0 < B.size := by omega
      have q0 : B[0].toNat = x0 := by rw [bN_at, Y.out.2.1]; exact e0
      have q1 : B[1].toNat = x1 := by rw [bN_at, Y.out.2.2.1]; exact e1
      have q2 : B[2].toNat = x2 := by rw [bN_at, Y.out.2.2.2.1]; exact e2
      have q3 : B[3].toNat = x3 := by rw [bN_at, Y.out.2.2.2.2]; exact e3
      have HM := Lib.hid (show lw s k = x0 + x1 * 256 + x2 * 65536 + x3 * 16777216 by unfold lw; rw [e0, e1, e2, e3])
      clear e0 e1 e2 e3 Y
      have c3' : (3 : Int) < (B.size : Int) := by omega
      have c2' : (2 : Int) < (B.size : Int) := by omega
      have c1' : (1 : Int) < (B.size : Int) := by omega
      have v0a : IntKind.u32.wrap (x0 : Int) = x0 := by rw [IntKind.wrap_u32']; omega
      have v1a : IntKind.u32.wrap (x1 : Int) = x1 := by rw [IntKind.wrap_u32']; omega
      have v2a : IntKind.u32.wrap (x2 : Int) = x2 := by rw [IntKind.wrap_u32']; omega
      have v3a : IntKind.u32.wrap (x3 : Int) = x3 := by rw [IntKind.wrap_u32']; omega
      have v3b : IntKind.u32.wrap ((x3 : Int) * 16777216) = (x3 : Int) * 16777216 := by rw [IntKind.wrap_u32']; omega
      have v1b : IntKind.u32.wrap ((x1 : Int) * 256) = (x1 : Int) * 256 := by rw [IntKind.wrap_u32']; omega
      have v2b : IntKind.u32.wrap ((x2 : Int) * 65536) = (x2 : Int) * 65536 := by rw [IntKind.wrap_u32']; omega
      go_still_tail 20, (by kernel_rfl)
      change wpList _ _ _ _ _ wr.drew
      clear v0a v1a v2a v3a v3b v1b v2b
      go_wp2
      rw [u32_low x0 x1 x2 x3 hx0 hx1 hx2 hx3, ← HM.out]
      go_roundw
      case rel =>
        obtain ⟨h1, h2, h3, h4, h5⟩ := HX.out
        refine ⟨k + 1, ys.set (o + k) (.int .u32 (lw s k : Int)), by omega, by go_num, Lib.hid ⟨(h1.set _ _).drew, (h2.set _ _).drew, by simp [h3], fun j hj => ?_, fun j hj => ?_⟩⟩
        · by_cases e : j = k
          · rw [e, List.getElem?_set_self (by have := HO.out; omega)]
          · rw [List.getElem?_set_ne (by omega)]; exact h4 j (by omega)
        · rw [List.getElem?_set_ne (by omega)]; exact h5 j (by omega)
      case measure => simp [intOf]; omega
    · have hk2 := Lib.hid (show k = n by omega)
      go_wp2
      go_end0
      obtain ⟨h1, h2, h3, h4, h5⟩ := HX.out
      rw [hk2.out] at h4 h5
      exact ⟨rfl, Lib.hid ⟨h1, ys, h2, h3, h4, h5⟩⟩

theorem first_at (key nonce : ByteArray) (count : Nat) (zs : List Value) (hl : zs.length = 16) (h0 : ∀ j, j < 4 → zs[j]? = some (.int .u32 ((lw opening j : Nat) : Int))) (h1 : ∀ j, j < 8 → zs[4 + j]? = some (.int .u32 ((lw key j : Nat) : Int)))
    (h2 : zs[12]? = some (.int .u32 ((count % 4294967296 : Nat) : Int))) (h3 : ∀ j, j < 3 → zs[13 + j]? = some (.int .u32 ((lw nonce j : Nat) : Int))) : zs = c32 (first key nonce count) := by
  apply List.ext_getElem?
  intro i
  by_cases hi : i < 16
  · match i, hi with
    | 0, _ => exact h0 0 (by omega)
    | 1, _ => exact h0 1 (by omega)
    | 2, _ => exact h0 2 (by omega)
    | 3, _ => exact h0 3 (by omega)
    | 4, _ => exact h1 0 (by omega)
    | 5, _ => exact h1 1 (by omega)
    | 6, _ => exact h1 2 (by omega)
    | 7, _ => exact h1 3 (by omega)
    | 8, _ => exact h1 4 (by omega)
    | 9, _ => exact h1 5 (by omega)
    | 10, _ => exact h1 6 (by omega)
    | 11, _ => exact h1 7 (by omega)
    | 12, _ => exact h2
    | 13, _ => exact h3 0 (by omega)
    | 14, _ => exact h3 1 (by omega)
    | 15, _ => exact h3 2 (by omega)
    | n + 16, h => exact absurd h (by omega)
  · rw [List.getElem?_eq_none (by omega), List.getElem?_eq_none (by rw [c32_len, (first_ok key nonce count).len]; omega)]

set_option maxRecDepth 100000 in
set_option maxHeartbeats 1600000 in
theorem firstWords (key nonce : ByteArray) (hk : key.size = 32) (hn : nonce.size = 12) (count : Nat) (hc : count ≤ 1100000000) (w : World) :
    Calls Tryz.prog 53 #[.string key, .string nonce, .int .i64 (count : Int)] w fun e' w' => e' = .returned (.agg (c32 (first key nonce count)).toArray) ∧ Below w.heap.size w w' := by
  have HK := Lib.hid hk
  have HN := Lib.hid hn
  have HF := Lib.hid (first_at key nonce count)
  have HFO := Lib.hid (first_ok key nonce count)
  have HO := Lib.hid (show opening.size = 16 from rfl)
  have HOP := Lib.hid (show (⟨#[101, 120, 112, 97, 110, 100, 32, 51, 50, 45, 98, 121, 116, 101, 32, 107]⟩ : ByteArray) = opening from rfl)
  have hcw : IntKind.u32.wrap (count : Int) = ((count % 4294967296 : Nat) : Int) := by rw [IntKind.wrap_u32']; omega
  generalize count % 4294967296 = cw at *
  generalize first key nonce count = FW at *
  generalize opening = op at *
  clear hk hn
  go_enter Tryz.func53, Tryz.ntmps53
  go_wp2_with fail
  rw [HOP.out]
  generalize hW : (w.alloc _).alloc _ = W
  obtain ⟨z0, z1, hz0, hz1, RR⟩ : ∃ z0 z1 : List Value, z0.length = 16 ∧ z1.length = 16 ∧ Row W w.heap.size 91 z0 ∧ Row W (w.heap.size + 1) 91 z1 ∧ Below w.heap.size w W ∧ w.heap.size + 2 ≤ W.heap.size := by
    rw [← hW]
    exact ⟨_, _, rfl, rfl, Arr.two_new w _ _ _ _⟩
  clear hW
  have Z0 := Lib.hid hz0
  have HR := Lib.hid RR
  clear RR hz0
  refine (lowWords (w.heap.size + 1) 0 4 _ 91 z1 op (by rw [HO.out]; omega) (by rw [HO.out]; omega) (by omega) W HR.out.2.1).mono ?_
  rintro e' w1 ⟨rfl, H1⟩
  obtain ⟨o1, ys1, r1, l1, p1, q1⟩ := H1.out
  have E1 := Lib.hid p1
  have O1 := Lib.hid (show Row w1 w.heap.size 91 z0 ∧ Below w.heap.size w w1 from ⟨(o1.block w.heap.size (by omega)).trans HR.out.1, HR.out.2.2.1.trans (o1.below (by omega))⟩)
  have R1 := Lib.hid r1
  rw [hz1] at l1
  have L1 := Lib.hid l1
  clear H1 o1 r1 p1 q1 l1 HR
  go_wp2_with fail
  refine (lowWords (w.heap.size + 1) 4 8 _ 91 ys1 key (by rw [HK.out]; omega) (by rw [HK.out]; omega) (by have := L1.out; omega) w1 R1.out).mono ?_
  rintro e' w2 ⟨rfl, H2⟩
  obtain ⟨o2, ys2, r2, l2, p2, q2⟩ := H2.out
  have E2 := Lib.hid (show (∀ j, j < 4 → ys2[j]? = some (.int .u32 ((lw op j : Nat) : Int))) ∧ ∀ j, j < 8 → ys2[4 + j]? = some (.int .u32 ((lw key j : Nat) : Int)) from ⟨fun j hj => by rw [q2 j (by omega)]; have := E1.out j hj; rwa [Nat.zero_add] at this, p2⟩)
  have O2 := Lib.hid (show Row w2 w.heap.size 91 z0 ∧ Below w.heap.size w w2 from ⟨(o2.block w.heap.size (by omega)).trans O1.out.1, O1.out.2.trans (o2.below (by omega))⟩)
  have R2 := Lib.hid r2
  rw [L1.out] at l2
  have L2 := Lib.hid l2
  have f12 := r2.frozen 12
  obtain ⟨v12, c12⟩ : ∃ v, w2.cell? ⟨w.heap.size + 1, 12, none⟩ = some v := ⟨_, (r2.cell 12).trans (List.getElem?_eq_getElem (by omega))⟩
  clear H2 o2 r2 p2 q2 l2 E1 O1 R1 L1
  go_wp2_with fail
  refine (lowWords (w.heap.size + 1) 13 3 _ 91 (ys2.set 12 (.int .u32 (cw : Int))) nonce (by rw [HN.out]; omega) (by rw [HN.out]; omega) (by have := L2.out; simp; omega) _ (R2.out.set 12 _)).mono ?_
  rintro e' w3 ⟨rfl, H3⟩
  obtain ⟨o3, ys3, r3, l3, p3, q3⟩ := H3.out
  have hys : ys3 = c32 FW := by
    refine HF.out ys3 (by rw [l3]; simp; exact L2.out) (fun j hj => ?_) (fun j hj => ?_) ?_ p3
    · rw [q3 j (by omega), List.getElem?_set_ne (by omega)]; exact E2.out.1 j hj
    · rw [q3 (4 + j) (by omega), List.getElem?_set_ne (by omega)]; exact E2.out.2 j hj
    · rw [q3 12 (by omega), List.getElem?_set_self (by have := L2.out; omega)]
  rw [hys] at r3
  have HRW := Lib.hid r3
  have HI4 := Lib.hid (infoUV HFO.out)
  have H1 := Lib.hid (c32_one FW)
  have HRW0 := Lib.hid (show Row w3 w.heap.size 91 z0 from (o3.block w.heap.size (by omega)).trans (O2.out.1.set_far _ _ _ (by omega)))
  have HT := Lib.hid (show w3.there w.heap.size 0 (c32 FW).toArray.size by have := HRW0.out.there; rw [Z0.out] at this; rw [show (c32 FW).toArray.size = 16 by rw [List.size_toArray, c32_len, HFO.out.len]]; exact this)
  have HRES := Lib.hid (HRW0.out.sets_all (vs := c32 FW) (by rw [c32_len, HFO.out.len, Z0.out]))
  have HBF := Lib.hid (Arr.below_sets (B := w.heap.size) (a := w) w.heap.size (Nat.le_refl _) (c32 FW) 0 w3 ((O2.out.2.setCell (show w.heap.size ≤ w.heap.size + 1 by omega) _).trans (o3.below (by omega))))
  clear H3 o3 r3 p3 q3 l3 hys E2 O2 R2 L2 HRW0 f12 c12
  generalize hus : c32 FW = us at *
  have HUS := Lib.hid hus
  clear hus
  go_wp2_with (first
    | ((with_reducible show wpList _ _ _ _ _ _); refine wpList_load_row rfl 91 _ rfl (w.heap.size + 1) rfl 91 _ (0, 0) _ HRW.out Tryz.underlying91 rfl HI4.out ?_)
    | ((with_reducible show wpList _ _ _ _ _ _); refine wpList_store_mid rfl 91 _ _ rfl w.heap.size 0 us.toArray rfl rfl HT.out HI4.out H1.out ?_))
  refine bodyPost_ret (v := .agg us.toArray) ?_ rfl ⟨by rw [HUS.out], HBF.out⟩
  exact results_cell_row rfl _ _ w.heap.size 91 _ (0, 0) _ rfl HRES.out Tryz.underlying91 rfl HI4.out
end Go.Proofs.YtggobhpjfflooaaGreatDoor.ChaFirst
namespace Go.Proofs.YtggobhpjfflooaaGreatDoor.ChaBlk
open Go.ChangeShapes Go.WideShapes Go.ChangeAt Go.RowKit
open Arr (Row)
open Bytes (BV)
open Cha
set_option linter.unusedVariables false

/-- The block of a key, a nonce and a count. -/
def blkT (key nonce : ByteArray) (count : Nat) : ByteArray := ⟨(Cha.blk (first key nonce count)).toArray⟩
theorem blkT_size (key nonce : ByteArray) (count : Nat) : (blkT key nonce count).size = 64 := by
  show (Cha.blk (first key nonce count)).toArray.size = 64
  rw [List.size_toArray, Cha.blk_length]
/-- The code of what is handed in. -/
def ask (key nonce : ByteArray) (count : Int) : Int :=
  if key.size ≠ 32 ∨ nonce.size ≠ 12 then 8 else if count < 0 ∨ 1000000000 < count then 4 else 0
def fault (key nonce : ByteArray) (count : Int) : Int :=
  if 65536 < key.size ∨ 65536 < nonce.size then 2 else ask key nonce count

theorem fault_zero {key nonce : ByteArray} {count : Int} (h : fault key nonce count = 0) : key.size = 32 ∧ nonce.size = 12 ∧ 0 ≤ count ∧ count ≤ 1000000000 := by
  unfold fault ask at h
  split at h
  · omega
  · split at h
    · omega
    · split at h
      · omega
      · omega
theorem fault_cases (key nonce : ByteArray) (count : Int) : fault key nonce count = 0 ∨ (fault key nonce count != 0) = true := by
  by_cases h : fault key nonce count = 0
  · exact .inl h
  · exact .inr (by simpa using h)
/-- What the calls of a block answer. -/
def res (key nonce : ByteArray) (count : Int) : Value :=
  if fault key nonce count = 0 then .tuple #[.string (blkT key nonce count.toNat), .int .i64 0] else .tuple #[.string ⟨#[]⟩, .int .i64 (fault key nonce count)]

theorem kept_string (w : World) (us : List UInt8) (g : Nat) (hl : us.length = 64) (hr : Row w g 93 (BV us)) :
    (convert 22 9 (.slice (some ⟨g, 0, none⟩) 64 64)).run Tryz.prog w = .ok (.string ⟨us.toArray⟩) w := by
  have := run_convert_bytes_back (P := Tryz.prog) w 22 9 5 ⟨g, 0, none⟩ 64 us Tryz.underlying22 Tryz.underlying5 Tryz.underlying9 (fun j hj => by
    have hadd : (⟨g, 0, none⟩ : Addr).add j = ⟨g, j, none⟩ := by unfold Addr.add; split <;> simp_all
    rw [hadd, hr.cell]
    simp [BV, List.getElem?_eq_getElem hj])
  rw [hl] at this
  exact this

theorem there_new (w : World) (z : Array Value) (t : TypeId) (n : Nat) (h : z.size = n) : (w.alloc (.cells z t)).there w.heap.size 0 n := by
  have := (Arr.row_new w z t).there
  rw [show z.toList.length = n from h] at this
  exact this
theorem store_new (w w2 : World) (z : Array Value) (us : List UInt8) (W3 : World) (h : (w2.alloc (.cells z 93)).setCells w2.heap.size 0 (BV us).toArray.toList = W3) (hz : z.size = 64) (hl : us.length = 64) (hb : Below w.heap.size w w2) :
    Row W3 w2.heap.size 93 (BV us) ∧ Below w.heap.size w W3 := by
  rw [← h]
  exact ⟨(Arr.row_new w2 z _).sets_all (by rw [Bytes.BV_length, hl]; exact hz.symm), Arr.below_sets _ hb.size _ _ _ (hb.alloc hb.size _)⟩

end Go.Proofs.YtggobhpjfflooaaGreatDoor.ChaBlk
