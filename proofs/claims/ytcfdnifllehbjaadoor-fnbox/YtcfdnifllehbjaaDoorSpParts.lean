/-
  What is proved: the model's five parts of a text of 17 bytes are the plain ones (contract for the walks).
-/
import Derived.Test.YtcfdnifllehbjaaDoorRows
import Derived.Test.YtcfdnifllehbjaaDoorFive
namespace Go.Proofs.YtcfdnifllehbjaaDoor.SpParts
open Go.ChangeShapes Go.WideShapes Go.ChangeAt Go.RowKit
open Arr (Row)
open Five Poly
open Word (bN bN_lt bN_at)
set_option linter.unusedVariables false

theorem i64_wrap (x : Nat) (h : x < 9223372036854775808) : IntKind.i64.wrap (x : Int) = (x : Int) := by rw [IntKind.wrap_i64]; omega
theorem i64_mask26 (x : Nat) (h : x < 9223372036854775808) : bits .and .i64 (x : Int) 67108863 = ((x % 67108864 : Nat) : Int) := by
  have := Word.i64_and x 67108863 h (by omega)
  rw [nat_mask26] at this
  exact this
theorem sp_set1 (f : Nat → Nat) (i q s : Nat) (hi : i < 17) (hq : 8 * i / 26 = q) (hs : sp f i q + f i * 2 ^ (8 * i % 26) % 67108864 = s) (hc : ¬ (18 < 8 * i % 26 ∧ q < 4)) :
    (cn .i64 (sp f i)).set q (.int .i64 (s : Int)) = cn .i64 (sp f (i + 1)) := by
  refine cn_set .i64 _ _ q _ (by omega) ?_ ?_
  · rw [sp, if_pos hq, hs]
  · intro j hj hne
    rw [sp, if_neg (by omega), if_neg (by omega)]
theorem sp_set2 (f : Nat → Nat) (i q s s2 : Nat) (hi : i < 17) (hq : 8 * i / 26 = q) (hs : sp f i q + f i * 2 ^ (8 * i % 26) % 67108864 = s) (hc : 18 < 8 * i % 26 ∧ q < 4) (hs2 : sp f i (q + 1) + f i / 2 ^ (26 - 8 * i % 26) = s2) :
    ((cn .i64 (sp f i)).set q (.int .i64 (s : Int))).set (q + 1) (.int .i64 (s2 : Int)) = cn .i64 (sp f (i + 1)) := by
  rw [cn_set .i64 (sp f i) (fun j => if q = j then s else sp f i j) q _ (by omega) (by rw [if_pos rfl]) (fun j hj hne => (if_neg (by omega)).symm)]
  refine cn_set .i64 _ _ (q + 1) _ (by omega) ?_ ?_
  · rw [sp, if_neg (by omega), if_pos (by omega), hs2]
  · intro j hj hne
    by_cases e : q = j
    · rw [if_pos e, sp, if_pos (by omega), ← e, hs]
    · rw [if_neg e, sp, if_neg (by omega), if_neg (by omega)]

set_option maxRecDepth 100000 in
set_option maxHeartbeats 1600000 in
theorem l03Parts (t : ByteArray) (ht : t.size = 17) (w : World) :
    Calls Tryd.prog 65 #[.string t] w fun e' w' => e' = .returned (.agg (cn .i64 (sp (bN t) 17)).toArray) ∧ Below w.heap.size w w' := by
  have HRL := Lib.hid (sp_le (bN_lt t))
  have HS1 := Lib.hid (sp_set1 (bN t))
  have HS2 := Lib.hid (sp_set2 (bN t))
  have HTS := Lib.hid ht
  have ht0 : (t.size : Int) = 17 := by omega
  clear ht
  go_enter Tryd.func65, Tryd.ntmps65
  have HW := Lib.hid (Arr.two_new w)
  go_wp2
  generalize hW : (w.alloc _).alloc _ = W
  obtain ⟨z1, hz1, R0, R1, HB, hsz⟩ : ∃ z1 : List Value, z1.length = 5 ∧ Row W w.heap.size 87 z1 ∧ Row W (w.heap.size + 1) 87 (cn .i64 (sp (bN t) 0)) ∧ Below w.heap.size w W ∧ w.heap.size + 2 ≤ W.heap.size := by
    rw [← hW]
    exact ⟨_, rfl, HW.out _ _ _ _⟩
  clear hW HW
  have Z1 := Lib.hid hz1
  have RR := Lib.hid (show Row W w.heap.size 87 z1 ∧ Row W (w.heap.size + 1) 87 (cn .i64 (sp (bN t) 0)) ∧ Below w.heap.size w W from ⟨R0, R1, HB⟩)
  clear hz1 R0 R1 HB hsz
  go_loopw [4] (fun i wz => ∃ (k : Nat) (wr : World), k ≤ 17 ∧ i = .int .i64 k ∧ wr = wz ∧ Hid (Row wr w.heap.size 87 z1 ∧ Row wr (w.heap.size + 1) 87 (cn .i64 (sp (bN t) k)) ∧ Below w.heap.size w wr)) (fun i _ => 17 - (intOf i).toNat)
  case atStart => exact ⟨0, _, by omega, rfl, rfl, RR⟩
  case round =>
    clear RR
    obtain ⟨k, wr, hk, rfl, rfl, HX⟩ := hrel
    by_cases hlt : k < 17
    · obtain ⟨q, eq⟩ : ∃ q, 8 * k / 26 = q := ⟨_, rfl⟩
      obtain ⟨r, er⟩ : ∃ r, 8 * k % 26 = r := ⟨_, rfl⟩
      obtain ⟨p, ep⟩ : ∃ p, 8 * k = p := ⟨_, rfl⟩
      have hq : q < 5 := by omega
      have hr : r < 26 := by omega
      have c0 := HX.out.2.1.cell q
      rw [cn_at .i64 _ q hq] at c0
      have f0 := HX.out.2.1.frozen q
      have i17 : (k : Int) < 17 := by omega
      have i1 : (k : Int) < (t.size : Int) := by omega
      have i0 : (0 : Int) ≤ (k : Int) := by omega
      have e0 : (8 : Int) * (k : Int) = (p : Int) := by omega
      have e1 : (p : Int) / 26 = (q : Int) := by omega
      have e1t : (p : Int).tdiv 26 = (q : Int) := by rw [Int.tdiv_eq_ediv_of_nonneg (by omega)]; omega
      have e2 : (p : Int) % 26 = (r : Int) := by omega
      have e2t : (p : Int).tmod 26 = (r : Int) := by rw [Int.tmod_eq_emod_of_nonneg (by omega)]; omega
      have wp : IntKind.i64.wrap (p : Int) = p := by rw [IntKind.wrap_i64]; omega
      have wq : IntKind.i64.wrap (q : Int) = q := by rw [IntKind.wrap_i64]; omega
      have wr1 : IntKind.i64.wrap (r : Int) = r := by rw [IntKind.wrap_i64]; omega
      have q1 : (q : Int) < 5 := by omega
      have q0 : (0 : Int) ≤ (q : Int) := by omega
      have r0 : (0 : Int) ≤ (r : Int) := by omega
      have y0 : t[k]'(by have := HTS.out; omega) = t[k]'(by have := HTS.out; omega) := rfl
      have hkt : k < t.size := by have := HTS.out; omega
      have y1 : t[k].toNat = bN t k := bN_at t k hkt
      clear y0
      have hb := bN_lt t k
      have hpw : 2 ^ r ≤ 33554432 := by rw [← er]; exact pow_le k
      have hxl := Nat.mul_le_mul (Nat.le_of_lt hb) hpw
      have hol := Nat.le_trans (HRL.out k q) (Nat.mul_le_mul_right _ hk)
      have hol2 := Nat.le_trans (HRL.out k (q + 1)) (Nat.mul_le_mul_right _ hk)
      have HSET1 := Lib.hid (fun s => HS1.out k q s hlt eq)
      have HSET2 := Lib.hid (fun s s2 => HS2.out k q s s2 hlt eq)
      rw [er] at HSET1 HSET2
      obtain ⟨x, ex⟩ : ∃ x, bN t k * 2 ^ r = x := ⟨_, rfl⟩
      rw [ex] at HSET1 HSET2 hxl
      have wb : IntKind.i64.wrap (bN t k : Int) = (bN t k : Int) := i64_wrap _ (by omega)
      have hsh : IntKind.i64.wrap ((bN t k : Int) * 2 ^ r) = (x : Int) := by
        have e10 : (bN t k : Int) * 2 ^ r = (x : Int) := by rw [← ex]; simp
        rw [e10, i64_wrap x (by omega)]
      have hand := i64_mask26 x (by omega)
      obtain ⟨y, ey⟩ : ∃ y, x % 67108864 = y := ⟨_, rfl⟩
      have hy : y < 67108864 := by omega
      rw [ey] at HSET1 HSET2 hand
      obtain ⟨sb, esb⟩ : ∃ sb, 26 - r = sb := ⟨_, rfl⟩
      obtain ⟨z, ez⟩ : ∃ z, bN t k / 2 ^ sb = z := ⟨_, rfl⟩
      have hzl : z ≤ bN t k := by rw [← ez]; exact Nat.div_le_self _ _
      rw [esb, ez] at HSET2
      have e3 : (26 : Int) - (r : Int) = (sb : Int) := by omega
      have wsb : IntKind.i64.wrap (sb : Int) = sb := by rw [IntKind.wrap_i64]; omega
      have sb0 : (0 : Int) ≤ (sb : Int) := by omega
      have hdv : (bN t k : Int) / 2 ^ sb = (z : Int) := by rw [← ez]; simp
      have hnn : 0 ≤ (bN t k : Int) := by omega
      by_cases hc : 18 < r ∧ q < 4
      · have t1 : (18 : Int) < (r : Int) := by omega
        have t2 : (q : Int) < 4 := by omega
        have c1 := HX.out.2.1.cell (q + 1)
        rw [cn_at .i64 _ (q + 1) (by omega)] at c1
        have f1 := HX.out.2.1.frozen (q + 1)
        have HCQ := Lib.hid (cn_at .i64 (sp (bN t) k) (q + 1) (by omega))
        generalize ho : sp (bN t) k q = o at *
        generalize ho2 : sp (bN t) k (q + 1) = o2 at *
        have hwo : IntKind.i64.wrap ((o : Int) + (y : Int)) = ((o + y : Nat) : Int) := by rw [← i64_wrap (o + y) (by omega)]; rfl
        have hwo2 : IntKind.i64.wrap ((o2 : Int) + (z : Int)) = ((o2 + z : Nat) : Int) := by rw [← i64_wrap (o2 + z) (by omega)]; rfl
        generalize o + y = s at *
        generalize o2 + z = s2 at *
        generalize bN t k = bk at *
        obtain ⟨q', eq'⟩ : ∃ q', q + 1 = q' := ⟨_, rfl⟩
        have e5 : (q : Int) + 1 = (q' : Int) := by omega
        have q3 : (q' : Int) < 5 := by omega
        have q4 : (0 : Int) ≤ (q' : Int) := by omega
        have wq' : IntKind.i64.wrap (q' : Int) = q' := by rw [IntKind.wrap_i64]; omega
        have hne : q ≠ q' := by omega
        have hne2 : q' ≠ q := by omega
        rw [eq'] at c1 f1 HSET2 HCQ
        have HC := Lib.hid hc
        clear ho ho2 hol hol2 hxl hpw ex er ep eq hr ey hy hzl ez esb hb eq' hq hc
        have q2 : ∀ k', (World.mk wr.heap wr.tape k' wr.os wr.output).cell? ⟨w.heap.size + 1, q, none⟩ = some (.int .i64 (o : Int)) := fun _ => c0
        go_wp2
        go_still_tail 11, (by kernel_rfl)
        clear q2
        change wpList _ _ _ _ _ wr.drew
        go_wp2
        generalize hW2 : (wr.setCell _ _).drew = W2
        have HR2 : Hid (Row W2 w.heap.size 87 z1 ∧ Row W2 (w.heap.size + 1) 87 ((cn .i64 (sp (bN t) k)).set q (.int .i64 (s : Int))) ∧ Below w.heap.size w W2) := by
          rw [← hW2]
          exact Lib.hid ⟨(HX.out.1.set_far _ _ _ (by omega)).drew, (HX.out.2.1.set q _).drew, (HX.out.2.2.setCell (show w.heap.size ≤ w.heap.size + 1 by omega) _).drew⟩
        have c2 : W2.cell? ⟨w.heap.size + 1, q', none⟩ = some (.int .i64 (o2 : Int)) := (HR2.out.2.1.cell q').trans (by rw [List.getElem?_set_ne hne]; exact HCQ.out)
        have f2 := HR2.out.2.1.frozen q'
        clear hW2 c0 c1 f0 f1
        have q2 : ∀ k', (World.mk W2.heap W2.tape k' W2.os W2.output).cell? ⟨w.heap.size + 1, q', none⟩ = some (.int .i64 (o2 : Int)) := fun _ => c2
        go_still_tail 12, (by kernel_rfl)
        clear q2
        change wpList _ _ _ _ _ W2.drew
        go_wp2
        go_roundw
        case rel =>
          obtain ⟨h1, h2, h3⟩ := HR2.out
          refine ⟨k + 1, _, by omega, by go_num, rfl, Lib.hid ⟨(h1.set_far _ _ _ (by omega)).drew, ?_, (h3.setCell (show w.heap.size ≤ w.heap.size + 1 by omega) _).drew⟩⟩
          rw [← HSET2.out s s2 rfl HC.out rfl]
          exact (h2.set q' _).drew
        case measure => simp [intOf]; omega
      · generalize ho : sp (bN t) k q = o at *
        have hwo : IntKind.i64.wrap ((o : Int) + (y : Int)) = ((o + y : Nat) : Int) := by rw [← i64_wrap (o + y) (by omega)]; rfl
        generalize o + y = s at *
        generalize bN t k = bk at *
        have HC := Lib.hid hc
        have q2 : ∀ k', (World.mk wr.heap wr.tape k' wr.os wr.output).cell? ⟨w.heap.size + 1, q, none⟩ = some (.int .i64 (o : Int)) := fun _ => c0
        by_cases t1 : (18 : Int) < (r : Int)
        · have t2 : ¬ (q : Int) < 4 := by omega
          clear ho hol hol2 hxl hpw ex er ep eq hr ey hy hzl ez esb hb hq hc HSET2
          go_wp2
          go_still_tail 11, (by kernel_rfl)
          clear q2
          change wpList _ _ _ _ _ wr.drew
          go_wp2
          go_roundw
          case rel =>
            obtain ⟨h1, h2, h3⟩ := HX.out
            refine ⟨k + 1, _, by omega, by go_num, rfl, Lib.hid ⟨(h1.set_far _ _ _ (by omega)).drew, ?_, (h3.setCell (show w.heap.size ≤ w.heap.size + 1 by omega) _).drew⟩⟩
            rw [← HSET1.out s rfl HC.out]
            exact (h2.set q _).drew
          case measure => simp [intOf]; omega
        · clear ho hol hol2 hxl hpw ex er ep eq hr ey hy hzl ez esb hb hq hc HSET2
          go_wp2
          go_still_tail 11, (by kernel_rfl)
          clear q2
          change wpList _ _ _ _ _ wr.drew
          go_wp2
          go_roundw
          case rel =>
            obtain ⟨h1, h2, h3⟩ := HX.out
            refine ⟨k + 1, _, by omega, by go_num, rfl, Lib.hid ⟨(h1.set_far _ _ _ (by omega)).drew, ?_, (h3.setCell (show w.heap.size ≤ w.heap.size + 1 by omega) _).drew⟩⟩
            rw [← HSET1.out s rfl HC.out]
            exact (h2.set q _).drew
          case measure => simp [intOf]; omega
    · obtain rfl : k = 17 := by omega
      obtain ⟨h1, h2, h3⟩ := HX.out
      have HRR := Lib.hid h2
      have HT := Lib.hid (there_row h1 Z1.out .i64 (sp (bN t) 17))
      have HRES := Lib.hid (sets_row h1 Z1.out .i64 (sp (bN t) 17))
      have HBF := Lib.hid (Arr.below_sets (B := w.heap.size) (a := w) w.heap.size (Nat.le_refl _) (cn .i64 (sp (bN t) 17)) 0 wr h3)
      have HI4 := Lib.hid (infoI (sp (bN t) 17))
      have H1 := Lib.hid (cn_one .i64 (sp (bN t) 17))
      clear h1 h2 h3 HX HRL HS1 HS2
      generalize hus : cn .i64 (sp (bN t) 17) = us at *
      have HUS := Lib.hid hus
      clear hus
      go_wp2_with (first
        | ((with_reducible show wpList _ _ _ _ _ _); refine wpList_load_row rfl 87 _ rfl (w.heap.size + 1) rfl 87 _ (0, 0) _ HRR.out Tryd.underlying87 rfl HI4.out ?_)
        | ((with_reducible show wpList _ _ _ _ _ _); refine wpList_store_mid rfl 87 _ _ rfl w.heap.size 0 us.toArray rfl rfl HT.out HI4.out H1.out ?_))
      refine bodyPost_ret (v := .agg us.toArray) ?_ rfl ⟨by rw [HUS.out], HBF.out⟩
      exact results_cell_row rfl _ _ w.heap.size 87 _ (0, 0) _ rfl HRES.out Tryd.underlying87 rfl HI4.out
end Go.Proofs.YtcfdnifllehbjaaDoor.SpParts
