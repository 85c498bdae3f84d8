/-
  What is proved: the model's five parts of a text of 17 bytes are the plain ones (contract for the walks).
  What is proved: the model's carrying of five parts is the plain folding, done three times (contract for the walks).
  What is proved: the model's product of two numbers in five parts is the plain one (contract for the walks).
  What is proved: the model's least number modulo 2 to the 130 less 5 is the plain one (contract for the walks).
  What is proved: plain facts on bytes that are added one by one, and on a text with bytes 0 behind. Nothing of the program.
  What is proved: the model's tag is the plain one (contract for the walks).
-/
import Derived.Test.YtggobhpjfflooaaGreatDoorRows
import Derived.Test.YtggobhpjfflooaaGreatDoorPolyA
import Derived.Test.YtggobhpjfflooaaGreatDoorKitA
namespace Go.Proofs.YtggobhpjfflooaaGreatDoor.SpParts
open Go.ChangeShapes Go.WideShapes Go.ChangeAt Go.RowKit
open Arr (Row)
open Five Poly
open Word (bN bN_lt bN_at)
set_option linter.unusedVariables false

theorem i64_wrap (x : Nat) (h : x < 9223372036854775808) : IntKind.i64.wrap (x : Int) = (x : Int) := by rw [IntKind.wrap_i64]; omega
theorem i64_mask26 (x : Nat) (h : x < 9223372036854775808) : bits .and .i64 (x : Int) 67108863 = ((x % 67108864 : Nat) : Int) := by
  have := Word.i64_and x 67108863 h (by omega)
  rw [nat_mask26] at this
  exact this
theorem sp_set1 (f : Nat → Nat) (i q s : Nat) (hi : i < 17) (hq : 8 * i / 26 = q) (hs : sp f i q + f i * 2 ^ (8 * i % 26) % 67108864 = s) (hc : ¬ (18 < 8 * i % 26 ∧ q < 4)) :
    (cn .i64 (sp f i)).set q (.int .i64 (s : Int)) = cn .i64 (sp f (i + 1)) := by
  refine cn_set .i64 _ _ q _ (by omega) ?_ ?_
  · rw [sp, if_pos hq, hs]
  · intro j hj hne
    rw [sp, if_neg (by omega), if_neg (by omega)]
theorem sp_set2 (f : Nat → Nat) (i q s s2 : Nat) (hi : i < 17) (hq : 8 * i / 26 = q) (hs : sp f i q + f i * 2 ^ (8 * i % 26) % 67108864 = s) (hc : 18 < 8 * i % 26 ∧ q < 4) (hs2 : sp f i (q + 1) + f i / 2 ^ (26 - 8 * i % 26) = s2) :
    ((cn .i64 (sp f i)).set q (.int .i64 (s : Int))).set (q + 1) (.int .i64 (s2 : Int)) = cn .i64 (sp f (i + 1)) := by
  rw [cn_set .i64 (sp f i) (fun j => if q = j then s else sp f i j) q _ (by omega) (by rw [if_pos rfl]) (fun j hj hne => (if_neg (by omega)).symm)]
  refine cn_set .i64 _ _ (q + 1) _ (by omega) ?_ ?_
  · rw [sp, if_neg (by omega), if_pos (by omega), hs2]
  · intro j hj hne
    by_cases e : q = j
    · rw [if_pos e, sp, if_pos (by omega), ← e, hs]
    · rw [if_neg e, sp, if_neg (by omega), if_neg (by omega)]

set_option maxRecDepth 100000 in
set_option maxHeartbeats 1600000 in
theorem l03Parts (t : ByteArray) (ht : t.size = 17) (w : World) :
    Calls Tryz.prog 93 #[.string t] w fun e' w' => e' = .returned (.agg (cn .i64 (sp (bN t) 17)).toArray) ∧ Below w.heap.size w w' := by
  have HRL := Lib.hid (sp_le (bN_lt t))
  have HS1 := Lib.hid (sp_set1 (bN t))
  have HS2 := Lib.hid (sp_set2 (bN t))
  have HTS := Lib.hid ht
  have ht0 : (t.size : Int) = 17 := by omega
  clear ht
  go_enter Tryz.func93, Tryz.ntmps93
  have HW := Lib.hid (Arr.two_new w)
  go_wp2
  generalize hW : (w.alloc _).alloc _ = W
  obtain ⟨z1, hz1, R0, R1, HB, hsz⟩ : ∃ z1 : List Value, z1.length = 5 ∧ Row W w.heap.size 142 z1 ∧ Row W (w.heap.size + 1) 142 (cn .i64 (sp (bN t) 0)) ∧ Below w.heap.size w W ∧ w.heap.size + 2 ≤ W.heap.size := by
    rw [← hW]
    exact ⟨_, rfl, HW.out _ _ _ _⟩
  clear hW HW
  have Z1 := Lib.hid hz1
  have RR := Lib.hid (show Row W w.heap.size 142 z1 ∧ Row W (w.heap.size + 1) 142 (cn .i64 (sp (bN t) 0)) ∧ Below w.heap.size w W from ⟨R0, R1, HB⟩)
  clear hz1 R0 R1 HB hsz
  go_loopw [4] (fun i wz => ∃ (k : Nat) (wr : World), k ≤ 17 ∧ i = .int .i64 k ∧ wr = wz ∧ Hid (Row wr w.heap.size 142 z1 ∧ Row wr (w.heap.size + 1) 142 (cn .i64 (sp (bN t) k)) ∧ Below w.heap.size w wr)) (fun i _ => 17 - (intOf i).toNat)
  case atStart => exact ⟨0, _, by omega, rfl, rfl, RR⟩
  case round =>
    clear RR
    obtain ⟨k, wr, hk, rfl, rfl, HX⟩ := hrel
    by_cases hlt : k < 17
    · obtain ⟨q, eq⟩ : ∃ q, 8 * k / 26 = q := ⟨_, rfl⟩
      obtain ⟨r, er⟩ : ∃ r, 8 * k % 26 = r := ⟨_, rfl⟩
      obtain ⟨p, ep⟩ : ∃ p, 8 * k = p := ⟨_, rfl⟩
      have hq : q < 5 := by omega
      have hr : r < 26 := by omega
      have c0 := HX.out.2.1.cell q
      rw [cn_at .i64 _ q hq] at c0
      have f0 := HX.out.2.1.frozen q
      have i17 : (k : Int) < 17 := by omega
      have i1 : (k : Int) < (t.size : Int) := by omega
      have i0 : (0 : Int) ≤ (k : Int) := by omega
      have e0 : (8 : Int) * (k : Int) = (p : Int) := by omega
      have e1 : (p : Int) / 26 = (q : Int) := by omega
      have e1t : (p : Int).tdiv 26 = (q : Int) := by rw [Int.tdiv_eq_ediv_of_nonneg (by omega)]; omega
      have e2 : (p : Int) % 26 = (r : Int) := by omega
      have e2t : (p : Int).tmod 26 = (r : Int) := by rw [Int.tmod_eq_emod_of_nonneg (by omega)]; omega
      have wp : IntKind.i64.wrap (p : Int) = p := by rw [IntKind.wrap_i64]; omega
      have wq : IntKind.i64.wrap (q : Int) = q := by rw [IntKind.wrap_i64]; omega
      have wr1 : IntKind.i64.wrap (r : Int) = r := by rw [IntKind.wrap_i64]; omega
      have q1 : (q : Int) < 5 := by omega
      have q0 : (0 : Int) ≤ (q : Int) := by omega
      have r0 : (0 : Int) ≤ (r : Int) := by omega
      have y0 : t[k]'(by have := HTS.out; omega) = t[k]'(by have := HTS.out; omega) := rfl
      have hkt : k < t.size := by have := HTS.out; omega
      have y1 : t[k].toNat = bN t k := bN_at t k hkt
      clear y0
      have hb := bN_lt t k
      have hpw : 2 ^ r ≤ 33554432 := by rw [← er]; exact pow_le k
      have hxl := Nat.mul_le_mul (Nat.le_of_lt hb) hpw
      have hol := Nat.le_trans (HRL.out k q) (Nat.mul_le_mul_right _ hk)
      have hol2 := Nat.le_trans (HRL.out k (q + 1)) (Nat.mul_le_mul_right _ hk)
      have HSET1 := Lib.hid (fun s => HS1.out k q s hlt eq)
      have HSET2 := Lib.hid (fun s s2 => HS2.out k q s s2 hlt eq)
      rw [er] at HSET1 HSET2
      obtain ⟨x, ex⟩ : ∃ x, bN t k * 2 ^ r = x := ⟨_, rfl⟩
      rw [ex] at HSET1 HSET2 hxl
      have wb : IntKind.i64.wrap (bN t k : Int) = (bN t k : Int) := i64_wrap _ (by omega)
      have hsh : IntKind.i64.wrap ((bN t k : Int) * 2 ^ r) = (x : Int) := by
        have e10 : (bN t k : Int) * 2 ^ r = (x : Int) := by rw [← ex]; simp
        rw [e10, i64_wrap x (by omega)]
      have hand := i64_mask26 x (by omega)
      obtain ⟨y, ey⟩ : ∃ y, x % 67108864 = y := ⟨_, rfl⟩
      have hy : y < 67108864 := by omega
      rw [ey] at HSET1 HSET2 hand
      obtain ⟨sb, esb⟩ : ∃ sb, 26 - r = sb := ⟨_, rfl⟩
      obtain ⟨z, ez⟩ : ∃ z, bN t k / 2 ^ sb = z := ⟨_, rfl⟩
      have hzl : z ≤ bN t k := by rw [← ez]; exact Nat.div_le_self _ _
      rw [esb, ez] at HSET2
      have e3 : (26 : Int) - (r : Int) = (sb : Int) := by omega
      have wsb : IntKind.i64.wrap (sb : Int) = sb := by rw [IntKind.wrap_i64]; omega
      have sb0 : (0 : Int) ≤ (sb : Int) := by omega
      have hdv : (bN t k : Int) / 2 ^ sb = (z : Int) := by rw [← ez]; simp
      have hnn : 0 ≤ (bN t k : Int) := by omega
      by_cases hc : 18 < r ∧ q < 4
      · have t1 : (18 : Int) < (r : Int) := by omega
        have t2 : (q : Int) < 4 := by omega
        have c1 := HX.out.2.1.cell (q + 1)
        rw [cn_at .i64 _ (q + 1) (by omega)] at c1
        have f1 := HX.out.2.1.frozen (q + 1)
        have HCQ := Lib.hid (cn_at .i64 (sp (bN t) k) (q + 1) (by omega))
        generalize ho : sp (bN t) k q = o at *
        generalize ho2 : sp (bN t) k (q + 1) = o2 at *
        have hwo : IntKind.i64.wrap ((o : Int) + (y : Int)) = ((o + y : Nat) : Int) := by rw [← i64_wrap (o + y) (by omega)]; rfl
        have hwo2 : IntKind.i64.wrap ((o2 : Int) + (z : Int)) = ((o2 + z : Nat) : Int) := by rw [← i64_wrap (o2 + z) (by omega)]; rfl
        generalize o + y = s at *
        generalize o2 + z = s2 at *
        generalize bN t k = bk at *
        obtain ⟨q', eq'⟩ : ∃ q', q + 1 = q' := ⟨_, rfl⟩
        have e5 : (q : Int) + 1 = (q' : Int) := by omega
        have q3 : (q' : Int) < 5 := by omega
        have q4 : (0 : Int) ≤ (q' : Int) := by omega
        have wq' : IntKind.i64.wrap (q' : Int) = q' := by rw [IntKind.wrap_i64]; omega
        have hne : q ≠ q' := by omega
        have hne2 : q' ≠ q := by omega
        rw [eq'] at c1 f1 HSET2 HCQ
        have HC := Lib.hid hc
        clear ho ho2 hol hol2 hxl hpw ex er ep eq hr ey hy hzl ez esb hb eq' hq hc
        have q2 : ∀ k', (World.mk wr.heap wr.tape k' wr.os wr.output).cell? ⟨w.heap.size + 1, q, none⟩ = some (.int .i64 (o : Int)) := fun _ => c0
        go_wp2
        go_still_tail 11, (by kernel_rfl)
        clear q2
        change wpList _ _ _ _ _ wr.drew
        go_wp2
        generalize hW2 : (wr.setCell _ _).drew = W2
        have HR2 : Hid (Row W2 w.heap.size 142 z1 ∧ Row W2 (w.heap.size + 1) 142 ((cn .i64 (sp (bN t) k)).set q (.int .i64 (s : Int))) ∧ Below w.heap.size w W2) := by
          rw [← hW2]
          exact Lib.hid ⟨(HX.out.1.set_far _ _ _ (by omega)).drew, (HX.out.2.1.set q _).drew, (HX.out.2.2.setCell (show w.heap.size ≤ w.heap.size + 1 by omega) _).drew⟩
        have c2 : W2.cell? ⟨w.heap.size + 1, q', none⟩ = some (.int .i64 (o2 : Int)) := (HR2.out.2.1.cell q').trans (by rw [List.getElem?_set_ne hne]; exact HCQ.out)
        have f2 := HR2.out.2.1.frozen q'
        clear hW2 c0 c1 f0 f1
        have q2 : ∀ k', (World.mk W2.heap W2.tape k' W2.os W2.output).cell? ⟨w.heap.size + 1, q', none⟩ = some (.int .i64 (o2 : Int)) := fun _ => c2
        go_still_tail 12, (by kernel_rfl)
        clear q2
        change wpList _ _ _ _ _ W2.drew
        go_wp2
        go_roundw
        case rel =>
          obtain ⟨h1, h2, h3⟩ := HR2.out
          refine ⟨k + 1, _, by omega, by go_num, rfl, Lib.hid ⟨(h1.set_far _ _ _ (by omega)).drew, ?_, (h3.setCell (show w.heap.size ≤ w.heap.size + 1 by omega) _).drew⟩⟩
          rw [← HSET2.out s s2 rfl HC.out rfl]
          exact (h2.set q' _).drew
        case measure => simp [intOf]; omega
      · generalize ho : sp (bN t) k q = o at *
        have hwo : IntKind.i64.wrap ((o : Int) + (y : Int)) = ((o + y : Nat) : Int) := by rw [← i64_wrap (o + y) (by omega)]; rfl
        generalize o + y = s at *
        generalize bN t k = bk at *
        have HC := Lib.hid hc
        have q2 : ∀ k', (World.mk wr.heap wr.tape k' wr.os wr.output).cell? ⟨w.heap.size + 1, q, none⟩ = some (.int .i64 (o : Int)) := fun _ => c0
        by_cases t1 : (18 : Int) < (r : Int)
        · have t2 : ¬ (q : Int) < 4 := by omega
          clear ho hol hol2 hxl hpw ex er ep eq hr ey hy hzl ez esb hb hq hc HSET2
          go_wp2
          go_still_tail 11, (by kernel_rfl)
          clear q2
          change wpList _ _ _ _ _ wr.drew
          go_wp2
          go_roundw
          case rel =>
            obtain ⟨h1, h2, h3⟩ := HX.out
            refine ⟨k + 1, _, by omega, by go_num, rfl, Lib.hid ⟨(h1.set_far _ _ _ (by omega)).drew, ?_, (h3.setCell (show w.heap.size ≤ w.heap.size + 1 by omega) _).drew⟩⟩
            rw [← HSET1.out s rfl HC.out]
            exact (h2.set q _).drew
          case measure => simp [intOf]; omega
        · clear ho hol hol2 hxl hpw ex er ep eq hr ey hy hzl ez esb hb hq hc HSET2
          go_wp2
          go_still_tail 11, (by kernel_rfl)
          clear q2
          change wpList _ _ _ _ _ wr.drew
          go_wp2
          go_roundw
          case rel =>
            obtain ⟨h1, h2, h3⟩ := HX.out
            refine ⟨k + 1, _, by omega, by go_num, rfl, Lib.hid ⟨(h1.set_far _ _ _ (by omega)).drew, ?_, (h3.setCell (show w.heap.size ≤ w.heap.size + 1 by omega) _).drew⟩⟩
            rw [← HSET1.out s rfl HC.out]
            exact (h2.set q _).drew
          case measure => simp [intOf]; omega
    · obtain rfl : k = 17 := by omega
      obtain ⟨h1, h2, h3⟩ := HX.out
      have HRR := Lib.hid h2
      have HT := Lib.hid (there_row h1 Z1.out .i64 (sp (bN t) 17))
      have HRES := Lib.hid (sets_row h1 Z1.out .i64 (sp (bN t) 17))
      have HBF := Lib.hid (Arr.below_sets (B := w.heap.size) (a := w) w.heap.size (Nat.le_refl _) (cn .i64 (sp (bN t) 17)) 0 wr h3)
      have HI4 := Lib.hid (infoI (sp (bN t) 17))
      have H1 := Lib.hid (cn_one .i64 (sp (bN t) 17))
      clear h1 h2 h3 HX HRL HS1 HS2
      generalize hus : cn .i64 (sp (bN t) 17) = us at *
      have HUS := Lib.hid hus
      clear hus
      go_wp2_with (first
        | ((with_reducible show wpList _ _ _ _ _ _); refine wpList_load_row rfl 142 _ rfl (w.heap.size + 1) rfl 142 _ (0, 0) _ HRR.out Tryz.underlying142 rfl HI4.out ?_)
        | ((with_reducible show wpList _ _ _ _ _ _); refine wpList_store_mid rfl 142 _ _ rfl w.heap.size 0 us.toArray rfl rfl HT.out HI4.out H1.out ?_))
      refine bodyPost_ret (v := .agg us.toArray) ?_ rfl ⟨by rw [HUS.out], HBF.out⟩
      exact results_cell_row rfl _ _ w.heap.size 142 _ (0, 0) _ rfl HRES.out Tryz.underlying142 rfl HI4.out
end Go.Proofs.YtggobhpjfflooaaGreatDoor.SpParts
namespace Go.Proofs.YtggobhpjfflooaaGreatDoor.SpCarry
open Go.ChangeShapes Go.WideShapes Go.ChangeAt Go.RowKit
open Arr (Row)
open Five Poly
open SpParts (i64_wrap i64_mask26)
set_option linter.unusedVariables false

/-- Parts of which the first i are carried. -/
def cr (u : Nat → Nat) (i j : Nat) : Nat := if j < i then dg u j else if j = i then u i + ov u i else u j
theorem cr_zero (u : Nat → Nat) : cr u 0 = u := by
  funext j
  unfold cr
  rw [if_neg (by omega)]
  split
  · rename_i h
    rw [h]
    exact Nat.add_zero _
  · rfl
theorem cr_self (u : Nat → Nat) (i : Nat) : cr u i i = u i + ov u i := by
  unfold cr
  rw [if_neg (by omega), if_pos rfl]
theorem cr_next (u : Nat → Nat) (i : Nat) : cr u i (i + 1) = u (i + 1) := by
  unfold cr
  rw [if_neg (by omega), if_neg (by omega)]
theorem cr_step (u : Nat → Nat) (i : Nat) (s d : Int) (hi : i < 4) (hs : s = ((u (i + 1) + ov u (i + 1) : Nat) : Int)) (hd : d = (dg u i : Int)) :
    ((cn .i64 (cr u i)).set (i + 1) (.int .i64 s)).set i (.int .i64 d) = cn .i64 (cr u (i + 1)) := by
  rw [cn_set .i64 (cr u i) (fun j => if j = i + 1 then u (i + 1) + ov u (i + 1) else cr u i j) (i + 1) s (by omega) (by rw [if_pos rfl]; exact hs) (fun j hj hne => (if_neg (by omega)).symm)]
  refine cn_set .i64 _ _ i d (by omega) ?_ ?_
  · rw [hd]
    unfold cr
    rw [if_pos (by omega)]
  · intro j hj hne
    by_cases e : j = i + 1
    · rw [if_pos e, e, cr_self]
    · rw [if_neg e]
      unfold cr
      by_cases h : j < i
      · rw [if_pos h, if_pos (by omega)]
      · rw [if_neg h, if_neg (by omega), if_neg (by omega), if_neg (by omega)]
theorem cr_fold (u : Nat → Nat) (s d : Int) (hs : s = ((dg u 0 + 5 * ov u 5 : Nat) : Int)) (hd : d = (dg u 4 : Int)) :
    ((cn .i64 (cr u 4)).set 0 (.int .i64 s)).set 4 (.int .i64 d) = cn .i64 (fo u) := by
  rw [cn_set .i64 (cr u 4) (fun j => if j = 0 then dg u 0 + 5 * ov u 5 else cr u 4 j) 0 s (by omega) (by rw [if_pos rfl]; exact hs) (fun j hj hne => (if_neg (by omega)).symm)]
  refine cn_set .i64 _ _ 4 d (by omega) ?_ ?_
  · rw [hd, fo_pos u 4 (by omega)]
  · intro j hj hne
    by_cases e : j = 0
    · rw [if_pos e, e, fo_zero]
    · rw [if_neg e, fo_pos u j (by omega)]
      unfold cr
      rw [if_pos (by omega)]
/-- Folded k times. -/
def fk (v : Nat → Nat) : Nat → Nat → Nat
  | 0 => v
  | k + 1 => fo (fk v k)
theorem fk_small {v : Nat → Nat} (h : Small v) : ∀ k, Small (fk v k)
  | 0 => h
  | k + 1 => fun j hj => by have := (fo_small (fk_small h k)).1 j hj; show fo (fk v k) j < _; omega

set_option maxRecDepth 100000 in
set_option maxHeartbeats 3200000 in
theorem l03Carry (v : Nat → Nat) (hv : Small v) (w : World) :
    Calls Tryz.prog 97 #[.agg (cn .i64 v).toArray] w fun e' w' => e' = .returned (.agg (cn .i64 (fo (fo (fo v)))).toArray) ∧ Below w.heap.size w w' := by
  have HSM := Lib.hid (fk_small hv)
  have HF0 := Lib.hid (show fk v 0 = v from rfl)
  have HFS := Lib.hid (show ∀ k, fk v (k + 1) = fo (fk v k) from fun _ => rfl)
  have HF3 := Lib.hid (show fo (fo (fo v)) = fk v 3 from rfl)
  clear hv
  generalize hys : cn .i64 v = ys at *
  have HYS := Lib.hid hys
  clear hys
  generalize fo (fo (fo v)) = G at *
  generalize fk v = F at *
  go_enter Tryz.func97, Tryz.ntmps97
  have HW := Lib.hid (Arr.two_new w ys.toArray)
  go_wp2
  generalize hW : (w.alloc _).alloc _ = W
  obtain ⟨z1, hz1, R0, R1, HB, hsz⟩ : ∃ z1 : List Value, z1.length = 5 ∧ Row W w.heap.size 142 ys ∧ Row W (w.heap.size + 1) 142 z1 ∧ Below w.heap.size w W ∧ w.heap.size + 2 ≤ W.heap.size := by
    rw [← hW]
    exact ⟨_, rfl, HW.out _ _ _⟩
  clear hW HW
  have Z1 := Lib.hid hz1
  rw [← HYS.out, ← HF0.out] at R0
  have RR := Lib.hid (show Row W w.heap.size 142 (cn .i64 (F 0)) ∧ Row W (w.heap.size + 1) 142 z1 ∧ Below w.heap.size w W from ⟨R0, R1, HB⟩)
  clear hz1 R0 R1 HB hsz
  go_loopw [3] (fun i wz => ∃ (k : Nat) (wr : World), k ≤ 3 ∧ i = .int .i64 k ∧ wr = wz ∧ Hid (Row wr w.heap.size 142 (cn .i64 (F k)) ∧ Row wr (w.heap.size + 1) 142 z1 ∧ Below w.heap.size w wr)) (fun i _ => 3 - (intOf i).toNat)
  case atStart => exact ⟨0, _, by omega, rfl, rfl, RR⟩
  case round =>
    clear RR
    obtain ⟨k, wo, hk, rfl, rfl, HX⟩ := hrel
    by_cases hlt : k < 3
    · have hk3 : (k : Int) < 3 := by omega
      have HU := Lib.hid (HSM.out k)
      have HNX := Lib.hid (HFS.out k)
      generalize F k = u at *
      have HX0 : Hid (Row wo w.heap.size 142 (cn .i64 (cr u 0)) ∧ Row wo (w.heap.size + 1) 142 z1 ∧ Below w.heap.size w wo) := Lib.hid (by rw [cr_zero]; exact HX.out)
      clear HX
      go_wp2
      go_loopw [4] (fun i wz => ∃ (j : Nat) (wr : World), j ≤ 4 ∧ i = .int .i64 j ∧ wr = wz ∧ Hid (Row wr w.heap.size 142 (cn .i64 (cr u j)) ∧ Row wr (w.heap.size + 1) 142 z1 ∧ Below w.heap.size w wr)) (fun i _ => 4 - (intOf i).toNat)
      case atStart => exact ⟨0, _, by omega, rfl, rfl, HX0⟩
      case round =>
        clear HX0
        obtain ⟨j, wr, hj, rfl, rfl, HX⟩ := hrel
        by_cases hjt : j < 4
        · have j4 : (j : Int) < 4 := by omega
          have j5 : (j : Int) < 5 := by omega
          have j0 : (0 : Int) ≤ (j : Int) := by omega
          have c0 := HX.out.1.cell j
          rw [cn_at .i64 _ j (by omega), cr_self] at c0
          have c1 := HX.out.1.cell (j + 1)
          rw [cn_at .i64 _ (j + 1) (by omega), cr_next] at c1
          have f0 := HX.out.1.frozen j
          have f1 := HX.out.1.frozen (j + 1)
          have b0 := HU.out j (by omega)
          have b1 := HU.out (j + 1) (by omega)
          have o0 := ov_lt HU.out j (by omega)
          have o1 := ov_lt HU.out (j + 1) (by omega)
          have HST := Lib.hid (fun s d => cr_step u j s d hjt)
          have HOV := Lib.hid (show ov u (j + 1) = (u j + ov u j) / 67108864 from rfl)
          have HDG := Lib.hid (show dg u j = (u j + ov u j) % 67108864 from rfl)
          obtain ⟨a, ea⟩ : ∃ a, u j + ov u j = a := ⟨_, rfl⟩
          obtain ⟨b, eb⟩ : ∃ b, u (j + 1) = b := ⟨_, rfl⟩
          rw [ea] at c0 HOV HDG
          rw [eb] at c1 HST b1
          rw [HOV.out] at HST o1
          rw [HDG.out] at HST
          obtain ⟨a1, ea1⟩ : ∃ a1, a / 67108864 = a1 := ⟨_, rfl⟩
          rw [ea1] at HST o1
          have hdv : (a : Int) / 67108864 = (a1 : Int) := by omega
          have hand := i64_mask26 a (by omega)
          have hwb : IntKind.i64.wrap ((b : Int) + (a1 : Int)) = ((b + a1 : Nat) : Int) := by rw [← i64_wrap (b + a1) (by omega)]; rfl
          generalize b + a1 = s at *
          generalize a % 67108864 = d at *
          obtain ⟨j', ej'⟩ : ∃ j', j + 1 = j' := ⟨_, rfl⟩
          have e5 : (j : Int) + 1 = (j' : Int) := by omega
          have q3 : (j' : Int) < 5 := by omega
          have q4 : (0 : Int) ≤ (j' : Int) := by omega
          have wj' : IntKind.i64.wrap (j' : Int) = j' := by rw [IntKind.wrap_i64]; omega
          have hne : j ≠ j' := by omega
          have hne2 : j' ≠ j := by omega
          rw [ej'] at c1 f1 HST
          have HEJ := Lib.hid ej'
          have hann : (0 : Int) ≤ (a : Int) := by omega
          clear ea eb ea1 b0 b1 o0 o1 HOV HDG ej'
          have q0 : ∀ k', (World.mk wr.heap wr.tape k' wr.os wr.output).cell? ⟨w.heap.size, j, none⟩ = some (.int .i64 (a : Int)) := fun _ => c0
          have q1 : ∀ k', (World.mk wr.heap wr.tape k' wr.os wr.output).cell? ⟨w.heap.size, j', none⟩ = some (.int .i64 (b : Int)) := fun _ => c1
          go_wp2
          go_still_tail 10, (by kernel_rfl)
          clear q0 q1
          change wpList _ _ _ _ _ wr.drew
          go_wp2
          go_roundw
          case rel =>
            obtain ⟨h1, h2, h3⟩ := HX.out
            refine ⟨j + 1, _, by omega, by first | go_num | (have := HEJ.out; simp; omega), rfl, Lib.hid ⟨?_, ((h2.set_far _ _ _ (by omega)).drew).set_far _ _ _ (by omega), ((h3.setCell (show w.heap.size ≤ w.heap.size from Nat.le_refl _) _).drew).setCell (show w.heap.size ≤ w.heap.size from Nat.le_refl _) _⟩⟩
            have h5 := ((h1.set j' (.int .i64 (s : Int))).drew).set j (.int .i64 (d : Int))
            rw [HST.out _ _ rfl rfl] at h5
            rw [HEJ.out]
            exact h5
          case measure => simp [intOf]; omega
        · obtain rfl : j = 4 := by omega
          have c0 := HX.out.1.cell 0
          have e0 : cr u 4 0 = dg u 0 := by unfold cr; rw [if_pos (by omega)]
          rw [cn_at .i64 _ 0 (by omega), e0] at c0
          have c4 := HX.out.1.cell 4
          rw [cn_at .i64 _ 4 (by omega), cr_self] at c4
          have f0 := HX.out.1.frozen 0
          have f4 := HX.out.1.frozen 4
          have HST := Lib.hid (cr_fold u)
          have b4 := HU.out 4 (by omega)
          have o4 := ov_lt HU.out 4 (by omega)
          have o5 := ov_lt HU.out 5 (by omega)
          have hd0 := dg_lt u 0
          have HOV := Lib.hid (show ov u 5 = (u 4 + ov u 4) / 67108864 from rfl)
          have HDG := Lib.hid (show dg u 4 = (u 4 + ov u 4) % 67108864 from rfl)
          obtain ⟨a, ea⟩ : ∃ a, u 4 + ov u 4 = a := ⟨_, rfl⟩
          rw [ea] at c4 HOV HDG
          rw [HDG.out] at HST
          obtain ⟨a1, ea1⟩ : ∃ a1, a / 67108864 = a1 := ⟨_, rfl⟩
          rw [HOV.out, ea1] at HST o5
          have hdv : (a : Int) / 67108864 = (a1 : Int) := by omega
          have hand := i64_mask26 a (by omega)
          obtain ⟨m, em⟩ : ∃ m, 5 * a1 = m := ⟨_, rfl⟩
          rw [em] at HST
          have hwm : IntKind.i64.wrap (5 * (a1 : Int)) = (m : Int) := by rw [← i64_wrap m (by omega), ← em]; rfl
          generalize dg u 0 = d0 at *
          have hwb : IntKind.i64.wrap ((d0 : Int) + (m : Int)) = ((d0 + m : Nat) : Int) := by rw [← i64_wrap (d0 + m) (by omega)]; rfl
          generalize d0 + m = s at *
          generalize a % 67108864 = d at *
          have hann : (0 : Int) ≤ (a : Int) := by omega
          clear ea ea1 em b4 o4 o5 hd0 HOV HDG e0
          go_wp2
          go_roundw
          case rel =>
            obtain ⟨h1, h2, h3⟩ := HX.out
            refine ⟨k + 1, _, by omega, by go_num, rfl, Lib.hid ⟨?_, (h2.set_far _ _ _ (by omega)).set_far _ _ _ (by omega), (h3.setCell (show w.heap.size ≤ w.heap.size from Nat.le_refl _) _).setCell (show w.heap.size ≤ w.heap.size from Nat.le_refl _) _⟩⟩
            have h5 := (h1.set 0 (.int .i64 (s : Int))).set 4 (.int .i64 (d : Int))
            rw [HST.out _ _ rfl rfl] at h5
            rw [HNX.out]
            exact h5
          case measure => simp [intOf]; omega
    · obtain rfl : k = 3 := by omega
      obtain ⟨h1, h2, h3⟩ := HX.out
      have HRR := Lib.hid (show Row wo w.heap.size 142 (cn .i64 G) by rw [HF3.out]; exact h1)
      have HT := Lib.hid (there_row h2 Z1.out .i64 G)
      have HRES := Lib.hid (sets_row h2 Z1.out .i64 G)
      have HBF := Lib.hid (Arr.below_sets (B := w.heap.size) (a := w) (w.heap.size + 1) (by omega) (cn .i64 G) 0 wo h3)
      have HI4 := Lib.hid (infoI G)
      have H1 := Lib.hid (cn_one .i64 G)
      clear h1 h2 h3 HX
      go_wp2_with (first
        | ((with_reducible show wpList _ _ _ _ _ _); refine wpList_load_row rfl 142 _ rfl w.heap.size rfl 142 _ (0, 0) _ HRR.out Tryz.underlying142 rfl HI4.out ?_)
        | ((with_reducible show wpList _ _ _ _ _ _); refine wpList_store_mid rfl 142 _ _ rfl (w.heap.size + 1) 0 (cn .i64 G).toArray rfl rfl HT.out HI4.out H1.out ?_))
      refine bodyPost_ret (v := .agg (cn .i64 G).toArray) ?_ rfl ⟨rfl, HBF.out⟩
      exact results_cell_row rfl _ _ (w.heap.size + 1) 142 _ (0, 0) _ rfl HRES.out Tryz.underlying142 rfl HI4.out
end Go.Proofs.YtggobhpjfflooaaGreatDoor.SpCarry
namespace Go.Proofs.YtggobhpjfflooaaGreatDoor.SpTimes
open Go.ChangeShapes Go.WideShapes Go.ChangeAt Go.RowKit
open Arr (Row)
open Five Poly
open SpParts (i64_wrap i64_mask26)
open Times (pa_step pt_at four_new)
set_option linter.unusedVariables false

set_option maxRecDepth 100000 in
set_option maxHeartbeats 3200000 in
theorem l03Times (a b : Nat → Nat) (ha : ∀ j, a j < 268435456) (hb : ∀ j, b j < 67108864) (w : World) :
    Calls Tryz.prog 95 #[.agg (cn .i64 a).toArray, .agg (cn .i64 b).toArray] w fun e' w' => e' = .returned (.agg (cn .i64 (fo (fo (fo (pa a b 25))))).toArray) ∧ Below w.heap.size w w' := by
  have HA := Lib.hid ha
  have HB := Lib.hid hb
  have HSM := Lib.hid (pa_small ha hb)
  have HPL := Lib.hid (pa_le ha hb)
  have HPT := Lib.hid (pt_le ha hb)
  clear ha hb
  generalize hys : cn .i64 a = ys at *
  generalize hzs : cn .i64 b = zs at *
  have HYS := Lib.hid hys
  have HZS := Lib.hid hzs
  clear hys hzs
  go_enter Tryz.func95, Tryz.ntmps95
  have HW := Lib.hid (four_new w ys.toArray zs.toArray)
  go_wp2
  generalize hW : (((w.alloc _).alloc _).alloc _).alloc _ = W
  obtain ⟨z1, hz1, R0, R1, R2, R3, HBL, hsz⟩ : ∃ z1 : List Value, z1.length = 5 ∧ Row W w.heap.size 142 ys ∧ Row W (w.heap.size + 1) 142 zs ∧ Row W (w.heap.size + 2) 142 z1 ∧ Row W (w.heap.size + 3) 142 (cn .i64 (pa a b (5 * 0))) ∧ Below w.heap.size w W ∧ w.heap.size + 4 ≤ W.heap.size := by
    rw [← hW]
    exact ⟨_, rfl, HW.out _ _ _ _ _ _⟩
  clear hW HW
  have Z1 := Lib.hid hz1
  rw [← HYS.out] at R0
  rw [← HZS.out] at R1
  have RR := Lib.hid (show Row W w.heap.size 142 (cn .i64 a) ∧ Row W (w.heap.size + 1) 142 (cn .i64 b) ∧ Row W (w.heap.size + 2) 142 z1 ∧ Row W (w.heap.size + 3) 142 (cn .i64 (pa a b (5 * 0))) ∧ Below w.heap.size w W ∧ w.heap.size + 4 ≤ W.heap.size from ⟨R0, R1, R2, R3, HBL, hsz⟩)
  clear hz1 R0 R1 R2 R3 HBL hsz
  go_loopw [6] (fun i wz => ∃ (k : Nat) (wr : World), k ≤ 5 ∧ i = .int .i64 k ∧ wr = wz ∧ Hid (Row wr w.heap.size 142 (cn .i64 a) ∧ Row wr (w.heap.size + 1) 142 (cn .i64 b) ∧ Row wr (w.heap.size + 2) 142 z1 ∧ Row wr (w.heap.size + 3) 142 (cn .i64 (pa a b (5 * k))) ∧ Below w.heap.size w wr ∧ w.heap.size + 4 ≤ wr.heap.size)) (fun i _ => 5 - (intOf i).toNat)
  case atStart => exact ⟨0, _, by omega, rfl, rfl, RR⟩
  case round =>
    clear RR
    obtain ⟨i, wo, hi, rfl, rfl, HX⟩ := hrel
    by_cases hlt : i < 5
    · have i1 : (i : Int) < 5 := by omega
      have i0 : (0 : Int) ≤ (i : Int) := by omega
      have HST := Lib.hid (show cn .i64 (pa a b (5 * i)) = cn .i64 (pa a b (5 * i + 0)) from rfl)
      rw [HST.out] at HX
      clear HST
      go_wp2
      go_loopw [7] (fun j wz => ∃ (k : Nat) (wr : World), k ≤ 5 ∧ j = .int .i64 k ∧ wr = wz ∧ Hid (Row wr w.heap.size 142 (cn .i64 a) ∧ Row wr (w.heap.size + 1) 142 (cn .i64 b) ∧ Row wr (w.heap.size + 2) 142 z1 ∧ Row wr (w.heap.size + 3) 142 (cn .i64 (pa a b (5 * i + k))) ∧ Below w.heap.size w wr ∧ w.heap.size + 4 ≤ wr.heap.size)) (fun j _ => 5 - (intOf j).toNat)
      case atStart => exact ⟨0, _, by omega, rfl, rfl, HX⟩
      case round =>
        clear HX
        obtain ⟨j, wr, hj, rfl, rfl, HX⟩ := hrel
        by_cases hjt : j < 5
        · have j1 : (j : Int) < 5 := by omega
          have j0 : (0 : Int) ≤ (j : Int) := by omega
          have c0 := HX.out.1.cell i
          rw [cn_at .i64 _ i hlt] at c0
          have c1 := HX.out.2.1.cell j
          rw [cn_at .i64 _ j hjt] at c1
          obtain ⟨q, eq⟩ : ∃ q, (i + j) % 5 = q := ⟨_, rfl⟩
          have hq : q < 5 := by omega
          have c2 := HX.out.2.2.2.1.cell q
          rw [cn_at .i64 _ q hq] at c2
          have f2 := HX.out.2.2.2.1.frozen q
          have b0 := HPL.out (5 * i + j) q
          have b1 := HPT.out (5 * i + j)
          have HSTEP := Lib.hid (fun s => pa_step .i64 a b i j q s hjt eq.symm)
          have ept := pt_at a b i j hjt
          obtain ⟨t, et⟩ : ∃ t, i + j = t := ⟨_, rfl⟩
          rw [et] at ept eq
          have ht8 : t ≤ 8 := by omega
          have hij : (i : Int) + (j : Int) = (t : Int) := by omega
          have hq0 : (t : Int) % 5 = (q : Int) := by omega
          have hq1 : (q : Int) < 5 := by omega
          have hq2 : (0 : Int) ≤ (q : Int) := by omega
          have jt : IntKind.i64.wrap (t : Int) = t := by rw [IntKind.wrap_i64]; omega
          have jq : IntKind.i64.wrap (q : Int) = q := by rw [IntKind.wrap_i64]; omega
          have hmb := Nat.mul_le_mul (Nat.le_of_lt (HA.out i)) (Nat.le_of_lt (HB.out j))
          obtain ⟨x, ex⟩ : ∃ x, a i * b j = x := ⟨_, rfl⟩
          rw [ex] at hmb ept
          have hwx : IntKind.i64.wrap ((a i : Int) * (b j : Int)) = (x : Int) := by rw [← i64_wrap x (by omega), ← ex]; rfl
          generalize hpt : pt a b (5 * i + j) = y at *
          have hb0 : pa a b (5 * i + j) q < 4611686018427387904 := by omega
          generalize pa a b (5 * i + j) q = o at *
          have hwy : IntKind.i64.wrap ((o : Int) + (y : Int)) = ((o + y : Nat) : Int) := by rw [← i64_wrap (o + y) (by omega)]; rfl
          generalize hs : o + y = s at *
          generalize a i = ai at *
          generalize b j = bj at *
          clear hpt hs et eq ex b0 hmb
          by_cases h5 : 5 ≤ t
          · have t5 : (4 : Int) < (t : Int) := by omega
            rw [if_pos h5] at ept
            have hwz : IntKind.i64.wrap ((x : Int) * 5) = (y : Int) := by rw [← i64_wrap y (by omega), ept]; rfl
            clear ept
            go_wp2
            go_quiet (fail)
            go_wp2
            go_roundw
            case rel =>
              obtain ⟨h1, h2, h3, h4, h6, h7⟩ := HX.out
              refine ⟨j + 1, _, by omega, by go_num, rfl, Lib.hid ⟨h1.set_far _ _ _ (by omega), h2.set_far _ _ _ (by omega), h3.set_far _ _ _ (by omega), ?_, (below_drewN h6 _).setCell (show w.heap.size ≤ w.heap.size + 3 by omega) _, by simp [World.setCell]; exact h7⟩⟩
              rw [← HSTEP.out (s : Int) rfl]
              exact h4.set q _
            case measure => simp [intOf]; omega
          · have t5 : ¬ (4 : Int) < (t : Int) := by omega
            rw [if_neg h5] at ept
            subst ept
            go_wp2
            go_quiet (fail)
            go_wp2
            go_roundw
            case rel =>
              obtain ⟨h1, h2, h3, h4, h6, h7⟩ := HX.out
              refine ⟨j + 1, _, by omega, by go_num, rfl, Lib.hid ⟨h1.set_far _ _ _ (by omega), h2.set_far _ _ _ (by omega), h3.set_far _ _ _ (by omega), ?_, (below_drewN h6 _).setCell (show w.heap.size ≤ w.heap.size + 3 by omega) _, by simp [World.setCell]; exact h7⟩⟩
              rw [← HSTEP.out (s : Int) rfl]
              exact h4.set q _
            case measure => simp [intOf]; omega
        · obtain rfl : j = 5 := by omega
          go_wp2
          go_roundw
          case rel => exact ⟨i + 1, _, by omega, by go_num, rfl, HX⟩
          case measure => simp [intOf]; omega
    · obtain rfl : i = 5 := by omega
      have HW1 := Lib.hid (SpCarry.l03Carry _ HSM.out)
      obtain ⟨h1, h2, h3, h4, h6, h7⟩ := HX.out
      have HR3 := Lib.hid (show Row wo (w.heap.size + 3) 142 (cn .i64 (pa a b 25)) from h4)
      have HR2 := Lib.hid h3
      have HBB := Lib.hid h6
      have HI0 := Lib.hid (infoI (pa a b 25))
      have HIF := Lib.hid (infoI (fo (fo (fo (pa a b 25)))))
      have HOF := Lib.hid (cn_one .i64 (fo (fo (fo (pa a b 25)))))
      have HTF := Lib.hid (fun (w : World) g t xs (h : Row w g t xs) hl => there_row h hl .i64 (fo (fo (fo (pa a b 25)))))
      have HSF := Lib.hid (fun (w : World) g t xs (h : Row w g t xs) hl => sets_row h hl .i64 (fo (fo (fo (pa a b 25)))))
      clear h1 h2 h3 h4 h6 HX HSM HPL HPT HA HB
      generalize hus : cn .i64 (fo (fo (fo (pa a b 25)))) = us at *
      have HUS := Lib.hid hus
      clear hus
      generalize cn .i64 (pa a b 25) = u0 at *
      go_wp2_with (((with_reducible show wpList _ _ _ _ _ _); refine wpList_load_row rfl 142 _ rfl (w.heap.size + 3) rfl 142 _ (0, 0) _ HR3.out Tryz.underlying142 rfl HI0.out ?_))
      refine (HW1.out _).mono ?_
      rintro e' w2 ⟨rfl, hb⟩
      have HR22 := Lib.hid (HR2.out.below hb (by omega))
      have HB2 := Lib.hid (HBB.out.trans (hb.mono (by omega)))
      clear hb HR2 HBB
      have HT := Lib.hid (HTF.out _ _ _ _ HR22.out Z1.out)
      have HRES := Lib.hid (HSF.out _ _ _ _ HR22.out Z1.out)
      have HBF := Lib.hid (Arr.below_sets (B := w.heap.size) (a := w) (w.heap.size + 2) (by omega) us 0 w2 HB2.out)
      go_wp2_with (((with_reducible show wpList _ _ _ _ _ _); refine wpList_store_mid rfl 142 _ _ rfl (w.heap.size + 2) 0 us.toArray rfl rfl HT.out HIF.out HOF.out ?_))
      refine bodyPost_ret (v := .agg us.toArray) ?_ rfl ⟨by rw [HUS.out], HBF.out⟩
      exact results_cell_row rfl _ _ (w.heap.size + 2) 142 _ (0, 0) _ rfl HRES.out Tryz.underlying142 rfl HIF.out
end Go.Proofs.YtggobhpjfflooaaGreatDoor.SpTimes
namespace Go.Proofs.YtggobhpjfflooaaGreatDoor.SpLess
open Go.ChangeShapes Go.WideShapes Go.ChangeAt Go.RowKit
open Arr (Row)
open Five Poly
open SpParts (i64_wrap i64_mask26)
open SpCarry (cr cr_zero cr_self cr_next cr_step)
set_option linter.unusedVariables false

theorem cn_p5 (v : Nat → Nat) (x : Int) (hx : x = ((v 0 + 5 : Nat) : Int)) : (cn .i64 v).set 0 (.int .i64 x) = cn .i64 (cr (p5 v) 0) := by
  rw [cr_zero]
  exact cn_set .i64 v (p5 v) 0 x (by omega) hx (fun j hj h0 => (if_neg h0).symm)
theorem cr_end (u : Nat → Nat) (d : Int) (hd : d = (dg u 4 : Int)) : (cn .i64 (cr u 4)).set 4 (.int .i64 d) = cn .i64 (dg u) := by
  refine cn_set .i64 _ _ 4 d (by omega) hd ?_
  intro j hj hne
  unfold cr
  rw [if_pos (by omega)]

set_option maxRecDepth 100000 in
set_option maxHeartbeats 3200000 in
theorem l03Less (v : Nat → Nat) (hv : Half v) (w : World) :
    Calls Tryz.prog 96 #[.agg (cn .i64 v).toArray] w fun e' w' => e' = .returned (.agg (cn .i64 (rd v)).toArray) ∧ Below w.heap.size w w' := by
  have HU := Lib.hid (p5_small hv)
  have HP5 := Lib.hid (cn_p5 v)
  have hv0 := hv.low
  have HA0 := Lib.hid (cn_at .i64 v 0 (by omega))
  have hw : IntKind.i64.wrap ((v 0 : Int) + 5) = ((v 0 + 5 : Nat) : Int) := by rw [← i64_wrap (v 0 + 5) (by omega)]; rfl
  have HI := Lib.hid (infoI v)
  have HO := Lib.hid (cn_one .i64 v)
  have HTH := Lib.hid (fun (w : World) g t xs (h : Row w g t xs) hl => there_row h hl .i64 v)
  have HSV := Lib.hid (fun (w : World) g t xs (h : Row w g t xs) hl => sets_row h hl .i64 v)
  have HNV := Lib.hid (fun (w : World) cs hcs => Reduced.new_row w .i64 v 142 cs hcs)
  have HRD := Lib.hid (show cn .i64 (rd v) = if 0 < ov (p5 v) 5 then cn .i64 (dg (p5 v)) else cn .i64 v by unfold rd; split <;> rfl)
  clear hv
  generalize hs : v 0 + 5 = s0 at *
  generalize v 0 = v0 at *
  clear hs
  generalize cn .i64 (rd v) = rs at *
  generalize cn .i64 v = ys at *
  generalize p5 v = u at *
  go_enter Tryz.func96, Tryz.ntmps96
  have HW := Lib.hid (Arr.two_new w ys.toArray)
  go_upto_region 1 with (fail)
  generalize hW : (w.alloc _).alloc _ = W
  obtain ⟨z1, hz1, R0, R1, HB, hsz⟩ : ∃ z1 : List Value, z1.length = 5 ∧ Row W w.heap.size 142 ys ∧ Row W (w.heap.size + 1) 142 z1 ∧ Below w.heap.size w W ∧ w.heap.size + 2 ≤ W.heap.size := by
    rw [← hW]
    exact ⟨_, rfl, HW.out _ _ _⟩
  clear hW HW
  have Z1 := Lib.hid hz1
  have HR0 := Lib.hid R0
  have HR1 := Lib.hid R1
  have HBB := Lib.hid HB
  clear hz1 R0 R1 HB
  go_upto_region 2 with (first
    | ((with_reducible show wpList _ _ _ _ _ _); refine wpList_load_row rfl 142 _ rfl w.heap.size rfl 142 _ (0, 0) _ HR0.out Tryz.underlying142 rfl HI.out ?_)
    | ((with_reducible show wpList _ _ _ _ _ _); refine wpList_store_mid rfl 142 _ _ rfl W.heap.size 0 ys.toArray rfl rfl (HNV.out W _ rfl).1 HI.out HO.out ?_; simp only []))
  generalize hW1 : (W.alloc _).setCells _ _ _ = W1
  obtain ⟨Q0, Q1, Q2, QB, qsz⟩ : Row W1 w.heap.size 142 ys ∧ Row W1 (w.heap.size + 1) 142 z1 ∧ Row W1 W.heap.size 142 ys ∧ Below w.heap.size w W1 ∧ W1.heap.size = W.heap.size + 1 := by
    rw [← hW1]
    refine ⟨(HR0.out.alloc _).sets_far (by omega) _ _ _, (HR1.out.alloc _).sets_far (by omega) _ _ _, (HNV.out W _ rfl).2, Arr.below_sets _ (by omega) _ _ _ (HBB.out.alloc (by omega) _), by rw [Arr.size_sets]; simp⟩
  clear hW1
  generalize W.heap.size = G at *
  have c0 := Q2.cell 0
  rw [HA0.out] at c0
  have f0 := Q2.frozen 0
  have HX2 := Lib.hid (Q2.set 0 (.int .i64 (s0 : Int)))
  rw [HP5.out _ rfl] at HX2
  have HX0 := Lib.hid (show Row (W1.setCell ⟨G, 0, none⟩ (.int .i64 (s0 : Int))) G 142 (cn .i64 (cr u 0)) ∧ Row (W1.setCell ⟨G, 0, none⟩ (.int .i64 (s0 : Int))) w.heap.size 142 ys ∧ Row (W1.setCell ⟨G, 0, none⟩ (.int .i64 (s0 : Int))) (w.heap.size + 1) 142 z1 ∧ Below w.heap.size w (W1.setCell ⟨G, 0, none⟩ (.int .i64 (s0 : Int))) from
    ⟨HX2.out, Q0.set_far G 0 _ (by omega), Q1.set_far G 0 _ (by omega), QB.setCell (p := ⟨G, 0, none⟩) (show w.heap.size ≤ G by omega) _⟩)
  clear Q0 Q1 Q2 QB HR0 HR1 HBB HX2
  go_upto_region 3 with (fail)
  generalize W1.setCell ⟨G, 0, none⟩ (.int .i64 (s0 : Int)) = W2 at *
  clear c0 f0 hw qsz
  have hG : w.heap.size + 2 ≤ G := hsz
  clear hsz
  go_wp2
  go_loopw [4] (fun i wz => ∃ (j : Nat) (wr : World), j ≤ 4 ∧ i = .int .i64 j ∧ wr = wz ∧ Hid (Row wr G 142 (cn .i64 (cr u j)) ∧ Row wr w.heap.size 142 ys ∧ Row wr (w.heap.size + 1) 142 z1 ∧ Below w.heap.size w wr)) (fun i _ => 4 - (intOf i).toNat)
  case atStart => exact ⟨0, _, by omega, rfl, rfl, HX0⟩
  case round =>
    clear HX0
    obtain ⟨j, wr, hj, rfl, rfl, HX⟩ := hrel
    by_cases hjt : j < 4
    · have j4 : (j : Int) < 4 := by omega
      have j5 : (j : Int) < 5 := by omega
      have j0 : (0 : Int) ≤ (j : Int) := by omega
      have c0 := HX.out.1.cell j
      rw [cn_at .i64 _ j (by omega), cr_self] at c0
      have c1 := HX.out.1.cell (j + 1)
      rw [cn_at .i64 _ (j + 1) (by omega), cr_next] at c1
      have f0 := HX.out.1.frozen j
      have f1 := HX.out.1.frozen (j + 1)
      have b0 := HU.out j (by omega)
      have b1 := HU.out (j + 1) (by omega)
      have o0 := ov_lt HU.out j (by omega)
      have o1 := ov_lt HU.out (j + 1) (by omega)
      have HST := Lib.hid (fun s d => cr_step u j s d hjt)
      have HOV := Lib.hid (show ov u (j + 1) = (u j + ov u j) / 67108864 from rfl)
      have HDG := Lib.hid (show dg u j = (u j + ov u j) % 67108864 from rfl)
      obtain ⟨a, ea⟩ : ∃ a, u j + ov u j = a := ⟨_, rfl⟩
      obtain ⟨b, eb⟩ : ∃ b, u (j + 1) = b := ⟨_, rfl⟩
      rw [ea] at c0 HOV HDG
      rw [eb] at c1 HST b1
      rw [HOV.out] at HST o1
      rw [HDG.out] at HST
      obtain ⟨a1, ea1⟩ : ∃ a1, a / 67108864 = a1 := ⟨_, rfl⟩
      rw [ea1] at HST o1
      have hdv : (a : Int) / 67108864 = (a1 : Int) := by omega
      have hand := i64_mask26 a (by omega)
      have hwb : IntKind.i64.wrap ((b : Int) + (a1 : Int)) = ((b + a1 : Nat) : Int) := by rw [← i64_wrap (b + a1) (by omega)]; rfl
      generalize b + a1 = s at *
      generalize a % 67108864 = d at *
      obtain ⟨j', ej'⟩ : ∃ j', j + 1 = j' := ⟨_, rfl⟩
      have e5 : (j : Int) + 1 = (j' : Int) := by omega
      have q3 : (j' : Int) < 5 := by omega
      have q4 : (0 : Int) ≤ (j' : Int) := by omega
      have wj' : IntKind.i64.wrap (j' : Int) = j' := by rw [IntKind.wrap_i64]; omega
      have hne : j ≠ j' := by omega
      have hne2 : j' ≠ j := by omega
      rw [ej'] at c1 f1 HST
      have HEJ := Lib.hid ej'
      have hann : (0 : Int) ≤ (a : Int) := by omega
      clear ea eb ea1 b0 b1 o0 o1 HOV HDG ej'
      have q0 : ∀ k', (World.mk wr.heap wr.tape k' wr.os wr.output).cell? ⟨G, j, none⟩ = some (.int .i64 (a : Int)) := fun _ => c0
      have q1 : ∀ k', (World.mk wr.heap wr.tape k' wr.os wr.output).cell? ⟨G, j', none⟩ = some (.int .i64 (b : Int)) := fun _ => c1
      go_wp2
      go_still_tail 10, (by kernel_rfl)
      clear q0 q1
      change wpList _ _ _ _ _ wr.drew
      go_wp2
      go_roundw
      case rel =>
        obtain ⟨h1, h2, h3, h4⟩ := HX.out
        refine ⟨j + 1, _, by omega, by first | go_num | (have := HEJ.out; simp; omega), rfl, Lib.hid ⟨?_, ((h2.set_far _ _ _ (by omega)).drew).set_far _ _ _ (by omega), ((h3.set_far _ _ _ (by omega)).drew).set_far _ _ _ (by omega), ((h4.setCell (show w.heap.size ≤ G by omega) _).drew).setCell (show w.heap.size ≤ G by omega) _⟩⟩
        have h5 := ((h1.set j' (.int .i64 (s : Int))).drew).set j (.int .i64 (d : Int))
        rw [HST.out _ _ rfl rfl] at h5
        rw [HEJ.out]
        exact h5
      case measure => simp [intOf]; omega
    · obtain rfl : j = 4 := by omega
      have c4 := HX.out.1.cell 4
      rw [cn_at .i64 _ 4 (by omega), cr_self] at c4
      have f4 := HX.out.1.frozen 4
      have HST := Lib.hid (cr_end u)
      have b4 := HU.out 4 (by omega)
      have o4 := ov_lt HU.out 4 (by omega)
      have HOV := Lib.hid (show ov u 5 = (u 4 + ov u 4) / 67108864 from rfl)
      have HDG := Lib.hid (show dg u 4 = (u 4 + ov u 4) % 67108864 from rfl)
      have HID := Lib.hid (infoI (dg u))
      have HOD := Lib.hid (cn_one .i64 (dg u))
      have HTD := Lib.hid (fun (w : World) g t xs (h : Row w g t xs) hl => there_row h hl .i64 (dg u))
      have HSD := Lib.hid (fun (w : World) g t xs (h : Row w g t xs) hl => sets_row h hl .i64 (dg u))
      obtain ⟨a, ea⟩ : ∃ a, u 4 + ov u 4 = a := ⟨_, rfl⟩
      rw [ea] at c4 HOV HDG
      rw [HDG.out] at HST
      obtain ⟨a1, ea1⟩ : ∃ a1, a / 67108864 = a1 := ⟨_, rfl⟩
      rw [HOV.out, ea1] at HRD
      have hdv : (a : Int) / 67108864 = (a1 : Int) := by omega
      have hand := i64_mask26 a (by omega)
      generalize a % 67108864 = d at *
      have hann : (0 : Int) ≤ (a : Int) := by omega
      generalize cn .i64 (dg u) = ds at *
      clear ea ea1 b4 o4 HOV HDG
      obtain ⟨h1, h2, h3, h4⟩ := HX.out
      by_cases ho : 0 < a1
      · have ho2 : ((a1 : Int) == 0) = false := by simp; omega
        rw [if_pos ho] at HRD
        have HQ := Lib.hid (show Row (wr.setCell ⟨G, 4, none⟩ (.int .i64 (d : Int))) G 142 ds ∧ Row (wr.setCell ⟨G, 4, none⟩ (.int .i64 (d : Int))) (w.heap.size + 1) 142 z1 ∧ Below w.heap.size w (wr.setCell ⟨G, 4, none⟩ (.int .i64 (d : Int))) from
          ⟨by rw [← HST.out _ rfl]; exact h1.set 4 _, h3.set_far G 4 _ (by omega), h4.setCell (p := ⟨G, 4, none⟩) (show w.heap.size ≤ G by omega) _⟩)
        clear h1 h2 h3 h4 HX
        go_upto_region 11 with (fail)
        generalize wr.setCell ⟨G, 4, none⟩ (.int .i64 (d : Int)) = W3 at *
        have HT := Lib.hid (HTD.out _ _ _ _ HQ.out.2.1 Z1.out)
        have HRES := Lib.hid (HSD.out _ _ _ _ HQ.out.2.1 Z1.out)
        have HBF := Lib.hid (Arr.below_sets (B := w.heap.size) (a := w) (w.heap.size + 1) (by omega) ds 0 W3 HQ.out.2.2)
        go_wp2_with (first
          | ((with_reducible show wpList _ _ _ _ _ _); refine wpList_load_row rfl 142 _ rfl G rfl 142 _ (0, 0) _ HQ.out.1 Tryz.underlying142 rfl HID.out ?_)
          | ((with_reducible show wpList _ _ _ _ _ _); refine wpList_store_mid rfl 142 _ _ rfl (w.heap.size + 1) 0 ds.toArray rfl rfl HT.out HID.out HOD.out ?_))
        refine bodyPost_ret (v := .agg ds.toArray) ?_ rfl ⟨by rw [HRD.out], HBF.out⟩
        exact results_cell_row rfl _ _ (w.heap.size + 1) 142 _ (0, 0) _ rfl HRES.out Tryz.underlying142 rfl HID.out
      · have ho2 : ((a1 : Int) == 0) = true := by simp; omega
        rw [if_neg ho] at HRD
        have HR0 := Lib.hid h2
        have HT := Lib.hid (HTH.out _ _ _ _ h3 Z1.out)
        have HRES := Lib.hid (HSV.out _ _ _ _ h3 Z1.out)
        have HBF := Lib.hid (Arr.below_sets (B := w.heap.size) (a := w) (w.heap.size + 1) (by omega) ys 0 wr h4)
        clear h1 h2 h3 h4 HX
        go_wp2_with (first
          | ((with_reducible show wpList _ _ _ _ _ _); refine wpList_load_row rfl 142 _ rfl w.heap.size rfl 142 _ (0, 0) _ HR0.out Tryz.underlying142 rfl HI.out ?_)
          | ((with_reducible show wpList _ _ _ _ _ _); refine wpList_store_mid rfl 142 _ _ rfl (w.heap.size + 1) 0 ys.toArray rfl rfl HT.out HI.out HO.out ?_))
        refine bodyPost_ret (v := .agg ys.toArray) ?_ rfl ⟨by rw [HRD.out], HBF.out⟩
        exact results_cell_row rfl _ _ (w.heap.size + 1) 142 _ (0, 0) _ rfl HRES.out Tryz.underlying142 rfl HI.out
end Go.Proofs.YtggobhpjfflooaaGreatDoor.SpLess
namespace Go.Proofs.YtggobhpjfflooaaGreatDoor.PolyD
open Poly PolyN
open Word (bN bN_lt bN_at)
open TagBytes (bl)
set_option linter.unusedVariables false

/-! Bytes added one by one. -/
def cy (f g : Nat → Nat) : Nat → Nat
  | 0 => 0
  | k + 1 => (cy f g k + (f k + g k)) / 256
def di (f g : Nat → Nat) (k : Nat) : Nat := (cy f g k + (f k + g k)) % 256
theorem di_lt (f g : Nat → Nat) (k : Nat) : di f g k < 256 := Nat.mod_lt _ (by omega)
theorem cy_le {f g : Nat → Nat} (hf : ∀ j, f j < 256) (hg : ∀ j, g j < 256) : ∀ k, cy f g k ≤ 1
  | 0 => by show 0 ≤ 1; omega
  | k + 1 => by
    have h1 := cy_le hf hg k
    have h2 := hf k
    have h3 := hg k
    show (cy f g k + (f k + g k)) / 256 ≤ 1
    omega
theorem add_le (f g : Nat → Nat) : ∀ n, le f n + le g n = le (di f g) n + cy f g n * 256 ^ n
  | 0 => rfl
  | n + 1 => by
    have h1 := add_le f g n
    have h2 : cy f g n + (f n + g n) = di f g n + cy f g (n + 1) * 256 := by
      show _ = (cy f g n + (f n + g n)) % 256 + (cy f g n + (f n + g n)) / 256 * 256
      omega
    show le f n + f n * 256 ^ n + (le g n + g n * 256 ^ n) = le (di f g) n + di f g n * 256 ^ n + cy f g (n + 1) * 256 ^ (n + 1)
    have h3 : (cy f g n + (f n + g n)) * 256 ^ n = di f g n * 256 ^ n + cy f g (n + 1) * 256 ^ (n + 1) := by
      rw [h2, Nat.add_mul, Nat.pow_succ, Nat.mul_assoc, Nat.mul_comm 256]
    rw [Nat.add_mul, Nat.add_mul] at h3
    omega
theorem di_byte (H : Nat) (g : Nat → Nat) (i : Nat) (hi : i < 16) : di (fun i => H / 256 ^ i % 256) g i = (H + le g 16) / 256 ^ i % 256 := by
  have h1 := add_le (fun i => H / 256 ^ i % 256) g 16
  rw [le_digits] at h1
  have h2 : H + le g 16 = le (di (fun i => H / 256 ^ i % 256) g) 16 + (cy (fun i => H / 256 ^ i % 256) g 16 + H / 256 ^ 16) * 256 ^ 16 := by
    have h3 := Nat.mod_add_div H (256 ^ 16)
    rw [Nat.add_mul, Nat.mul_comm (H / 256 ^ 16)]
    omega
  rw [h2]
  exact (le_byte (di_lt _ _) _ 16 i hi).symm
theorem tail_num (key : ByteArray) (hk : key.size = 32) : num (tail key) = le (fun i => bN key (16 + i)) 16 := by
  have hs : (tail key).size = 16 := by unfold tail; rw [ByteArray.size_extract, hk]; omega
  unfold num
  rw [hs]
  refine le_congr 16 fun j hj => ?_
  exact Flat.bN_extract key 16 key.size j (Nat.le_refl _) (by omega)
/-- The first k bytes. -/
def tgl (d : Nat → Nat) (k : Nat) : List UInt8 := (List.range k).map fun j => UInt8.ofNat (d j)
theorem tgl_length (d : Nat → Nat) (k : Nat) : (tgl d k).length = k := by simp [tgl]
theorem tgl_snoc (d : Nat → Nat) (k : Nat) : tgl d (k + 1) = tgl d k ++ [UInt8.ofNat (d k)] := by simp [tgl, List.range_succ]
theorem tgl_bl (H : Nat) (key : ByteArray) (hk : key.size = 32) : tgl (di (fun i => H / 256 ^ i % 256) (fun i => bN key (16 + i))) 16 = bl (H + num (tail key)) := by
  unfold tgl bl
  rw [tail_num key hk]
  apply List.map_congr_left
  intro j hj
  rw [di_byte H _ j (by simpa using hj)]

/-! Bytes 0 behind. -/
def zero1 : ByteArray := ⟨#[0]⟩
theorem bN_zero1 (s : ByteArray) (j : Nat) : bN (s ++ zero1) j = bN s j := by
  rw [bN_append]
  split
  · rfl
  · rename_i h
    rw [bN_zero s j (by omega)]
    generalize j - s.size = m
    cases m with
    | zero => rfl
    | succ m => exact bN_zero zero1 (m + 1) (show 1 ≤ m + 1 by omega)
theorem size_zero1 (s : ByteArray) : (s ++ zero1).size = s.size + 1 := by
  rw [ByteArray.size_append]
  rfl
/-- The model's parts of a text with bytes 0 behind. -/
theorem sp_num (s pc : ByteArray) (h : ∀ j, bN s j = bN pc j) (hp : pc.size ≤ 17) (h16 : bN pc 16 < 4) : val (sp (bN s) 17) = num pc ∧ ∀ j, sp (bN s) 17 j < 67108864 := by
  have e : bN s = bN pc := funext h
  rw [e]
  exact ⟨(sp_val (bN_lt pc) h16 17 (Nat.le_refl _)).trans (num_pad pc 17 hp), sp_lt (bN_lt pc) h16⟩
theorem fo3 {v : Nat → Nat} (h : Half v) : Half (fo (fo (fo v))) ∧ val (fo (fo (fo v))) = val v ∧ ∀ j, fo (fo (fo v)) j < 67108864 := by
  obtain ⟨h1, h2, _⟩ := fo_half h
  have e1 : fo v = dg v := funext h1
  have k1 : Half (fo v) := by rw [e1]; exact dg_half v
  obtain ⟨h3, h4, _⟩ := fo_half k1
  have e2 : fo (fo v) = dg (fo v) := funext h3
  have k2 : Half (fo (fo v)) := by rw [e2]; exact dg_half _
  obtain ⟨h5, h6, _⟩ := fo_half k2
  have e3 : fo (fo (fo v)) = dg (fo (fo v)) := funext h5
  refine ⟨by rw [e3]; exact dg_half _, by rw [h6, h4, h2], fun j => by rw [h5]; exact dg_lt _ _⟩
theorem rd_lt {v : Nat → Nat} (h : ∀ j, v j < 67108864) (j : Nat) : rd v j < 67108864 := by
  unfold rd
  split
  · exact dg_lt _ _
  · exact h j
end Go.Proofs.YtggobhpjfflooaaGreatDoor.PolyD
namespace Go.Proofs.YtggobhpjfflooaaGreatDoor.SpTag
open Go.ChangeShapes Go.WideShapes Go.ChangeAt Go.RowKit
open Arr (Row)
open Five Poly PolyN PolyD
open Clamp (clT)
open Bytes (BV Owns)
open Word (bN bN_lt bN_at)
open SpParts (i64_wrap i64_mask26)
set_option linter.unusedVariables false

theorem new_row (w : World) (v : Nat → Nat) (cs : Array Value) (hcs : cs.size = 5) : (w.alloc (.cells cs 142)).there w.heap.size 0 (cn .i64 v).toArray.size ∧
    Row ((w.alloc (.cells cs 142)).setCells w.heap.size 0 (cn .i64 v)) w.heap.size 142 (cn .i64 v) := Reduced.new_row w .i64 v _ cs hcs
/-- What a round leaves. -/
structure Inv (w wr : World) (gf : Nat) (rv : Nat → Nat) (r : Nat) (t : ByteArray) (k : Nat) (v : Nat → Nat) : Prop where
  f : Row wr gf 142 (cn .i64 rv)
  h : Row wr (gf + 1) 142 (cn .i64 v)
  below : Below w.heap.size w wr
  half : Half v
  num : val v % P = hN r t k
  lf : w.heap.size ≤ gf
  lh : gf + 1 < wr.heap.size
def strLen : Value → Nat
  | .string s => s.size
  | _ => 0
theorem i64_mask8 (x : Nat) (h : x < 9223372036854775808) : bits .and .i64 (x : Int) 255 = ((x % 256 : Nat) : Int) := by
  have := Word.i64_and x 255 h (by omega)
  rw [nat_mask8] at this
  exact this

set_option maxRecDepth 100000 in
set_option maxHeartbeats 8000000 in
theorem l03Tag (key t : ByteArray) (hk : key.size = 32) (ht : t.size ≤ 1000000) (w : World) :
    Calls Tryz.prog 80 #[.string key, .string t] w fun e' w' => e' = .returned (.string (tagT key t)) ∧ Below w.heap.size w w' := by
  have HCL := Lib.hid (Clamp.l03Clamp key (by omega) (by omega))
  have hcs := Clamp.clT_size key
  have HPF := Lib.hid (SpParts.l03Parts (clT key ++ zero1) (by rw [size_zero1, hcs]))
  obtain ⟨hrv, hrl⟩ := sp_num (clT key ++ zero1) (clT key) (bN_zero1 _) (by omega) (by rw [bN_zero _ 16 (by omega)]; omega)
  have HRV := Lib.hid (show val (sp (bN (clT key ++ zero1)) 17) = fac key from hrv)
  have HRL := Lib.hid hrl
  clear hrv hrl
  have HPF2 := Lib.hid (show ∀ u : World, Calls Tryz.prog 93 #[.string (clT key ++ ⟨#[0]⟩)] u fun e' u' => e' = .returned (.agg (cn .i64 (sp (bN (clT key ++ zero1)) 17)).toArray) ∧ Below u.heap.size u u' from HPF.out)
  clear HPF
  generalize sp (bN (clT key ++ zero1)) 17 = rv at *
  generalize clT key = CL at *
  have HT0 := Lib.hid ht
  have HK0 := Lib.hid hk
  have HNF := Lib.hid (fun w cs hcs => new_row w rv cs hcs)
  have HIF := Lib.hid (infoI rv)
  have HOF := Lib.hid (cn_one .i64 rv)
  have hti : (t.size : Int) ≤ 1000000 := by omega
  have hki : (key.size : Int) = 32 := by omega
  clear hk
  have HTG := Lib.hid (show tagT key t = ⟨(TagBytes.bl (hN (fac key) t (pcs t) + num (tail key))).toArray⟩ from rfl)
  generalize tagT key t = TG at *
  generalize fac key = r at *
  go_enter Tryz.func80, Tryz.ntmps80
  go_wp2_with fail
  refine (HCL.out _).mono ?_
  rintro e' w1 ⟨rfl, hb1⟩
  go_wp2_with fail
  refine (HPF2.out _).mono ?_
  rintro e' w2 ⟨rfl, hb2⟩
  have HB2 := Lib.hid (hb1.trans (hb2.mono hb1.size))
  clear hb1 hb2 HCL HPF2 hcs
  go_upto_region 2 with (((with_reducible show wpList _ _ _ _ _ _); refine wpList_store_mid rfl 142 _ _ rfl w2.heap.size 0 (cn .i64 rv).toArray rfl rfl (HNF.out w2 _ rfl).1 HIF.out HOF.out ?_; simp only []))
  generalize hW3 : (w2.alloc _).setCells _ _ _ = W3
  obtain ⟨Q0, QB, qsz⟩ : Row W3 w2.heap.size 142 (cn .i64 rv) ∧ Below w.heap.size w W3 ∧ W3.heap.size = w2.heap.size + 1 := by
    rw [← hW3]
    exact ⟨(HNF.out w2 _ rfl).2, Arr.below_sets _ HB2.out.size _ _ _ (HB2.out.alloc HB2.out.size _), by rw [Arr.size_sets]; simp⟩
  have hlf := HB2.out.size
  clear hW3 HB2
  generalize w2.heap.size = gf at *
  have HQ0 := Lib.hid Q0
  have HQB := Lib.hid QB
  clear Q0 QB
  go_wp2
  generalize hW4 : W3.alloc _ = W4
  have HST : Hid (Inv w W4 gf rv r t 0 (fun _ => 0)) := by
    rw [← hW4]
    have h4 := Arr.row_new W3 (#[.int .i64 0, .int .i64 0, .int .i64 0, .int .i64 0, .int .i64 0] : Array Value) 142
    rw [qsz] at h4
    exact Lib.hid ⟨HQ0.out.alloc _, h4, HQB.out.alloc HQB.out.size _, half_zero, rfl, hlf, by simp; omega⟩
  clear hW4 HQ0 HQB HNF HOF qsz
  go_loopw [7] (fun i wz => ∃ (k p : Nat) (v : Nat → Nat) (wr : World), p ≤ t.size + 15 ∧ i = .int .i64 p ∧ wr = wz ∧ Hid (p = 16 * k) ∧ Hid (Inv w wr gf rv r t k v)) (fun i _ => t.size + 16 - (intOf i).toNat)
  case atStart => exact ⟨0, 0, _, _, by omega, rfl, rfl, Lib.hid rfl, HST⟩
  case round =>
    clear HST
    obtain ⟨k, p, v, wo, hp, rfl, rfl, HP, HX⟩ := hrel
    by_cases hlt : p < t.size
    · have i1 : (p : Int) < (t.size : Int) := by omega
      have i0 : (0 : Int) ≤ (p : Int) := by omega
      obtain ⟨q, eq⟩ : ∃ q, p + 16 = q := ⟨_, rfl⟩
      have e1 : (p : Int) + 16 = (q : Int) := by omega
      have wq : IntKind.i64.wrap (q : Int) = q := by rw [IntKind.wrap_i64]; omega
      obtain ⟨b, hbm⟩ : ∃ b, min t.size q = b := ⟨_, rfl⟩
      have HPC := Lib.hid (show t.extract p b ++ one = piece t k by unfold piece; rw [← hbm, ← eq, HP.out])
      have hps : (t.extract p b).size ≤ 16 := by rw [ByteArray.size_extract]; omega
      have HSM := Lib.hid (piece_small t k)
      have HTP := Lib.hid (piece_top t k)
      have HST2 := Lib.hid (hN_step r t k)
      generalize piece t k = pc at *
      have hlh := HX.out.lh
      have hlw : w.heap.size ≤ gf := HX.out.lf
      have hvh := Lib.hid HX.out.half.lt
      go_upto_region 6 with (fail)
      go_cut [8] from 27 to 36 (fun v8 wc => v8 = .string pc ∧ wo = wc)
      case first =>
        by_cases hq : q < t.size
        · obtain rfl : b = q := by omega
          have q1 : (b : Int) < (t.size : Int) := by omega
          have q2 : (p : Int) ≤ (b : Int) := by omega
          have q3 : (b : Int) ≤ (t.size : Int) := by omega
          clear hbm
          go_wp2_with fail
          go_meet
          exact ⟨by rw [← HPC.out]; rfl, rfl⟩
        · obtain rfl : b = t.size := by omega
          have q1 : ¬ (q : Int) < (t.size : Int) := by omega
          have q2 : (p : Int) ≤ (t.size : Int) := by omega
          have q3 : (t.size : Int) ≤ (q : Int) := by omega
          clear hbm
          go_wp2_with fail
          go_meet
          exact ⟨by rw [← HPC.out]; rfl, rfl⟩
      case rest =>
      obtain ⟨rfl, rfl⟩ := hcut
      have HPQ := Lib.hid (show p + 16 = q from eq)
      clear hbm hps HPC eq
      go_wp2
      go_loopw [8] (fun s wz => ∃ (x : ByteArray), s = .string x ∧ x.size ≤ 17 ∧ wo = wz ∧ Hid (∀ j, bN x j = bN pc j)) (fun s _ => 17 - strLen s)
      case atStart => exact ⟨pc, rfl, HSM.out, rfl, Lib.hid fun _ => rfl⟩
      case round =>
        obtain ⟨x, rfl, hxs, rfl, HXB⟩ := hrel
        by_cases hx : x.size < 17
        · have x17 : (x.size : Int) < 17 := by omega
          have HXZ := Lib.hid (size_zero1 x)
          have HXN := Lib.hid (bN_zero1 x)
          go_wp2
          go_roundw
          case rel => exact ⟨_, rfl, by have := HXZ.out; show (x ++ zero1).size ≤ 17; omega, by first | rfl | trivial, Lib.hid fun j => (HXN.out j).trans (HXB.out j)⟩
          case measure => show 17 - (x ++ zero1).size < 17 - x.size; have := HXZ.out; omega
        · have x17 : ¬ (x.size : Int) < 17 := by omega
          have HXS := Lib.hid (show x.size = 17 by omega)
          have HPP := Lib.hid (SpParts.l03Parts x HXS.out)
          obtain ⟨hmv, hml⟩ := sp_num x pc HXB.out HSM.out HTP.out
          have HPV := Lib.hid hmv
          have HPL := Lib.hid hml
          clear hmv hml hxs
          generalize sp (bN x) 17 = m at *
          have HNP := Lib.hid (fun w cs hcs => new_row w m cs hcs)
          have HIP := Lib.hid (infoI m)
          have HOP := Lib.hid (cn_one .i64 m)
          have HTM := Lib.hid (SpTimes.l03Times (fun j => v j + m j) rv (fun j => by have := hvh.out j; have := HPL.out j; show v j + m j < _; omega) HRL.out)
          have HSS := Lib.hid (pa_small (a := fun j => v j + m j) (b := rv) (fun j => by have := hvh.out j; have := HPL.out j; show v j + m j < _; omega) HRL.out)
          have HHF := Lib.hid (show Half (fo (fo (fo (pa (fun j => v j + m j) rv 25)))) from fo_fo (fun j hj => by have := (fo_small HSS.out).1 j hj; omega))
          have HNM := Lib.hid (show val (fo (fo (fo (pa (fun j => v j + m j) rv 25)))) % P = hN r t (k + 1) from
            HST2.out (val v) _ HX.out.num (by rw [val_fo_mod, val_fo_mod, val_fo_mod, pa_mod, val_add, HRV.out, HPV.out]))
          generalize fo (fo (fo (pa (fun j => v j + m j) rv 25))) = v' at *
          clear HSS
          go_wp2_with fail
          refine (HPP.out _).mono ?_
          rintro e' w1 ⟨rfl, hb1⟩
          go_upto_region 10 with (((with_reducible show wpList _ _ _ _ _ _); refine wpList_store_mid rfl 142 _ _ rfl w1.heap.size 0 (cn .i64 m).toArray rfl rfl (HNP.out w1 _ rfl).1 HIP.out HOP.out ?_; simp only []))
          generalize hW5 : (w1.alloc _).setCells _ _ _ = W5
          obtain ⟨Q0, Q1, Q2, QB, qsz⟩ : Row W5 gf 142 (cn .i64 rv) ∧ Row W5 (gf + 1) 142 (cn .i64 v) ∧ Row W5 w1.heap.size 142 (cn .i64 m) ∧ Below w.heap.size w W5 ∧ W5.heap.size = w1.heap.size + 1 := by
            rw [← hW5]
            have hz := hb1.size
            refine ⟨((HX.out.f.below hb1 (by omega)).alloc _).sets_far (by omega) _ _ _, ((HX.out.h.below hb1 (by omega)).alloc _).sets_far (by omega) _ _ _, (HNP.out w1 _ rfl).2, Arr.below_sets _ (by omega) _ _ _ ((HX.out.below.trans (hb1.mono (by omega))).alloc (by omega) _), by rw [Arr.size_sets]; simp⟩
          have hz := hb1.size
          clear hW5 hb1
          generalize w1.heap.size = gp at *
          have HQ : Hid (Row W5 gf 142 (cn .i64 rv) ∧ Row W5 (gf + 1) 142 (cn .i64 fun j => if j < 0 then v j + m j else v j) ∧ Row W5 gp 142 (cn .i64 m) ∧ Below w.heap.size w W5 ∧ gf + 1 < W5.heap.size) := Lib.hid ⟨Q0, Q1, Q2, QB, by omega⟩
          have hgp : gf + 1 < gp := by omega
          clear Q0 Q1 Q2 QB HNP HIP HOP HPP qsz hz
          go_wp2
          go_loopw [10] (fun i wz => ∃ (l : Nat) (wr : World), l ≤ 5 ∧ i = .int .i64 l ∧ wr = wz ∧ Hid (Row wr gf 142 (cn .i64 rv) ∧ Row wr (gf + 1) 142 (cn .i64 fun j => if j < l then v j + m j else v j) ∧ Row wr gp 142 (cn .i64 m) ∧ Below w.heap.size w wr ∧ gf + 1 < wr.heap.size)) (fun i _ => 5 - (intOf i).toNat)
          case atStart => exact ⟨0, _, by omega, rfl, rfl, HQ⟩
          case round =>
            clear HQ
            obtain ⟨l, wr, hl, rfl, rfl, HQ⟩ := hrel
            by_cases hl5 : l < 5
            · have c0 := HQ.out.2.1.cell l
              rw [cn_at .i64 _ l hl5, if_neg (by omega)] at c0
              have c1 := HQ.out.2.2.1.cell l
              rw [cn_at .i64 _ l hl5] at c1
              have f0 := HQ.out.2.1.frozen l
              have b0 := hvh.out l
              have b1 := HPL.out l
              have l1 : (l : Int) < 5 := by omega
              have l0 : (0 : Int) ≤ (l : Int) := by omega
              obtain ⟨s, es⟩ : ∃ s, v l + m l = s := ⟨_, rfl⟩
              have hw : IntKind.i64.wrap ((v l : Int) + (m l : Int)) = (s : Int) := by rw [← i64_wrap s (by omega), ← es]; rfl
              have HES := Lib.hid (show ∀ c, c = l → v c + m c = s from fun c hc => by rw [hc]; exact es)
              clear es b0 b1
              generalize v l = ak at *
              generalize m l = bk at *
              have q0 : ∀ k', (World.mk wr.heap wr.tape k' wr.os wr.output).cell? ⟨gf + 1, l, none⟩ = some (.int .i64 (ak : Int)) := fun _ => c0
              have q1 : ∀ k', (World.mk wr.heap wr.tape k' wr.os wr.output).cell? ⟨gp, l, none⟩ = some (.int .i64 (bk : Int)) := fun _ => c1
              go_wp2
              go_still_tail 8, (by kernel_rfl)
              clear q0 q1
              change wpList _ _ _ _ _ wr.drew
              go_wp2
              go_roundw
              case rel =>
                obtain ⟨h1, h2, h3, h4, h6⟩ := HQ.out
                refine ⟨l + 1, _, by omega, by go_num, rfl, Lib.hid ⟨(h1.set_far _ _ _ (by omega)).drew, ?_, (h3.set_far _ _ _ (by omega)).drew, (h4.setCell (show w.heap.size ≤ gf + 1 by omega) _).drew, by show gf + 1 < (World.setCell _ _ _).heap.size; simp [World.setCell]; exact h6⟩⟩
                have h5 := h2.set l (.int .i64 (s : Int))
                rw [cn_set .i64 _ (fun j => if j < l + 1 then v j + m j else v j) l _ hl5 ?_ ?_] at h5
                · exact h5.drew
                · rw [if_pos (by omega), HES.out l rfl]
                · intro j hj hjk
                  by_cases e : j < l
                  · rw [if_pos e, if_pos (by omega)]
                  · rw [if_neg e, if_neg (by omega)]
              case measure => simp [intOf]; omega
            · obtain rfl : l = 5 := by omega
              obtain ⟨h1, h2, h3, h4, h6⟩ := HQ.out
              rw [cn_congr .i64 (u := fun j => v j + m j) (fun j hj => if_pos hj)] at h2
              have HR0 := Lib.hid h1
              have HR1 := Lib.hid h2
              have HRB := Lib.hid h4
              have HI1 := Lib.hid (infoI (fun j => v j + m j))
              have HL1 := Lib.hid (cn_len .i64 (fun j => v j + m j))
              have HIV := Lib.hid (infoI v')
              have HOV := Lib.hid (cn_one .i64 v')
              have HTV := Lib.hid (fun (w : World) g t xs (h : Row w g t xs) hl => there_row h hl .i64 v')
              have HSV := Lib.hid (fun (w : World) g t xs (h : Row w g t xs) hl => sets_row h hl .i64 v')
              clear h1 h2 h3 h4 HQ
              generalize cn .i64 (fun j => v j + m j) = sm at *
              go_wp2_with (first
                | ((with_reducible show wpList _ _ _ _ _ _); refine wpList_load_row rfl 142 _ rfl (gf + 1) rfl 142 _ (0, 0) _ HR1.out Tryz.underlying142 rfl HI1.out ?_)
                | ((with_reducible show wpList _ _ _ _ _ _); refine wpList_load_row rfl 142 _ rfl gf rfl 142 _ (0, 0) _ HR0.out Tryz.underlying142 rfl HIF.out ?_))
              refine (HTM.out _).mono ?_
              rintro e' w6 ⟨rfl, hb6⟩
              have HS0 := Lib.hid (HR0.out.below hb6 (by omega))
              have HS1 := Lib.hid (HR1.out.below hb6 h6)
              have HSB := Lib.hid (HRB.out.trans (hb6.mono (by omega)))
              have hz6 : gf + 1 < w6.heap.size := Nat.lt_of_lt_of_le h6 hb6.size
              clear hb6 HR0 HR1 HRB
              have HT1 := Lib.hid (HTV.out _ _ _ _ HS1.out HL1.out)
              have HF1 := Lib.hid (HSV.out _ _ _ _ HS1.out HL1.out)
              have HF0 := Lib.hid (HS0.out.sets_far (show gf ≠ gf + 1 by omega) (cn .i64 v') 0 w6)
              have HFB := Lib.hid (Arr.below_sets (B := w.heap.size) (a := w) (gf + 1) (by omega) (cn .i64 v') 0 w6 HSB.out)
              have HFZ := Lib.hid (show gf + 1 < (w6.setCells (gf + 1) 0 (cn .i64 v')).heap.size by rw [Arr.size_sets]; exact hz6)
              go_upto_region 5 with (((with_reducible show wpList _ _ _ _ _ _); refine wpList_store_mid rfl 142 _ _ rfl (gf + 1) 0 (cn .i64 v').toArray rfl rfl HT1.out HIV.out HOV.out ?_; simp only []))
              generalize w6.setCells (gf + 1) 0 (cn .i64 v') = W7 at *
              go_wp2
              go_roundw
              case rel => exact ⟨k + 1, q, v', _, by have := HPQ.out; omega, by go_num, rfl, Lib.hid (by have := HP.out; have := HPQ.out; omega), Lib.hid ⟨HF0.out, HF1.out, HFB.out, HHF.out, HNM.out, hlw, HFZ.out⟩⟩
              case measure => simp [intOf]; have := HPQ.out; omega
    · have i1 : ¬ (p : Int) < (t.size : Int) := by omega
      have HKP := Lib.hid (show k = pcs t by unfold pcs; have := HP.out; omega)
      obtain ⟨h3a, h3b, h3c⟩ := fo3 HX.out.half
      have HC1 := Lib.hid (SpCarry.l03Carry v (fun j _ => by have := HX.out.half.lt j; omega))
      have HC2 := Lib.hid (SpLess.l03Less _ h3a)
      have HVAL := Lib.hid (show val (rd (fo (fo (fo v)))) = hN r t (pcs t) by rw [rd_val h3a, h3b, HX.out.num, HKP.out])
      have HUL := Lib.hid (rd_lt h3c)
      have hlh := HX.out.lh
      have hlw : w.heap.size ≤ gf := HX.out.lf
      have HR1 := Lib.hid HX.out.h
      have HRB := Lib.hid HX.out.below
      have HIV := Lib.hid (infoI v)
      have HLV := Lib.hid (cn_len .i64 v)
      clear h3a h3b h3c HX HP
      generalize rd (fo (fo (fo v))) = u at *
      generalize fo (fo (fo v)) = v3 at *
      have HIU := Lib.hid (infoI u)
      have HOU := Lib.hid (cn_one .i64 u)
      have HTU := Lib.hid (fun (w : World) g t xs (h : Row w g t xs) hl => there_row h hl .i64 u)
      have HSU := Lib.hid (fun (w : World) g t xs (h : Row w g t xs) hl => sets_row h hl .i64 u)
      go_wp2_with (((with_reducible show wpList _ _ _ _ _ _); refine wpList_load_row rfl 142 _ rfl (gf + 1) rfl 142 _ (0, 0) _ HR1.out Tryz.underlying142 rfl HIV.out ?_))
      refine (HC1.out _).mono ?_
      rintro e' w6 ⟨rfl, hb6⟩
      have hz6 : gf + 1 < w6.heap.size := Nat.lt_of_lt_of_le hlh hb6.size
      have HS1 := Lib.hid (HR1.out.below hb6 hlh)
      have HSB := Lib.hid (HRB.out.trans (hb6.mono (by omega)))
      clear hb6 HR1 HRB HC1
      go_wp2_with fail
      refine (HC2.out _).mono ?_
      rintro e' w7 ⟨rfl, hb7⟩
      have hz7 : gf + 1 < w7.heap.size := Nat.lt_of_lt_of_le hz6 hb7.size
      have HX1 := Lib.hid (HS1.out.below hb7 hz6)
      have HXB := Lib.hid (HSB.out.trans (hb7.mono (by omega)))
      clear hb7 HS1 HSB HC2
      have HT1 := Lib.hid (HTU.out _ _ _ _ HX1.out HLV.out)
      have HF1 := Lib.hid (HSU.out _ _ _ _ HX1.out HLV.out)
      have HFB := Lib.hid (Arr.below_sets (B := w.heap.size) (a := w) (gf + 1) (by omega) (cn .i64 u) 0 w7 HXB.out)
      have hfz : gf + 1 < (w7.setCells (gf + 1) 0 (cn .i64 u)).heap.size := by rw [Arr.size_sets]; exact hz7
      go_upto_region 16 with (((with_reducible show wpList _ _ _ _ _ _); refine wpList_store_mid rfl 142 _ _ rfl (gf + 1) 0 (cn .i64 u).toArray rfl rfl HT1.out HIU.out HOU.out ?_; simp only []))
      generalize w7.setCells (gf + 1) 0 (cn .i64 u) = W7 at *
      clear HT1 HX1 HXB hz6 hz7 hlh
      have HTGL := Lib.hid (tgl_bl (val u) key HK0.out)
      rw [HVAL.out] at HTGL
      have HBY := Lib.hid (byte_add u HUL.out)
      rw [HVAL.out] at HBY
      have HFL := Lib.hid (show ∀ i, (fun i => hN r t (pcs t) / 256 ^ i % 256) i < 256 from fun i => Nat.mod_lt _ (by omega))
      have HC0 := Lib.hid (show cy (fun i => hN r t (pcs t) / 256 ^ i % 256) (fun i => bN key (16 + i)) 0 = 0 from rfl)
      have HCS := Lib.hid (show ∀ k, cy (fun i => hN r t (pcs t) / 256 ^ i % 256) (fun i => bN key (16 + i)) (k + 1) = (cy (fun i => hN r t (pcs t) / 256 ^ i % 256) (fun i => bN key (16 + i)) k + (hN r t (pcs t) / 256 ^ k % 256 + bN key (16 + k))) / 256 from fun _ => rfl)
      have HDS := Lib.hid (show ∀ k, di (fun i => hN r t (pcs t) / 256 ^ i % 256) (fun i => bN key (16 + i)) k = (cy (fun i => hN r t (pcs t) / 256 ^ i % 256) (fun i => bN key (16 + i)) k + (hN r t (pcs t) / 256 ^ k % 256 + bN key (16 + k))) % 256 from fun _ => rfl)
      have HCL := Lib.hid (cy_le HFL.out (fun i => bN_lt key (16 + i)))
      rw [← HTGL.out] at HTG
      clear HTGL HVAL HFL
      generalize di (fun i => hN r t (pcs t) / 256 ^ i % 256) (fun i => bN key (16 + i)) = D at *
      generalize cy (fun i => hN r t (pcs t) / 256 ^ i % 256) (fun i => bN key (16 + i)) = C at *
      generalize hN r t (pcs t) = H at *
      obtain ⟨i0, hi0, hz0, hz1, hz2⟩ := info_parts Bytes.info5
      go_wp2
      go_loopw [11, 12, 13] (fun ou c i wz => ∃ (k : Nat) (wr : World), k ≤ 16 ∧ i = .int .i64 k ∧ c = .int .i64 (C k : Int) ∧ wr = wz ∧ Hid (Owns wr W7.heap.size ou (tgl D k)) ∧ Hid (Below W7.heap.size W7 wr)) (fun _ _ i _ => 16 - (intOf i).toNat)
      case atStart => exact ⟨0, _, by omega, rfl, by rw [HC0.out]; rfl, rfl, Lib.hid (Bytes.owns_made W7 W7.heap.size 0 #[] (Nat.le_refl _) (by unfold maxLen; omega) rfl), Lib.hid ((Below.refl _ _).alloc (Nat.le_refl _) _)⟩
      case round =>
        obtain ⟨k, wr, hk, rfl, rfl, rfl, R, HB⟩ := hrel
        have HL := Lib.hid (tgl_length D k)
        have hl1 : (tgl D k).length ≤ 16 := by rw [HL.out]; omega
        have hz := Lib.hid HB.out.size
        by_cases hlt16 : k < 16
        · obtain ⟨q, eq⟩ : ∃ q, 8 * k / 26 = q := ⟨_, rfl⟩
          obtain ⟨rr, er⟩ : ∃ r, 8 * k % 26 = r := ⟨_, rfl⟩
          obtain ⟨pp, ep⟩ : ∃ p, 8 * k = p := ⟨_, rfl⟩
          obtain ⟨sb, es⟩ : ∃ s, 26 - rr = s := ⟨_, rfl⟩
          have hq : q < 5 := by omega
          have hr : rr < 26 := by omega
          have HRW := Lib.hid (HF1.out.below HB.out hfz)
          have c0 := HRW.out.cell q
          rw [cn_at .i64 _ q hq] at c0
          have i16 : (k : Int) < 16 := by omega
          have k0 : (0 : Int) ≤ (k : Int) := by omega
          have e0 : (8 : Int) * (k : Int) = (pp : Int) := by omega
          have e1 : (pp : Int) / 26 = (q : Int) := by omega
          have e2 : (pp : Int) % 26 = (rr : Int) := by omega
          have e3 : (26 : Int) - (rr : Int) = (sb : Int) := by omega
          have wp : IntKind.i64.wrap (pp : Int) = pp := by rw [IntKind.wrap_i64]; omega
          have wq : IntKind.i64.wrap (q : Int) = q := by rw [IntKind.wrap_i64]; omega
          have wr1 : IntKind.i64.wrap (rr : Int) = rr := by rw [IntKind.wrap_i64]; omega
          have ws : IntKind.i64.wrap (sb : Int) = sb := by rw [IntKind.wrap_i64]; omega
          have q1 : (q : Int) < 5 := by omega
          have q0 : (0 : Int) ≤ (q : Int) := by omega
          have r0 : (0 : Int) ≤ (rr : Int) := by omega
          have s0 : (0 : Int) ≤ (sb : Int) := by omega
          have HBX := Lib.hid (HBY.out k hlt16)
          rw [eq, er, es] at HBX
          have hvq := HUL.out q
          have hvn := HUL.out (q + 1)
          obtain ⟨a, ea⟩ : ∃ a, u q / 2 ^ rr = a := ⟨_, rfl⟩
          have hab : a ≤ u q := by rw [← ea]; exact Nat.div_le_self _ _
          have hdv : (u q : Int) / 2 ^ rr = (a : Int) := by rw [← ea]; simp
          have hnn : (0 : Int) ≤ (u q : Int) := by omega
          obtain ⟨y, ey⟩ : ∃ y, u (q + 1) * 2 ^ sb = y := ⟨_, rfl⟩
          have hyb : y ≤ 67108864 * 67108864 := by rw [← ey]; exact Nat.mul_le_mul (Nat.le_of_lt hvn) (show 2 ^ sb ≤ 2 ^ 26 from Nat.pow_le_pow_right (by omega) (by omega))
          have hml : IntKind.i64.wrap ((u (q + 1) : Int) * 2 ^ sb) = (y : Int) := by
            have e10 : (u (q + 1) : Int) * 2 ^ sb = (y : Int) := by rw [← ey]; simp
            rw [e10, i64_wrap y (by omega)]
          rw [ea, ey] at HBX
          obtain ⟨kk, ek⟩ : ∃ kk, 16 + k = kk := ⟨_, rfl⟩
          have e6 : (16 : Int) + (k : Int) = (kk : Int) := by omega
          have wk : IntKind.i64.wrap (kk : Int) = kk := by rw [IntKind.wrap_i64]; omega
          have hkk : kk < key.size := by have := HK0.out; omega
          have k1 : (kk : Int) < (key.size : Int) := by omega
          have k2 : (0 : Int) ≤ (kk : Int) := by omega
          have y1 : key[kk].toNat = bN key kk := bN_at key kk hkk
          have hgk := bN_lt key kk
          have hck := HCL.out k
          have HCX := Lib.hid (HCS.out k)
          have HDX := Lib.hid (HDS.out k)
          rw [ek] at HCX HDX
          have wg : IntKind.i64.wrap (bN key kk : Int) = (bN key kk : Int) := i64_wrap _ (by omega)
          obtain ⟨fb, efb⟩ : ∃ fb, H / 256 ^ k % 256 = fb := ⟨_, rfl⟩
          have hfb : fb < 256 := by rw [← efb]; exact Nat.mod_lt _ (by omega)
          rw [efb] at HBX HCX HDX
          generalize bN key kk = gk at *
          obtain ⟨e, ee⟩ : ∃ e, fb + gk = e := ⟨_, rfl⟩
          have hwe : IntKind.i64.wrap ((fb : Int) + (gk : Int)) = (e : Int) := by rw [← i64_wrap e (by omega), ← ee]; rfl
          rw [ee] at HCX HDX
          generalize C k = ck at *
          obtain ⟨s, es2⟩ : ∃ s, ck + e = s := ⟨_, rfl⟩
          have hws : IntKind.i64.wrap ((ck : Int) + (e : Int)) = (s : Int) := by rw [← i64_wrap s (by omega), ← es2]; rfl
          rw [es2] at HCX HDX
          have hd256 : (s : Int) % 256 = (D k : Int) := by rw [HDX.out]; omega
          have hs256 : (s : Int) / 256 = (C (k + 1) : Int) := by rw [HCX.out]; omega
          have hsn : (0 : Int) ≤ (s : Int) := by omega
          have hdl : D k < 256 := by rw [HDX.out]; omega
          have HSN := Lib.hid (tgl_snoc D k)
          have HCE := Lib.hid (show BV [UInt8.ofNat (D k)] = [.int .u8 (D k : Int)] by simp only [BV, List.map_cons, List.map_nil, UInt8.toNat_ofNat']; rw [Nat.mod_eq_of_lt hdl])
          generalize D k = dk at *
          generalize hcn : C (k + 1) = cn1 at *
          have HCN := Lib.hid hcn
          clear hcn
          generalize tgl D k = bs at *
          by_cases h18 : 18 < rr
          · have t18 : (18 : Int) < (rr : Int) := by omega
            rw [if_pos h18] at HBX
            obtain ⟨qn, eqn⟩ : ∃ qn, q + 1 = qn := ⟨_, rfl⟩
            have hq4 : qn < 5 := by omega
            have c2 := HRW.out.cell qn
            rw [cn_at .i64 _ qn hq4] at c2
            rw [eqn] at hml
            have e5 : (q : Int) + 1 = (qn : Int) := by omega
            have q3 : (qn : Int) < 5 := by omega
            have q4 : (0 : Int) ≤ (qn : Int) := by omega
            have wqn : IntKind.i64.wrap (qn : Int) = qn := by rw [IntKind.wrap_i64]; omega
            have hwa : IntKind.i64.wrap ((a : Int) + (y : Int)) = ((a + y : Nat) : Int) := by rw [← i64_wrap (a + y) (by omega)]; rfl
            have hmk := i64_mask8 (a + y) (by omega)
            rw [HBX.out] at hmk
            have hmm : ((a + y : Nat) : Int) % 256 = (fb : Int) := by rw [← HBX.out]; omega
            generalize a + y = ay at *
            generalize u q = uq at *
            generalize u qn = un at *
            have hayn : (0 : Int) ≤ (ay : Int) := by omega
            clear ea ey eq er ep es hq hr hab hyb hvq hvn ek hgk hck HCX HDX efb hfb ee es2 hdl h18 eqn hq4 HBX
            go_wp2_with (at_builtin; refine wpList_append_lies _ rfl _ _ _ rfl W7.heap.size 5 i0 _ 1 1 Tryz.underlying22 hi0 hz0 hz1 hz2 rfl (by omega) _ bs.length (BV bs) (by rfl) (World.ownsRow.alloc R.out _) ⟨wr.heap.size, 0, none⟩ 1 1 [.int .u8 (dk : Int)] (by rfl) (by rfl) (World.news_of_block (cs := #[.int .u8 (dk : Int)]) (t := 5) (fr := (0, 0)) (heap_alloc_new wr _)) (by simp [Value.oneCell']) (by omega) (by unfold maxLen; omega) (by omega) (by have := hz.out; simp; omega) (wr.heap.size + 1) (by simp) ?_; intro gg cap w1 hown1 hgrow hat hlt1; have HO := Lib.hid hown1; have HG := Lib.hid hgrow; clear hown1 hgrow hat hlt1)
            go_roundw
            case rel => exact ⟨k + 1, _, by omega, by go_num, by rw [HCN.out], rfl, Lib.hid (by
              rw [HSN.out]
              have := HO.out
              rw [← HCE.out] at this
              exact Bytes.owns_grown this rfl), Lib.hid ((HB.out.trans ((Below.refl _ _).alloc HB.out.size _)).grown HG.out (by have := hz.out; simp; omega) (Owns.block R.out))⟩
            case measure => simp [intOf]; omega
          · have t18 : ¬ (18 : Int) < (rr : Int) := by omega
            rw [if_neg h18] at HBX
            have hmk := i64_mask8 a (by omega)
            rw [HBX.out] at hmk
            have hmm : (a : Int) % 256 = (fb : Int) := by rw [← HBX.out]; omega
            generalize u q = uq at *
            clear ea ey eq er ep es hq hr hab hyb hvq hvn ek hgk hck HCX HDX efb hfb ee es2 hdl h18 HBX hml
            go_wp2_with (at_builtin; refine wpList_append_lies _ rfl _ _ _ rfl W7.heap.size 5 i0 _ 1 1 Tryz.underlying22 hi0 hz0 hz1 hz2 rfl (by omega) _ bs.length (BV bs) (by rfl) (World.ownsRow.alloc R.out _) ⟨wr.heap.size, 0, none⟩ 1 1 [.int .u8 (dk : Int)] (by rfl) (by rfl) (World.news_of_block (cs := #[.int .u8 (dk : Int)]) (t := 5) (fr := (0, 0)) (heap_alloc_new wr _)) (by simp [Value.oneCell']) (by omega) (by unfold maxLen; omega) (by omega) (by have := hz.out; simp; omega) (wr.heap.size + 1) (by simp) ?_; intro gg cap w1 hown1 hgrow hat hlt1; have HO := Lib.hid hown1; have HG := Lib.hid hgrow; clear hown1 hgrow hat hlt1)
            go_roundw
            case rel => exact ⟨k + 1, _, by omega, by go_num, by rw [HCN.out], rfl, Lib.hid (by
              rw [HSN.out]
              have := HO.out
              rw [← HCE.out] at this
              exact Bytes.owns_grown this rfl), Lib.hid ((HB.out.trans ((Below.refl _ _).alloc HB.out.size _)).grown HG.out (by have := hz.out; simp; omega) (Owns.block R.out))⟩
            case measure => simp [intOf]; omega
        · have hfin := Lib.hid (show k = 16 by omega)
          have hconv := R.out.string
          rw [hfin.out, ← HTG.out] at hconv
          go_wp2
          go_ret
          exact ⟨rfl, HFB.out.trans (HB.out.mono HFB.out.size)⟩
end Go.Proofs.YtggobhpjfflooaaGreatDoor.SpTag
