/-
  What is proved: the 64 words of a block, on uint32, are the plain ones (contract for the walks).
-/
import Derived.Test.YtemlmffoehclhaaDoorRows
import Derived.Test.YtemlmffoehclhaaDoorRot
import Derived.Test.YtemlmffoehclhaaDoorArr
import Derived.WalkSpells
namespace Go.Proofs.YtemlmffoehclhaaDoor.BlockWords
open Go.ChangeShapes Go.WideShapes Go.ChangeAt Go.RowKit
open Word
open Arr (Row)
set_option linter.unusedVariables false

def w32 (m : Nat → Nat) : List Value := (List.range 64).map fun j => .int .u32 (wd m j : Int)

theorem info64 : (Tryd.prog.info? 89).map (·.size) = some 64 := by kernel_rfl
set_option maxRecDepth 100000 in
set_option maxHeartbeats 3200000 in
theorem blockWords (s : ByteArray) (hs : s.size = 64) (w : World) :
    Calls Tryd.prog 79 #[.string s] w fun e' w' => e' = .returned (.agg (w32 (mw s)).toArray) ∧ Below w.heap.size w w' := by
  have HS := Lib.hid hs
  have hs1 : s.size ≤ 64 := by omega
  have hs2 : 64 ≤ s.size := by omega
  clear hs
  go_enter Tryd.func79, Tryd.ntmps79
  go_wp2
  generalize hW : (w.alloc _).alloc _ = W
  obtain ⟨z0, z1, hz0, hz1, R0, R1, HB, hsz⟩ : ∃ z0 z1 : List Value, z0.length = 64 ∧ z1.length = 64 ∧ Row W w.heap.size 89 z0 ∧ Row W (w.heap.size + 1) 89 z1 ∧ Below w.heap.size w W ∧ w.heap.size + 2 ≤ W.heap.size := by
    rw [← hW]
    refine ⟨_, _, ?_, ?_, (Arr.two_new w _ _ _ _).1, (Arr.two_new w _ _ _ _).2.1, (Arr.two_new w _ _ _ _).2.2.1, (Arr.two_new w _ _ _ _).2.2.2⟩
    · rfl
    · rfl
  clear hW
  have Z0 := Lib.hid hz0
  have Z1 := Lib.hid hz1
  have RR0 := Lib.hid R0
  have RR1 := Lib.hid R1
  have HBW := Lib.hid HB
  have HSZ := Lib.hid hsz
  clear hz0 hz1 R0 R1 HB hsz
  go_loopw [9] (fun i wr => ∃ (k : Nat) (xs : List Value), k ≤ 16 ∧ i = .int .i64 k ∧ Hid (xs.length = 64 ∧ Row wr (w.heap.size + 1) 89 xs ∧ ∀ j, j < k → xs[j]? = some (.int .u32 (wd (mw s) j : Int))) ∧ Hid (Row wr w.heap.size 89 z0) ∧ Hid (Below w.heap.size w wr)) (fun i _ => 16 - (intOf i).toNat)
  case atStart => exact ⟨0, z1, by omega, rfl, Lib.hid ⟨Z1.out, RR1.out, fun j h => by omega⟩, RR0, HBW⟩
  case round =>
    rename_i wr
    obtain ⟨k, xs, hk, rfl, HX, H0, HB⟩ := hrel
    by_cases hlt : k < 16
    · have hc := (HX.out.2.1).cell k
      have hf := (HX.out.2.1).frozen k
      have hxl := HX.out.1
      rw [List.getElem?_eq_getElem (by omega)] at hc
      generalize xs[k] = v0 at hc
      clear hxl
      have hk2 : (k : Int) < 16 := by omega
      have h4a : 4 * k + 4 ≤ s.size := by omega
      have h4 : 4 * (k : Int) + 4 ≤ (s.size : Int) := by omega
      have hxb : (s.extract (4 * k) (4 * k + 4)).size = 4 := by rw [ByteArray.size_extract]; omega
      have y0 := bN_extract s (4 * k) (4 * k + 4) 0 (by omega)
      have y1 := bN_extract s (4 * k) (4 * k + 4) 1 (by omega)
      have y2 := bN_extract s (4 * k) (4 * k + 4) 2 (by omega)
      have y3 := bN_extract s (4 * k) (4 * k + 4) 3 (by omega)
      have Y := Lib.hid (And.intro hxb (And.intro y0 (And.intro y1 (And.intro y2 y3))))
      clear hxb y0 y1 y2 y3
      go_wp2
      generalize s.extract (4 * k) (4 * k + 4) = B at *
      obtain ⟨x0, e0, hx0⟩ : ∃ x : Nat, bN s (4 * k) = x ∧ x < 256 := ⟨_, rfl, bN_lt _ _⟩
      obtain ⟨x1, e1, hx1⟩ : ∃ x : Nat, bN s (4 * k + 1) = x ∧ x < 256 := ⟨_, rfl, bN_lt _ _⟩
      obtain ⟨x2, e2, hx2⟩ : ∃ x : Nat, bN s (4 * k + 2) = x ∧ x < 256 := ⟨_, rfl, bN_lt _ _⟩
      obtain ⟨x3, e3, hx3⟩ : ∃ x : Nat, bN s (4 * k + 3) = x ∧ x < 256 := ⟨_, rfl, bN_lt _ _⟩
      have b3 : 3 < B.size := by rw [Y.out.1]; omega
      have b2 : 2 < B.size := by omega
      have b1 : 1 < B.size := by omega
      have b0 : 0 < B.size := by omega
      have q0 : B[0].toNat = x0 := by rw [bN_at, Y.out.2.1]; exact e0
      have q1 : B[1].toNat = x1 := by rw [bN_at, Y.out.2.2.1]; exact e1
      have q2 : B[2].toNat = x2 := by rw [bN_at, Y.out.2.2.2.1]; exact e2
      have q3 : B[3].toNat = x3 := by rw [bN_at, Y.out.2.2.2.2]; exact e3
      have HM := Lib.hid (show mw s k = x0 * 16777216 + x1 * 65536 + x2 * 256 + x3 by unfold mw; rw [e0, e1, e2, e3])
      clear e0 e1 e2 e3 Y
      have k64 : (k : Int) < 64 := by omega
      have k0 : (0 : Int) ≤ (k : Int) := by omega
      have c3 : (3 : Int) < (B.size : Int) := by omega
      have c2 : (2 : Int) < (B.size : Int) := by omega
      have c1 : (1 : Int) < (B.size : Int) := by omega
      have v0a : IntKind.u32.wrap (x0 : Int) = x0 := by rw [IntKind.wrap_u32']; omega
      have v1a : IntKind.u32.wrap (x1 : Int) = x1 := by rw [IntKind.wrap_u32']; omega
      have v2a : IntKind.u32.wrap (x2 : Int) = x2 := by rw [IntKind.wrap_u32']; omega
      have v3a : IntKind.u32.wrap (x3 : Int) = x3 := by rw [IntKind.wrap_u32']; omega
      have v0b : IntKind.u32.wrap ((x0 : Int) * 16777216) = (x0 : Int) * 16777216 := by rw [IntKind.wrap_u32']; omega
      have v1b : IntKind.u32.wrap ((x1 : Int) * 65536) = (x1 : Int) * 65536 := by rw [IntKind.wrap_u32']; omega
      have v2b : IntKind.u32.wrap ((x2 : Int) * 256) = (x2 : Int) * 256 := by rw [IntKind.wrap_u32']; omega
      go_still_tail 20, (by kernel_rfl)
      change wpList _ _ _ _ _ wr.drew
      clear v0a v1a v2a v3a v0b v1b v2b
      go_wp2
      rw [u32_word x0 x1 x2 x3 hx0 hx1 hx2 hx3, ← HM.out]
      go_roundw
      case rel =>
        have hx := HX.out
        refine ⟨k + 1, xs.set k (.int .u32 (mw s k : Int)), by omega, by go_num, Lib.hid ⟨by simp [hx.1], (hx.2.1.set k _).drew, fun j hj => ?_⟩, Lib.hid (H0.out.set_far _ _ _ (by omega)).drew, Lib.hid (HB.out.setCell (by exact Nat.le_succ _) _).drew⟩
        by_cases e : j = k
        · rw [e, List.getElem?_set_self (by omega), wd_low _ _ (by omega)]
        · rw [List.getElem?_set_ne (by omega)]; exact hx.2.2 j (by omega)
      case measure => simp [intOf]; omega
    · have hge : decide ((k : Int) < 16) = false := decide_eq_false (by omega)
      have hk16 := Lib.hid (show k = 16 by omega)
      clear hk hlt
      go_wp2
      clear hge
      go_loopw [6] (fun i wr => ∃ (k : Nat) (xs : List Value), 16 ≤ k ∧ k ≤ 64 ∧ i = .int .i64 k ∧ Hid (xs.length = 64 ∧ Row wr (w.heap.size + 1) 89 xs ∧ ∀ j, j < k → xs[j]? = some (.int .u32 (wd (mw s) j : Int))) ∧ Hid (Row wr w.heap.size 89 z0) ∧ Hid (Below w.heap.size w wr)) (fun i _ => 64 - (intOf i).toNat)
      case atStart => exact ⟨16, xs, by omega, by omega, rfl, Lib.hid ⟨HX.out.1, HX.out.2.1, fun j hj => HX.out.2.2 j (by rw [hk16.out]; exact hj)⟩, H0, HB⟩
      case round =>
        rename_i wr
        clear HX H0 HB hk16
        obtain ⟨k, xs, hk1, hk, rfl, HX, H0, HB⟩ := hrel
        by_cases hlt : k < 64
        · obtain ⟨p, hp⟩ : ∃ p, k = 16 + p := ⟨k - 16, by omega⟩
          have hx := HX.out
          have c16 := hx.2.1.cell p
          rw [hx.2.2 p (by omega)] at c16
          have c15 := hx.2.1.cell (p + 1)
          rw [hx.2.2 (p + 1) (by omega)] at c15
          have c7 := hx.2.1.cell (p + 9)
          rw [hx.2.2 (p + 9) (by omega)] at c7
          have c2 := hx.2.1.cell (p + 14)
          rw [hx.2.2 (p + 14) (by omega)] at c2
          have hc := hx.2.1.cell k
          rw [List.getElem?_eq_getElem (by omega)] at hc
          have hf := hx.2.1.frozen k
          generalize xs[k] = v0 at hc
          have HWD := Lib.hid (wd_high (mw s) p (by omega))
          obtain ⟨y16, e16, l16⟩ : ∃ y, wd (mw s) p = y ∧ y < 4294967296 := ⟨_, rfl, wd_lt _ (mw_lt s) _ (by omega)⟩
          obtain ⟨y15, e15, l15⟩ : ∃ y, wd (mw s) (p + 1) = y ∧ y < 4294967296 := ⟨_, rfl, wd_lt _ (mw_lt s) _ (by omega)⟩
          obtain ⟨y7, e7, l7⟩ : ∃ y, wd (mw s) (p + 9) = y ∧ y < 4294967296 := ⟨_, rfl, wd_lt _ (mw_lt s) _ (by omega)⟩
          obtain ⟨y2, e2, l2⟩ : ∃ y, wd (mw s) (p + 14) = y ∧ y < 4294967296 := ⟨_, rfl, wd_lt _ (mw_lt s) _ (by omega)⟩
          rw [e16] at c16
          rw [e15] at c15
          rw [e7] at c7
          rw [e2] at c2
          rw [e16, e15, e7, e2] at HWD
          clear hx e16 e15 e7 e2
          have i15 : (k : Int) - 15 = ((p + 1 : Nat) : Int) := by omega
          have i2 : (k : Int) - 2 = ((p + 14 : Nat) : Int) := by omega
          have i16 : (k : Int) - 16 = (p : Int) := by omega
          have i7 : (k : Int) - 7 = ((p + 9 : Nat) : Int) := by omega
          generalize hq1 : p + 1 = p1 at *
          generalize hq9 : p + 9 = p9 at *
          generalize hq14 : p + 14 = p14 at *
          have b0 : (p : Int) < 64 := by omega
          have b1 : (p1 : Int) < 64 := by omega
          have b9 : (p9 : Int) < 64 := by omega
          have b14 : (p14 : Int) < 64 := by omega
          have k64 : (k : Int) < 64 := by omega
          have k0 : (0 : Int) ≤ (k : Int) := by omega
          have j0 : IntKind.i64.wrap (p : Int) = p := by rw [IntKind.wrap_i64]; omega
          have j1 : IntKind.i64.wrap (p1 : Int) = p1 := by rw [IntKind.wrap_i64]; omega
          have j9 : IntKind.i64.wrap (p9 : Int) = p9 := by rw [IntKind.wrap_i64]; omega
          have j14 : IntKind.i64.wrap (p14 : Int) = p14 := by rw [IntKind.wrap_i64]; omega
          have HP := Lib.hid hp
          clear hp hq1 hq9 hq14
          go_wp2
          go_quiet (fail)
          go_wp2
          have C16 : (wr.drewN nq).cell? ⟨w.heap.size + 1, p, none⟩ = some (.int .u32 (y16 : Int)) := c16
          have C7 : (wr.drewN nq).cell? ⟨w.heap.size + 1, p9, none⟩ = some (.int .u32 (y7 : Int)) := c7
          have HC : (wr.drewN nq).cell? ⟨w.heap.size + 1, k, none⟩ = some v0 := hc
          have HF : (wr.drewN nq).frozen? ⟨w.heap.size + 1, k, none⟩ = false := hf
          have HX2 := Lib.hid (And.intro HX.out.1 (And.intro (HX.out.2.1.drewN nq) HX.out.2.2))
          have H02 := Lib.hid (H0.out.drewN nq)
          have HB2 := Lib.hid (below_drewN HB.out nq)
          clear HX H0 HB c16 c15 c7 c2 hc hf
          generalize wr.drewN nq = W2 at *
          have q16 : ∀ k, (World.mk W2.heap W2.tape k W2.os W2.output).cell? ⟨w.heap.size + 1, p, none⟩ = some (.int .u32 (y16 : Int)) := fun _ => C16
          have q7 : ∀ k, (World.mk W2.heap W2.tape k W2.os W2.output).cell? ⟨w.heap.size + 1, p9, none⟩ = some (.int .u32 (y7 : Int)) := fun _ => C7
          refine wp_region_still_tail 29 (by kernel_rfl) (by kernel_rfl) ?_
          simp only [List.take_succ_cons, List.take_zero, List.drop_succ_cons, List.drop_zero]
          repeat still_step
          still_call (Rot.impl_same _ _ l15 (by unfold Rot.Turns; decide) _)
          repeat still_step
          still_call (Rot.impl_same _ _ l15 (by unfold Rot.Turns; decide) _)
          repeat still_step
          still_call (Rot.impl_same _ _ l2 (by unfold Rot.Turns; decide) _)
          repeat still_step
          still_call (Rot.impl_same _ _ l2 (by unfold Rot.Turns; decide) _)
          repeat still_step
          refine wpStill_nil ?_
          clear q16 q7
          change wpList _ _ _ _ _ W2.drew
          go_wp2
          rw [u32_s0 _ l15, u32_s1 _ l2]
          have HSUM := Lib.hid (show ((y16 : Int) + ((s0 y15 : Nat) : Int) + (y7 : Int) + ((s1 y2 : Nat) : Int)) % 4294967296 = ((wd (mw s) k : Nat) : Int) by
            rw [HP.out, HWD.out]; omega)
          rw [HSUM.out]
          go_roundw
          case rel =>
            have hx := HX2.out
            refine ⟨k + 1, xs.set k (.int .u32 (wd (mw s) k : Int)), by omega, by omega, by go_num, Lib.hid ⟨by simp [hx.1], (hx.2.1.set k _).drew, fun j hj => ?_⟩, Lib.hid (H02.out.set_far _ _ _ (by omega)).drew, Lib.hid (HB2.out.setCell (by exact Nat.le_succ _) _).drew⟩
            by_cases e : j = k
            · rw [e, List.getElem?_set_self (by omega)]
            · rw [List.getElem?_set_ne (by omega)]; exact hx.2.2 j (by omega)
          case measure => simp [intOf]; omega
        · have hx := HX.out
          have hk64 : k = 64 := by omega
          have hxs : xs = w32 (mw s) := by
            apply List.ext_getElem?
            intro i
            by_cases hi : i < 64
            · rw [hx.2.2 i (by omega)]; simp [w32, hi]
            · rw [List.getElem?_eq_none (by omega), List.getElem?_eq_none (by simp [w32]; omega)]
          have HL := Lib.hid (show (w32 (mw s)).length = 64 by simp [w32])
          have hI : (Tryd.prog.info? 89).map (·.size) = some (w32 (mw s)).toArray.size := by rw [List.size_toArray, HL.out]; exact info64
          have HI := Lib.hid hI
          have h1 : (w32 (mw s)).toArray.all (·.oneCell') = true := all_oneCell_toArray (fun v hv => by simp only [w32, List.mem_map] at hv; obtain ⟨j, _, rfl⟩ := hv; rfl)
          have H1 := Lib.hid h1
          have hrow : Row wr (w.heap.size + 1) 89 (w32 (mw s)) := by rw [← hxs]; exact hx.2.1
          have HR := Lib.hid hrow
          have HT := Lib.hid (show wr.there w.heap.size 0 (w32 (mw s)).toArray.size by have := H0.out.there; rw [Z0.out] at this; rw [show (w32 (mw s)).toArray.size = 64 from HL.out]; exact this)
          have hge : decide ((k : Int) < 64) = false := decide_eq_false (by omega)
          have HRES := Lib.hid (H0.out.sets_all (vs := w32 (mw s)) (by rw [HL.out, Z0.out]))
          have HBF := Lib.hid (Arr.below_sets (B := w.heap.size) (a := w) w.heap.size (Nat.le_refl _) (w32 (mw s)) 0 wr HB.out)
          clear hx hxs hI h1 hrow hk64 HX H0 HB
          generalize hys : w32 (mw s) = ys at *
          have HYS := Lib.hid hys
          clear hys
          go_wp2_with (first
            | (refine wpList_load_row rfl 89 _ rfl (w.heap.size + 1) rfl 89 _ (0, 0) _ HR.out Tryd.underlying89 rfl HI.out ?_)
            | (refine wpList_store_mid rfl 89 _ _ rfl w.heap.size 0 ys.toArray rfl rfl HT.out HI.out H1.out ?_))
          refine bodyPost_ret (v := .agg ys.toArray) ?_ rfl ⟨?_, ?_⟩
          · exact results_cell_row rfl _ _ w.heap.size 89 _ (0, 0) _ rfl HRES.out Tryd.underlying89 rfl HI.out
          · rw [HYS.out]
          · exact HBF.out
end Go.Proofs.YtemlmffoehclhaaDoor.BlockWords
