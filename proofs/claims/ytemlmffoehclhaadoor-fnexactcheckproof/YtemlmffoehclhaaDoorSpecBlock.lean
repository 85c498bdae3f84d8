/-
  What is proved: a block of 64 bytes taken in, by the model, is the plain function of the eight words and the block (contract for the walks).
-/
import Derived.Test.YtemlmffoehclhaaDoorRows
import Derived.Test.YtemlmffoehclhaaDoorSpecWord
namespace Go.Proofs.YtemlmffoehclhaaDoor.SpecBlock
open Go.ChangeShapes Go.WideShapes Go.ChangeAt Go.RowKit
open Word
open Arr (Row)
open MixBlock (KL kk kk_lt run run_ok lst lst_lt lst_length blk blk_length blk_at c64 c64_at info8 three_new)
set_option linter.unusedVariables false

def zcells : List Value := [.int .i64 0, .int .i64 0, .int .i64 0, .int .i64 0, .int .i64 0, .int .i64 0, .int .i64 0, .int .i64 0, .int .i64 0, .int .i64 0, .int .i64 0, .int .i64 0, .int .i64 0, .int .i64 0, .int .i64 0, .int .i64 0, .int .i64 0, .int .i64 0, .int .i64 0, .int .i64 0, .int .i64 0, .int .i64 0, .int .i64 0, .int .i64 0, .int .i64 0, .int .i64 0, .int .i64 0, .int .i64 0, .int .i64 0, .int .i64 0, .int .i64 0, .int .i64 0, .int .i64 0, .int .i64 0, .int .i64 0, .int .i64 0, .int .i64 0, .int .i64 0, .int .i64 0, .int .i64 0, .int .i64 0, .int .i64 0, .int .i64 0, .int .i64 0, .int .i64 0, .int .i64 0, .int .i64 0, .int .i64 0, .int .i64 0, .int .i64 0, .int .i64 0, .int .i64 0, .int .i64 0, .int .i64 0, .int .i64 0, .int .i64 0, .int .i64 0, .int .i64 0, .int .i64 0, .int .i64 0, .int .i64 0, .int .i64 0, .int .i64 0, .int .i64 0]
theorem zcells_one : zcells.toArray.all (·.oneCell') = true := by decide +kernel
theorem zinfo : (Tryd.prog.info? 92).map (·.size) = some zcells.toArray.size := by kernel_rfl
theorem zhere {w : World} {g : Nat} {xs : List Value} (h : Row w g 92 xs) (hl : xs.length = 64) : w.there g 0 zcells.toArray.size := by
  have := h.there
  rw [hl] at this
  exact this

set_option maxRecDepth 100000 in
set_option maxHeartbeats 6400000 in
theorem block (x0 x1 x2 x3 x4 x5 x6 x7 : Nat) (hok : St.ok ⟨x0, x1, x2, x3, x4, x5, x6, x7⟩) (s : ByteArray) (hs : 64 ≤ s.size) (hs2 : s.size ≤ 1048576) (w : World) :
    Calls Tryd.prog 77 #[.agg #[.int .i64 (x0 : Int), .int .i64 (x1 : Int), .int .i64 (x2 : Int), .int .i64 (x3 : Int), .int .i64 (x4 : Int), .int .i64 (x5 : Int), .int .i64 (x6 : Int), .int .i64 (x7 : Int)], .string s] w fun e' w' => e' = .returned (.agg (c64 (blk (mw s) ⟨x0, x1, x2, x3, x4, x5, x6, x7⟩)).toArray) ∧ Below w.heap.size w w' := by
  have HOK := Lib.hid hok
  have HS := Lib.hid hs
  clear hok
  generalize hst : (⟨x0, x1, x2, x3, x4, x5, x6, x7⟩ : St) = st at *
  have HHL := Lib.hid (show [x0, x1, x2, x3, x4, x5, x6, x7] = lst st by rw [← hst]; rfl)
  have HAGG := Lib.hid (show (#[.int .i64 (x0 : Int), .int .i64 (x1 : Int), .int .i64 (x2 : Int), .int .i64 (x3 : Int), .int .i64 (x4 : Int), .int .i64 (x5 : Int), .int .i64 (x6 : Int), .int .i64 (x7 : Int)] : Array Value) = (c64 (lst st)).toArray by rw [← HHL.out]; rfl)
  have hlen := Lib.hid (lst_length st)
  have hlt8 := Lib.hid (lst_lt st HOK.out)
  clear hst
  go_enter Tryd.func77, Tryd.ntmps77
  go_wp2_with (refine wpList_store_mid rfl 92 _ _ rfl (w.heap.size + 2) 0 zcells.toArray rfl rfl (zhere (three_new w _ _ _ _ _ _).2.2.1 rfl) zinfo zcells_one ?_)
  generalize hW : World.setCells _ _ _ _ = W
  generalize (Value.agg #[.int .i64 0, .int .i64 0, .int .i64 0, .int .i64 0, .int .i64 0, .int .i64 0, .int .i64 0, .int .i64 0, .int .i64 0, .int .i64 0, .int .i64 0, .int .i64 0, .int .i64 0, .int .i64 0, .int .i64 0, .int .i64 0, .int .i64 0, .int .i64 0, .int .i64 0, .int .i64 0, .int .i64 0, .int .i64 0, .int .i64 0, .int .i64 0, .int .i64 0, .int .i64 0, .int .i64 0, .int .i64 0, .int .i64 0, .int .i64 0, .int .i64 0, .int .i64 0, .int .i64 0, .int .i64 0, .int .i64 0, .int .i64 0, .int .i64 0, .int .i64 0, .int .i64 0, .int .i64 0, .int .i64 0, .int .i64 0, .int .i64 0, .int .i64 0, .int .i64 0, .int .i64 0, .int .i64 0, .int .i64 0, .int .i64 0, .int .i64 0, .int .i64 0, .int .i64 0, .int .i64 0, .int .i64 0, .int .i64 0, .int .i64 0, .int .i64 0, .int .i64 0, .int .i64 0, .int .i64 0, .int .i64 0, .int .i64 0, .int .i64 0, .int .i64 0]) = Zv
  obtain ⟨z1, hz1, R0, R1, R2, HB, hsz⟩ : ∃ z1 : List Value, z1.length = 8 ∧ Row W w.heap.size 27 (c64 (lst st)) ∧ Row W (w.heap.size + 1) 27 z1 ∧ Row W (w.heap.size + 2) 92 zcells ∧ Below w.heap.size w W ∧ w.heap.size + 3 ≤ W.heap.size := by
    rw [← hW, HAGG.out]
    refine ⟨_, ?_, Row.sets_far (by omega) _ _ _ (three_new w _ _ _ _ _ _).1, Row.sets_far (by omega) _ _ _ (three_new w _ _ _ _ _ _).2.1, (three_new w _ _ _ _ _ _).2.2.1.sets_all ?_, Arr.below_sets _ (by omega) _ _ _ (three_new w _ _ _ _ _ _).2.2.2.1, ?_⟩
    · rfl
    · rfl
    · rw [Arr.size_sets]; exact (three_new w _ _ _ _ _ _).2.2.2.2
  clear hW
  have Z1 := Lib.hid hz1
  have RR := Lib.hid (And.intro R0 (And.intro R1 (And.intro HB hsz)))
  have RR2 := Lib.hid R2
  clear hz1 R0 R1 R2 HB hsz
  go_loopw [6] (fun i wr => ∃ (k : Nat) (xs : List Value), k ≤ 16 ∧ i = .int .i64 k ∧ Hid (xs.length = 64 ∧ Row wr (w.heap.size + 2) 92 xs ∧ ∀ j, j < k → xs[j]? = some (.int .i64 (wd (mw s) j : Int))) ∧ Hid (Row wr w.heap.size 27 (c64 (lst st)) ∧ Row wr (w.heap.size + 1) 27 z1 ∧ Below w.heap.size w wr ∧ w.heap.size + 3 ≤ wr.heap.size)) (fun i _ => 16 - (intOf i).toNat)
  case atStart => exact ⟨0, zcells, by omega, rfl, Lib.hid ⟨rfl, RR2.out, fun j h => by omega⟩, RR⟩
  case round =>
    rename_i wr
    obtain ⟨k, xs, hk, rfl, HX, HR⟩ := hrel
    clear RR RR2
    by_cases hlt : k < 16
    · have hx := HX.out
      have hc := hx.2.1.cell k
      have hf := hx.2.1.frozen k
      rw [List.getElem?_eq_getElem (by omega)] at hc
      generalize xs[k] = v0 at hc
      clear hx
      have k16 : (k : Int) < 16 := by omega
      have k64 : (k : Int) < 64 := by omega
      have HM := Lib.hid (show SpecWord.mwAt s (4 * k) = wd (mw s) k by rw [SpecWord.mwAt_mw, wd_low _ _ hlt])
      go_wp2_with fail
      rw [show (4 * (k : Int)) = ((4 * k : Nat) : Int) by omega]
      refine (SpecWord.word s (4 * k) (by have := HS.out; omega) hs2 _).mono ?_
      rintro e w1 ⟨rfl, n1, rfl⟩
      rw [HM.out]
      go_wp2
      go_roundw
      case rel =>
        have hx := HX.out
        have hr := HR.out
        refine ⟨k + 1, xs.set k (.int .i64 (wd (mw s) k : Int)), by omega, by go_num, Lib.hid ⟨by simp [hx.1], (hx.2.1.drewN n1).set k _, fun j hj => ?_⟩, Lib.hid ⟨(hr.1.drewN n1).set_far _ _ _ (by omega), (hr.2.1.drewN n1).set_far _ _ _ (by omega), (below_drewN hr.2.2.1 n1).setCell (by show w.heap.size ≤ w.heap.size + 2; omega) _, by simpa [World.setCell] using hr.2.2.2⟩⟩
        by_cases e : j = k
        · rw [e, List.getElem?_set_self (by omega)]
        · rw [List.getElem?_set_ne (by omega)]; exact hx.2.2 j (by omega)
      case measure => simp [intOf]; omega
    · have hge : decide ((k : Int) < 16) = false := decide_eq_false (by omega)
      have HX2 := Lib.hid (show xs.length = 64 ∧ Row wr (w.heap.size + 2) 92 xs ∧ ∀ j, j < 16 → xs[j]? = some (.int .i64 (wd (mw s) j : Int)) from ⟨HX.out.1, HX.out.2.1, fun j hj => HX.out.2.2 j (by omega)⟩)
      clear hk hlt HX
      go_wp2
      clear hge
      go_loopw [7] (fun i wr => ∃ (k : Nat) (xs : List Value), 16 ≤ k ∧ k ≤ 64 ∧ i = .int .i64 k ∧ Hid (xs.length = 64 ∧ Row wr (w.heap.size + 2) 92 xs ∧ ∀ j, j < k → xs[j]? = some (.int .i64 (wd (mw s) j : Int))) ∧ Hid (Row wr w.heap.size 27 (c64 (lst st)) ∧ Row wr (w.heap.size + 1) 27 z1 ∧ Below w.heap.size w wr ∧ w.heap.size + 3 ≤ wr.heap.size)) (fun i _ => 64 - (intOf i).toNat)
      case atStart => exact ⟨16, xs, by omega, by omega, rfl, HX2, HR⟩
      case round =>
        rename_i wr
        clear HX2 HR
        obtain ⟨k, xs, hk1, hk, rfl, HX, HR⟩ := hrel
        by_cases hlt : k < 64
        · obtain ⟨p, hp⟩ : ∃ p, k = 16 + p := ⟨k - 16, by omega⟩
          have hx := HX.out
          have c16 := hx.2.1.cell p
          rw [hx.2.2 p (by omega)] at c16
          have c15 := hx.2.1.cell (p + 1)
          rw [hx.2.2 (p + 1) (by omega)] at c15
          have c7 := hx.2.1.cell (p + 9)
          rw [hx.2.2 (p + 9) (by omega)] at c7
          have c2 := hx.2.1.cell (p + 14)
          rw [hx.2.2 (p + 14) (by omega)] at c2
          have hc := hx.2.1.cell k
          rw [List.getElem?_eq_getElem (by omega)] at hc
          have hf := hx.2.1.frozen k
          generalize xs[k] = v0 at hc
          have HWD := Lib.hid (wd_high (mw s) p (by omega))
          obtain ⟨y16, e16, l16⟩ : ∃ y, wd (mw s) p = y ∧ y < 4294967296 := ⟨_, rfl, wd_lt _ (mw_lt s) _ (by omega)⟩
          obtain ⟨y15, e15, l15⟩ : ∃ y, wd (mw s) (p + 1) = y ∧ y < 4294967296 := ⟨_, rfl, wd_lt _ (mw_lt s) _ (by omega)⟩
          obtain ⟨y7, e7, l7⟩ : ∃ y, wd (mw s) (p + 9) = y ∧ y < 4294967296 := ⟨_, rfl, wd_lt _ (mw_lt s) _ (by omega)⟩
          obtain ⟨y2, e2, l2⟩ : ∃ y, wd (mw s) (p + 14) = y ∧ y < 4294967296 := ⟨_, rfl, wd_lt _ (mw_lt s) _ (by omega)⟩
          rw [e16] at c16
          rw [e15] at c15
          rw [e7] at c7
          rw [e2] at c2
          rw [e16, e15, e7, e2] at HWD
          clear hx e16 e15 e7 e2
          have i15 : (k : Int) - 15 = ((p + 1 : Nat) : Int) := by omega
          have i2 : (k : Int) - 2 = ((p + 14 : Nat) : Int) := by omega
          have i16 : (k : Int) - 16 = (p : Int) := by omega
          have i7 : (k : Int) - 7 = ((p + 9 : Nat) : Int) := by omega
          generalize hq1 : p + 1 = p1 at *
          generalize hq9 : p + 9 = p9 at *
          generalize hq14 : p + 14 = p14 at *
          have b0 : (p : Int) < 64 := by omega
          have b1 : (p1 : Int) < 64 := by omega
          have b9 : (p9 : Int) < 64 := by omega
          have b14 : (p14 : Int) < 64 := by omega
          have k64 : (k : Int) < 64 := by omega
          have k0 : (0 : Int) ≤ (k : Int) := by omega
          have j0 : IntKind.i64.wrap (p : Int) = p := by rw [IntKind.wrap_i64]; omega
          have j1 : IntKind.i64.wrap (p1 : Int) = p1 := by rw [IntKind.wrap_i64]; omega
          have j9 : IntKind.i64.wrap (p9 : Int) = p9 := by rw [IntKind.wrap_i64]; omega
          have j14 : IntKind.i64.wrap (p14 : Int) = p14 := by rw [IntKind.wrap_i64]; omega
          have HP := Lib.hid hp
          clear hp hq1 hq9 hq14
          go_wp2
          go_quiet ((go_at_call 83; exact Rot.first (Rot.spec _ _ l15 (by unfold Rot.Turns; decide))))
          rw [i64_s0 _ l15]
          go_wp2
          go_quiet ((go_at_call 83; exact Rot.on (Rot.spec _ _ l2 (by unfold Rot.Turns; decide))))
          rw [i64_s1 _ l2]
          go_wp2
          generalize hW2 : (wr.drewN _).drewN _ = W2
          have C16 : W2.cell? ⟨w.heap.size + 2, p, none⟩ = some (.int .i64 (y16 : Int)) := by rw [← hW2]; exact c16
          have C7 : W2.cell? ⟨w.heap.size + 2, p9, none⟩ = some (.int .i64 (y7 : Int)) := by rw [← hW2]; exact c7
          have HC : W2.cell? ⟨w.heap.size + 2, k, none⟩ = some v0 := by rw [← hW2]; exact hc
          have HF : W2.frozen? ⟨w.heap.size + 2, k, none⟩ = false := by rw [← hW2]; exact hf
          have HX2 := Lib.hid (show xs.length = 64 ∧ Row W2 (w.heap.size + 2) 92 xs ∧ ∀ j, j < k → xs[j]? = some (.int .i64 (wd (mw s) j : Int)) from ⟨HX.out.1, by rw [← hW2]; exact (HX.out.2.1.drewN _).drewN _, HX.out.2.2⟩)
          have HR2 := Lib.hid (show Row W2 w.heap.size 27 (c64 (lst st)) ∧ Row W2 (w.heap.size + 1) 27 z1 ∧ Below w.heap.size w W2 ∧ w.heap.size + 3 ≤ W2.heap.size by rw [← hW2]; exact ⟨(HR.out.1.drewN _).drewN _, (HR.out.2.1.drewN _).drewN _, below_drewN (below_drewN HR.out.2.2.1 _) _, HR.out.2.2.2⟩)
          clear hW2 HX HR c16 c15 c7 c2 hc hf
          have q16 : ∀ n, (World.mk W2.heap W2.tape n W2.os W2.output).cell? ⟨w.heap.size + 2, p, none⟩ = some (.int .i64 (y16 : Int)) := fun _ => C16
          have q7 : ∀ n, (World.mk W2.heap W2.tape n W2.os W2.output).cell? ⟨w.heap.size + 2, p9, none⟩ = some (.int .i64 (y7 : Int)) := fun _ => C7
          have ls0 := s0_lt y15 l15
          have ls1 := s1_lt y2 l2
          generalize s0 y15 = S at *
          generalize s1 y2 = S' at *
          obtain ⟨t1, ht1⟩ : ∃ t, y16 + S = t := ⟨_, rfl⟩
          obtain ⟨t2, ht2⟩ : ∃ t, t1 + y7 = t := ⟨_, rfl⟩
          obtain ⟨t3, ht3⟩ : ∃ t, t2 + S' = t := ⟨_, rfl⟩
          have r1 : (y16 : Int) + (S : Int) = (t1 : Int) := by omega
          have r2 : (t1 : Int) + (y7 : Int) = (t2 : Int) := by omega
          have r3 : (t2 : Int) + (S' : Int) = (t3 : Int) := by omega
          have m1 : IntKind.i64.wrap (t1 : Int) = t1 := by rw [IntKind.wrap_i64]; omega
          have m2 : IntKind.i64.wrap (t2 : Int) = t2 := by rw [IntKind.wrap_i64]; omega
          have m3 : IntKind.i64.wrap (t3 : Int) = t3 := by rw [IntKind.wrap_i64]; omega
          have hmk : bits .and .i64 (t3 : Int) 4294967295 = ((wd (mw s) k : Nat) : Int) := by
            rw [i64_mask _ (by omega), HP.out, HWD.out, ← ht3, ← ht2, ← ht1]
          clear ht1 ht2 ht3 HWD
          refine wp_region_still_tail 16 (by kernel_rfl) (by kernel_rfl) ?_
          simp only [List.take_succ_cons, List.take_zero, List.drop_succ_cons, List.drop_zero]
          repeat still_step
          refine wpStill_nil ?_
          clear q16 q7 r1 r2 r3 m1 m2 m3 hmk
          change wpList _ _ _ _ _ W2.drew
          go_wp2
          go_roundw
          case rel =>
            have hx := HX2.out
            have hr := HR2.out
            refine ⟨k + 1, xs.set k (.int .i64 (wd (mw s) k : Int)), by omega, by omega, by go_num, Lib.hid ⟨by simp [hx.1], (hx.2.1.set k _).drew, fun j hj => ?_⟩, Lib.hid ⟨(hr.1.set_far _ _ _ (by omega)).drew, (hr.2.1.set_far _ _ _ (by omega)).drew, (hr.2.2.1.setCell (by show w.heap.size ≤ w.heap.size + 2; omega) _).drew, by simpa [World.setCell] using hr.2.2.2⟩⟩
            by_cases e : j = k
            · rw [e, List.getElem?_set_self (by omega)]
            · rw [List.getElem?_set_ne (by omega)]; exact hx.2.2 j (by omega)
          case measure => simp [intOf]; omega
        · have hge : decide ((k : Int) < 64) = false := decide_eq_false (by omega)
          have HX2 := Lib.hid (show Row wr (w.heap.size + 2) 92 xs ∧ ∀ j, j < 64 → xs[j]? = some (.int .i64 (wd (mw s) j : Int)) from ⟨HX.out.2.1, fun j hj => HX.out.2.2 j (by omega)⟩)
          clear hk1 hk hlt HX
          go_wp2_with fail
          refine (SpecWord.table _).mono ?_
          rintro e w1 ⟨rfl, hb⟩
          have hlw := HR.out.2.2.2
          have HR1 := Lib.hid (show Row w1 w.heap.size 27 (c64 (lst st)) ∧ Row w1 (w.heap.size + 1) 27 z1 ∧ Row w1 (w.heap.size + 2) 92 xs ∧ Below w.heap.size w w1 ∧ w.heap.size + 3 ≤ w1.heap.size from
            ⟨HR.out.1.below hb (by omega), HR.out.2.1.below hb (by omega), HX2.out.1.below hb (by omega), HR.out.2.2.1.trans (hb.mono (by omega)), Nat.le_trans hlw hb.size⟩)
          have HXW := Lib.hid HX2.out.2
          clear hb hlw HR HX2
          have HKS := Lib.hid (fun k (h : k < 64) => show (c64 KL)[k]? = some (.int .i64 (kk k : Int)) from c64_at KL k h)
          have HKI := Lib.hid (show (Tryd.prog.info? 92).map (·.size) = some (c64 KL).toArray.size from zinfo)
          have HK1 := Lib.hid (show (c64 KL).toArray.all (·.oneCell') = true from all_oneCell_toArray (fun v hv => by simp only [c64, List.mem_map] at hv; obtain ⟨j, _, rfl⟩ := hv; rfl))
          have HKL := Lib.hid (show (c64 KL).length = 64 from by simp [c64]; rfl)
          generalize c64 KL = ks at *
          have HFACT := Lib.hid (fun (z : Array Value) (hz : z.size = 64) (W3 : World) (hW3 : (w1.alloc (.cells z 92)).setCells w1.heap.size 0 ks = W3) =>
            show Row W3 w.heap.size 27 (c64 (lst st)) ∧ Row W3 (w.heap.size + 1) 27 z1 ∧ Row W3 (w.heap.size + 2) 92 xs ∧ Row W3 w1.heap.size 92 ks ∧ Below w.heap.size w W3 ∧ W3.heap.size = w1.heap.size + 1 by
              rw [← hW3]
              have h := HR1.out
              exact ⟨Row.sets_far (by omega) _ _ _ (h.1.alloc _), Row.sets_far (by omega) _ _ _ (h.2.1.alloc _), Row.sets_far (by omega) _ _ _ (h.2.2.1.alloc _), (Arr.row_new w1 z 92).sets_all (vs := ks) (by rw [HKL.out]; exact hz.symm), Arr.below_sets _ (by omega) _ _ _ (h.2.2.2.1.alloc (by omega) _), by rw [Arr.size_sets]; simp⟩)
          have hth := Lib.hid (fun (z : Array Value) (hz : z.size = 64) => show (w1.alloc (.cells z 92)).there w1.heap.size 0 ks.toArray.size by
            have := (Arr.row_new w1 z 92).there
            rw [show z.toList.length = 64 from hz] at this
            rw [show ks.toArray.size = 64 from HKL.out]
            exact this)
          have hw1 := Lib.hid HR1.out.2.2.2.2
          have HX8 := Lib.hid (fun (W3 : World) (h : Row W3 w.heap.size 27 (c64 (lst st))) => show W3.cell? ⟨w.heap.size, 0, none⟩ = some (.int .i64 (x0 : Int)) ∧ W3.cell? ⟨w.heap.size, 1, none⟩ = some (.int .i64 (x1 : Int)) ∧ W3.cell? ⟨w.heap.size, 2, none⟩ = some (.int .i64 (x2 : Int)) ∧ W3.cell? ⟨w.heap.size, 3, none⟩ = some (.int .i64 (x3 : Int)) ∧ W3.cell? ⟨w.heap.size, 4, none⟩ = some (.int .i64 (x4 : Int)) ∧ W3.cell? ⟨w.heap.size, 5, none⟩ = some (.int .i64 (x5 : Int)) ∧ W3.cell? ⟨w.heap.size, 6, none⟩ = some (.int .i64 (x6 : Int)) ∧ W3.cell? ⟨w.heap.size, 7, none⟩ = some (.int .i64 (x7 : Int)) from ⟨by rw [h.cell, ← HHL.out]; rfl, by rw [h.cell, ← HHL.out]; rfl, by rw [h.cell, ← HHL.out]; rfl, by rw [h.cell, ← HHL.out]; rfl, by rw [h.cell, ← HHL.out]; rfl, by rw [h.cell, ← HHL.out]; rfl, by rw [h.cell, ← HHL.out]; rfl, by rw [h.cell, ← HHL.out]; rfl⟩)
          clear HR1
          go_wp2_with (refine wpList_store_mid rfl 92 _ _ rfl w1.heap.size 0 ks.toArray rfl rfl (hth.out _ rfl) HKI.out HK1.out ?_; generalize hW3 : World.setCells _ _ _ _ = W3; have HF3 := Lib.hid (HFACT.out _ rfl W3 hW3); clear hW3; obtain ⟨hx0, hx1, hx2, hx3, hx4, hx5, hx6, hx7⟩ := HX8.out W3 HF3.out.1)
          clear hx0 hx1 hx2 hx3 hx4 hx5 hx6 hx7 HX8 hth HKI HK1 HFACT
          have hw1' := hw1.out
          have h3 := HF3.out.2.2.2.2.2
          generalize hgv : W3.heap.size = gv at *
          generalize hgk : w1.heap.size = gk at *
          have Hgk := Lib.hid hw1'
          have Hgv := Lib.hid h3
          generalize hW4 : W3.alloc _ = W4
          have HV4 := Lib.hid (show Row W4 gv 27 (c64 (lst st)) by
            rw [← hW4, ← hgv, HAGG.out]; exact Arr.row_new W3 _ _)
          have HR4 := Lib.hid (show Row W4 w.heap.size 27 (c64 (lst st)) ∧ Row W4 (w.heap.size + 1) 27 z1 ∧ Row W4 (w.heap.size + 2) 92 xs ∧ Row W4 gk 92 ks ∧ Below w.heap.size w W4 by
            have h := HF3.out
            rw [← hW4]
            exact ⟨h.1.alloc _, h.2.1.alloc _, h.2.2.1.alloc _, h.2.2.2.1.alloc _, h.2.2.2.2.1.alloc (by omega) _⟩)
          clear hW4 hgv hgk hw1' h3 HF3 hw1 hge
          go_loopw [12] (fun i wr => ∃ (k : Nat), k ≤ 64 ∧ i = .int .i64 k ∧ Hid (Row wr gv 27 (c64 (lst (run (mw s) st k)))) ∧ Hid (Row wr w.heap.size 27 (c64 (lst st)) ∧ Row wr (w.heap.size + 1) 27 z1 ∧ Row wr (w.heap.size + 2) 92 xs ∧ Row wr gk 92 ks ∧ Below w.heap.size w wr)) (fun i _ => 64 - (intOf i).toNat)
          case atStart => exact ⟨0, by omega, rfl, HV4, HR4⟩
          case round =>
            rename_i wr
            clear HV4 HR4
            obtain ⟨k, hk, rfl, HV, HR⟩ := hrel
            by_cases hlt : k < 64
            · have ROK := Lib.hid (run_ok (mw s) st HOK.out k)
              generalize hrun : run (mw s) st k = t at *
              obtain ⟨a, b, c, d, e, f, g, z⟩ := t
              have HRUN := Lib.hid hrun
              clear hrun
              have cK := HR.out.2.2.2.1.cell k
              rw [HKS.out k hlt] at cK
              have cW := HR.out.2.2.1.cell k
              rw [HXW.out k hlt] at cW
              have lK := kk_lt k
              have lW := wd_lt (mw s) (mw_lt s) k hlt
              have HNX := Lib.hid (show run (mw s) st (k + 1) = St.turn ⟨a, b, c, d, e, f, g, z⟩ (kk k + wd (mw s) k) by
                show (run (mw s) st k).turn (kk k + wd (mw s) k) = _
                rw [HRUN.out])
              clear HRUN
              generalize kk k = K1 at *
              generalize wd (mw s) k = W1 at *
              obtain ⟨la, lb, lc, ld, le, lf, lg, lz⟩ : a < 4294967296 ∧ b < 4294967296 ∧ c < 4294967296 ∧ d < 4294967296 ∧ e < 4294967296 ∧ f < 4294967296 ∧ g < 4294967296 ∧ z < 4294967296 := ROK.out
              obtain ⟨sE, esE⟩ : ∃ x, S1 e = x := ⟨_, rfl⟩
              obtain ⟨sA, esA⟩ : ∃ x, S0 a = x := ⟨_, rfl⟩
              obtain ⟨cv, ecv⟩ : ∃ x, ch e f g = x := ⟨_, rfl⟩
              obtain ⟨mj, emj⟩ : ∃ x, maj a b c = x := ⟨_, rfl⟩
              have hS1 := i64_S1 e
              have hS0 := i64_S0 a
              have hch := i64_ch e f g le lf lg
              have hmaj := i64_maj a b c la lb lc
              rw [esE] at hS1
              rw [esA] at hS0
              rw [ecv] at hch
              rw [emj] at hmaj
              have lsE : sE < 4294967296 := by rw [← esE]; exact S1_lt e
              have lsA : sA < 4294967296 := by rw [← esA]; exact S0_lt a
              have lcv : cv < 4294967296 := by rw [← ecv]; exact ch_lt e f g le lg
              have lmj : mj < 4294967296 := by rw [← emj]; exact maj_lt a b c la lb
              obtain ⟨t1, ht1⟩ : ∃ t, z + sE = t := ⟨_, rfl⟩
              obtain ⟨t2, ht2⟩ : ∃ t, t1 + cv = t := ⟨_, rfl⟩
              obtain ⟨t3, ht3⟩ : ∃ t, t2 + K1 = t := ⟨_, rfl⟩
              obtain ⟨t4, ht4⟩ : ∃ t, t3 + W1 = t := ⟨_, rfl⟩
              obtain ⟨t5, ht5⟩ : ∃ t, t4 + sA = t := ⟨_, rfl⟩
              obtain ⟨t6, ht6⟩ : ∃ t, t5 + mj = t := ⟨_, rfl⟩
              obtain ⟨t7, ht7⟩ : ∃ t, d + t4 = t := ⟨_, rfl⟩
              obtain ⟨na, hna⟩ : ∃ t, t6 % 4294967296 = t := ⟨_, rfl⟩
              obtain ⟨ne, hne⟩ : ∃ t, t7 % 4294967296 = t := ⟨_, rfl⟩
              have HTURN := Lib.hid (show St.turn ⟨a, b, c, d, e, f, g, z⟩ (K1 + W1) = ⟨na, a, b, c, ne, e, f, g⟩ by
                have hT : TT e f g z (K1 + W1) = t4 := by unfold TT; rw [esE, ecv]; omega
                have hU : UU a b c = sA + mj := by unfold UU; rw [esA, emj]
                unfold St.turn
                simp only [hT, hU]
                rw [show t4 + (sA + mj) = t6 by omega, ht7, hna, hne])
              have r1 : (z : Int) + (sE : Int) = (t1 : Int) := by omega
              have r2 : (t1 : Int) + (cv : Int) = (t2 : Int) := by omega
              have r3 : (t2 : Int) + (K1 : Int) = (t3 : Int) := by omega
              have r4 : (t3 : Int) + (W1 : Int) = (t4 : Int) := by omega
              have r5 : (t4 : Int) + (sA : Int) = (t5 : Int) := by omega
              have r6 : (t5 : Int) + (mj : Int) = (t6 : Int) := by omega
              have r7 : (d : Int) + (t4 : Int) = (t7 : Int) := by omega
              have m1 : IntKind.i64.wrap (t1 : Int) = t1 := by rw [IntKind.wrap_i64]; omega
              have m2 : IntKind.i64.wrap (t2 : Int) = t2 := by rw [IntKind.wrap_i64]; omega
              have m3 : IntKind.i64.wrap (t3 : Int) = t3 := by rw [IntKind.wrap_i64]; omega
              have m4 : IntKind.i64.wrap (t4 : Int) = t4 := by rw [IntKind.wrap_i64]; omega
              have m5 : IntKind.i64.wrap (t5 : Int) = t5 := by rw [IntKind.wrap_i64]; omega
              have m6 : IntKind.i64.wrap (t6 : Int) = t6 := by rw [IntKind.wrap_i64]; omega
              have m7 : IntKind.i64.wrap (t7 : Int) = t7 := by rw [IntKind.wrap_i64]; omega
              have n1 : bits .and .i64 (t6 : Int) 4294967295 = (na : Int) := by rw [i64_mask _ (by omega), hna]
              have n2 : bits .and .i64 (t7 : Int) 4294967295 = (ne : Int) := by rw [i64_mask _ (by omega), hne]
              have u6 : t6 < 9223372036854775807 := by omega
              have u7 : t7 < 9223372036854775807 := by omega
              have k64 : (k : Int) < 64 := by omega
              have k0 : (0 : Int) ≤ (k : Int) := by omega
              clear esE esA ecv emj ht1 ht2 ht3 ht4 ht5 ht6 ht7 hna hne
              have d0 : wr.cell? ⟨gv, 0, none⟩ = some (.int .i64 (a : Int)) := HV.out.cell 0
              have g0 := HV.out.frozen 0
              have d1 : wr.cell? ⟨gv, 1, none⟩ = some (.int .i64 (b : Int)) := HV.out.cell 1
              have g1 := HV.out.frozen 1
              have d2 : wr.cell? ⟨gv, 2, none⟩ = some (.int .i64 (c : Int)) := HV.out.cell 2
              have g2 := HV.out.frozen 2
              have d3 : wr.cell? ⟨gv, 3, none⟩ = some (.int .i64 (d : Int)) := HV.out.cell 3
              have g3 := HV.out.frozen 3
              have d4 : wr.cell? ⟨gv, 4, none⟩ = some (.int .i64 (e : Int)) := HV.out.cell 4
              have g4 := HV.out.frozen 4
              have d5 : wr.cell? ⟨gv, 5, none⟩ = some (.int .i64 (f : Int)) := HV.out.cell 5
              have g5 := HV.out.frozen 5
              have d6 : wr.cell? ⟨gv, 6, none⟩ = some (.int .i64 (g : Int)) := HV.out.cell 6
              have g6 := HV.out.frozen 6
              have d7 : wr.cell? ⟨gv, 7, none⟩ = some (.int .i64 (z : Int)) := HV.out.cell 7
              have g7 := HV.out.frozen 7
              go_wp2
              go_quiet ((go_at_call 83; exact Rot.first (Rot.spec _ _ le (by unfold Rot.Turns; decide))))
              go_wp2
              go_quiet (fail)
              go_wp2
              go_quiet ((go_at_call 83; exact Rot.on (Rot.spec _ _ la (by unfold Rot.Turns; decide))))
              go_wp2
              go_roundw
              case rel =>
                have hr := HR.out
                have b1 := Hgk.out
                have b2 := Hgv.out
                refine ⟨k + 1, by omega, by go_num, Lib.hid ?_, Lib.hid ⟨?_, ?_, ?_, ?_, ?_⟩⟩
                · rw [HNX.out, HTURN.out]
                  exact ((((((((HV.out.drewN _).set 0 _).set 1 _).set 2 _).set 3 _).set 4 _).set 5 _).set 6 _).set 7 _
                · iterate 8 refine Row.set_far ?_ _ _ _ (by omega)
                  exact hr.1.drewN _
                · iterate 8 refine Row.set_far ?_ _ _ _ (by omega)
                  exact hr.2.1.drewN _
                · iterate 8 refine Row.set_far ?_ _ _ _ (by omega)
                  exact hr.2.2.1.drewN _
                · iterate 8 refine Row.set_far ?_ _ _ _ (by omega)
                  exact hr.2.2.2.1.drewN _
                · iterate 8 refine Below.setCell ?_ (by show w.heap.size ≤ gv; omega) _
                  exact below_drewN hr.2.2.2.2 _
              case measure => simp [intOf]; omega
            · have hge : decide ((k : Int) < 64) = false := decide_eq_false (by omega)
              have hk64 : k = 64 := by omega
              have HV3 := Lib.hid (show Row wr gv 27 (c64 (lst (run (mw s) st 64))) by rw [← hk64]; exact HV.out)
              clear HV hk64 hk hlt
              go_wp2
              clear hge
              have hvlt := Lib.hid (lst_lt _ (run_ok (mw s) st HOK.out 64))
              have HBLK := Lib.hid (blk_at (mw s) st)
              have hbl := Lib.hid (blk_length (mw s) st)
              have hvl := Lib.hid (lst_length (run (mw s) st 64))
              generalize lst (run (mw s) st 64) = vl at *
              go_loopw [18] (fun i wr => ∃ (k : Nat) (xs : List Value), k ≤ 8 ∧ i = .int .i64 k ∧ Hid (xs.length = 8 ∧ Row wr w.heap.size 27 xs ∧ (∀ j, j < k → xs[j]? = some (.int .i64 ((((lst st).getD j 0 + vl.getD j 0) % 4294967296 : Nat) : Int))) ∧ ∀ j, k ≤ j → j < 8 → xs[j]? = some (.int .i64 ((lst st).getD j 0 : Int))) ∧ Hid (Row wr gv 27 (c64 vl) ∧ Row wr (w.heap.size + 1) 27 z1 ∧ Below w.heap.size w wr)) (fun i _ => 8 - (intOf i).toNat)
              case atStart => exact ⟨0, c64 (lst st), by omega, rfl, Lib.hid ⟨by simp [c64]; exact hlen.out, HR.out.1, fun j h => by omega, fun j _ h => c64_at _ j (by rw [hlen.out]; exact h)⟩, Lib.hid ⟨HV3.out, HR.out.2.1, HR.out.2.2.2.2⟩⟩
              case round =>
                rename_i wr
                clear HR HV3
                obtain ⟨k, xs, hk, rfl, HX, HR⟩ := hrel
                by_cases hlt : k < 8
                · have hx := HX.out
                  have hc := hx.2.1.cell k
                  have hf := hx.2.1.frozen k
                  rw [hx.2.2.2 k (Nat.le_refl _) hlt] at hc
                  have hvc := HR.out.1.cell k
                  rw [c64_at _ _ (by rw [hvl.out]; exact hlt)] at hvc
                  obtain ⟨y, ey, ly⟩ : ∃ y, (lst st).getD k 0 = y ∧ y < 4294967296 := ⟨_, rfl, hlt8.out k⟩
                  obtain ⟨v, ev, lv⟩ : ∃ v, vl.getD k 0 = v ∧ v < 4294967296 := ⟨_, rfl, hvlt.out k⟩
                  rw [ey] at hc
                  rw [ev] at hvc
                  have EY := Lib.hid ey
                  have EV := Lib.hid ev
                  obtain ⟨t1, ht1⟩ : ∃ t, y + v = t := ⟨_, rfl⟩
                  have r1 : (y : Int) + (v : Int) = (t1 : Int) := by omega
                  have m1 : IntKind.i64.wrap (t1 : Int) = t1 := by rw [IntKind.wrap_i64]; omega
                  have n1 : bits .and .i64 (t1 : Int) 4294967295 = ((t1 % 4294967296 : Nat) : Int) := i64_mask _ (by omega)
                  have HT1 := Lib.hid (show (y + v) % 4294967296 = t1 % 4294967296 by rw [ht1])
                  have k8 : (k : Int) < 8 := by omega
                  have k0 : (0 : Int) ≤ (k : Int) := by omega
                  have q1 : ∀ n, (World.mk wr.heap wr.tape n wr.os wr.output).cell? ⟨w.heap.size, k, none⟩ = some (.int .i64 (y : Int)) := fun _ => hc
                  have q2 : ∀ n, (World.mk wr.heap wr.tape n wr.os wr.output).cell? ⟨gv, k, none⟩ = some (.int .i64 (v : Int)) := fun _ => hvc
                  clear hx ey ev ht1
                  generalize t1 % 4294967296 = t2 at *
                  go_wp2
                  refine wp_region_still_tail 10 (by kernel_rfl) (by kernel_rfl) ?_
                  simp only [List.take_succ_cons, List.take_zero, List.drop_succ_cons, List.drop_zero]
                  repeat still_step
                  refine wpStill_nil ?_
                  clear q1 q2 r1 m1 n1
                  change wpList _ _ _ _ _ wr.drew
                  go_wp2
                  go_roundw
                  case rel =>
                    have hx := HX.out
                    have hr := HR.out
                    have b1 := Hgk.out
                    have b2 := Hgv.out
                    refine ⟨k + 1, xs.set k (.int .i64 (t2 : Int)), by omega, by go_num, Lib.hid ⟨by simp [hx.1], (hx.2.1.set k _).drew, fun j hj => ?_, fun j h1 h2 => ?_⟩, Lib.hid ⟨(hr.1.set_far _ _ _ (by omega)).drew, (hr.2.1.set_far _ _ _ (by omega)).drew, (hr.2.2.setCell (by exact Nat.le_refl _) _).drew⟩⟩
                    · by_cases e : j = k
                      · rw [e, List.getElem?_set_self (by omega), EY.out, EV.out, HT1.out]
                      · rw [List.getElem?_set_ne (by omega)]; exact hx.2.2.1 j (by omega)
                    · rw [List.getElem?_set_ne (by omega)]; exact hx.2.2.2 j (by omega) h2
                  case measure => simp [intOf]; omega
                · have hge : decide ((k : Int) < 8) = false := decide_eq_false (by omega)
                  have hxs : xs = c64 (blk (mw s) st) := by
                    apply List.ext_getElem?
                    intro i
                    by_cases hi : i < 8
                    · rw [HX.out.2.2.1 i (by omega)]
                      simp only [c64, List.getElem?_map, HBLK.out i hi, Option.map_some]
                    · have := HX.out.1
                      rw [List.getElem?_eq_none (by omega), List.getElem?_eq_none (by simp [c64]; rw [hbl.out]; omega)]
                  have HL := Lib.hid (show (c64 (blk (mw s) st)).length = 8 by simp [c64]; exact hbl.out)
                  have HI := Lib.hid (show (Tryd.prog.info? 27).map (·.size) = some (c64 (blk (mw s) st)).toArray.size by rw [show (c64 (blk (mw s) st)).toArray.size = 8 from HL.out]; exact info8)
                  have H1 := Lib.hid (show (c64 (blk (mw s) st)).toArray.all (·.oneCell') = true from all_oneCell_toArray (fun v hv => by simp only [c64, List.mem_map] at hv; obtain ⟨j, _, rfl⟩ := hv; rfl))
                  have HRW := Lib.hid (show Row wr w.heap.size 27 (c64 (blk (mw s) st)) by rw [← hxs]; exact HX.out.2.1)
                  have HT := Lib.hid (show wr.there (w.heap.size + 1) 0 (c64 (blk (mw s) st)).toArray.size by have := HR.out.2.1.there; rw [Z1.out] at this; rw [show (c64 (blk (mw s) st)).toArray.size = 8 from HL.out]; exact this)
                  have HRES := Lib.hid (HR.out.2.1.sets_all (vs := c64 (blk (mw s) st)) (by rw [HL.out, Z1.out]))
                  have HBF := Lib.hid (Arr.below_sets (B := w.heap.size) (a := w) (w.heap.size + 1) (Nat.le_succ _) (c64 (blk (mw s) st)) 0 wr HR.out.2.2)
                  clear hxs HX HR hk hlt
                  generalize hys : c64 (blk (mw s) st) = zs at *
                  have HZS := Lib.hid hys
                  clear hys
                  go_wp2_with (first
                    | (refine wpList_load_row rfl 27 _ rfl w.heap.size rfl 27 _ (0, 0) _ HRW.out Tryd.underlying27 rfl HI.out ?_)
                    | (refine wpList_store_mid rfl 27 _ _ rfl (w.heap.size + 1) 0 zs.toArray rfl rfl HT.out HI.out H1.out ?_))
                  refine bodyPost_ret (v := .agg zs.toArray) ?_ rfl ⟨?_, ?_⟩
                  · exact results_cell_row rfl _ _ (w.heap.size + 1) 27 _ (0, 0) _ rfl HRES.out Tryd.underlying27 rfl HI.out
                  · rw [HZS.out]
                  · exact HBF.out
end Go.Proofs.YtemlmffoehclhaaDoor.SpecBlock
