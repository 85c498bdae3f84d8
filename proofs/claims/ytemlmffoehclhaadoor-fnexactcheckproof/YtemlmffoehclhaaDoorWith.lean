/-
  What is proved: a hash that takes more bytes is the plain one (the program's own), where the package's table holds its words (contract for the walks).
-/
import Derived.Test.YtemlmffoehclhaaDoorRows
import Derived.Test.YtemlmffoehclhaaDoorAbsorb
import Derived.Test.YtemlmffoehclhaaDoorClone
import Derived.Deep.LoopGhost
import Derived.Deep.RegionWith
import Derived.WalkSpells
namespace Go.Proofs.YtemlmffoehclhaaDoor.With
open Go.ChangeShapes Go.WideShapes Go.ChangeAt Go.RowKit
open Word
open Arr (Row)
open MixBlock (Tab lst blk c64 three_new)
open Absorb (blkS blkS_ok blkS_cells blkS_head all all_step all_end)
set_option linter.unusedVariables false

/-- A hash as a value. -/
def hv (s : St) (b : ByteArray) (n : Int) : Value := .agg #[.int .i64 (s.a : Int), .int .i64 (s.b : Int), .int .i64 (s.c : Int), .int .i64 (s.d : Int), .int .i64 (s.e : Int), .int .i64 (s.f : Int), .int .i64 (s.g : Int), .int .i64 (s.h : Int), .string b, .int .i64 n]
def hcells (s : St) (b : ByteArray) (n : Int) : List Value := [.int .i64 (s.a : Int), .int .i64 (s.b : Int), .int .i64 (s.c : Int), .int .i64 (s.d : Int), .int .i64 (s.e : Int), .int .i64 (s.f : Int), .int .i64 (s.g : Int), .int .i64 (s.h : Int), .string b, .int .i64 n]

set_option maxRecDepth 100000 in
set_option maxHeartbeats 3200000 in
theorem withImpl (x0 x1 x2 x3 x4 x5 x6 x7 : Nat) (hok : St.ok ⟨x0, x1, x2, x3, x4, x5, x6, x7⟩) (buf t : ByteArray) (n : Int) (h0 : 0 ≤ n) (hn : n ≤ 2000000000) (hb : buf.size ≤ 1000000) (ht : t.size ≤ 1000000) (w : World) (T : Tab w) :
    Calls Tryd.prog 47 #[.agg #[.int .i64 (x0 : Int), .int .i64 (x1 : Int), .int .i64 (x2 : Int), .int .i64 (x3 : Int), .int .i64 (x4 : Int), .int .i64 (x5 : Int), .int .i64 (x6 : Int), .int .i64 (x7 : Int), .string buf, .int .i64 n], .string t] w fun e' w' => e' = .returned (hv (all ⟨x0, x1, x2, x3, x4, x5, x6, x7⟩ (buf ++ t)).1 (all ⟨x0, x1, x2, x3, x4, x5, x6, x7⟩ (buf ++ t)).2 (n + (t.size : Int))) ∧ Below w.heap.size w w' := by
  have TT := Lib.hid T
  have HTL := Lib.hid T.lt
  have HOK := Lib.hid hok
  clear T hok
  have hbt : (buf ++ t).size ≤ 2000000 := by rw [ByteArray.size_append]; omega
  go_enter Tryd.func47, Tryd.ntmps47
  go_wp2
  generalize hW : ((w.alloc _).alloc _).alloc _ = W
  obtain ⟨z1, hz1, R0, R1, R2, HB, hsz⟩ : ∃ z1 : List Value, z1.length = 10 ∧ Row W w.heap.size 29 (hcells ⟨x0, x1, x2, x3, x4, x5, x6, x7⟩ buf n) ∧ Row W (w.heap.size + 1) 29 z1 ∧ Row W (w.heap.size + 2) 27 (c64 (lst ⟨x0, x1, x2, x3, x4, x5, x6, x7⟩)) ∧ Below w.heap.size w W ∧ w.heap.size + 3 ≤ W.heap.size := by
    rw [← hW]
    exact ⟨_, rfl, (three_new w _ _ _ _ _ _).1, (three_new w _ _ _ _ _ _).2.1, (three_new w _ _ _ _ _ _).2.2.1, (three_new w _ _ _ _ _ _).2.2.2.1, (three_new w _ _ _ _ _ _).2.2.2.2⟩
  clear hW
  have Z1 := Lib.hid hz1
  have RR := Lib.hid (And.intro R0 (And.intro R1 (And.intro HB hsz)))
  have RR2 := Lib.hid R2
  clear hz1 R0 R1 R2 HB hsz
  generalize hF : all ⟨x0, x1, x2, x3, x4, x5, x6, x7⟩ (buf ++ t) = F
  have HF := Lib.hid hF
  clear hF
  go_loopg [5] (buf ++ t).size (fun gk v5 wr => ∃ (s : St) (b : ByteArray), v5 = .string b ∧ gk = b.size ∧ b.size ≤ 2000000 ∧ Hid s.ok ∧ Hid (all s b = F) ∧ Hid (Row wr (w.heap.size + 2) 27 (c64 (lst s))) ∧ Hid (Row wr w.heap.size 29 (hcells ⟨x0, x1, x2, x3, x4, x5, x6, x7⟩ buf n) ∧ Row wr (w.heap.size + 1) 29 z1 ∧ Below w.heap.size w wr ∧ w.heap.size + 3 ≤ wr.heap.size))
  case atStart => exact ⟨⟨x0, x1, x2, x3, x4, x5, x6, x7⟩, buf ++ t, rfl, rfl, hbt, HOK, HF, RR2, RR⟩
  case round =>
    obtain ⟨s, bb, rfl, hgk, hbb, SOK, SF, HV, HR⟩ := hrel
    obtain ⟨a, b, c, d, e, f, g, z⟩ := s
    have HGK := Lib.hid hgk
    clear RR RR2 hgk hbt
    by_cases hlt : 64 ≤ bb.size
    · have h64 : (64 : Int) ≤ (bb.size : Int) := by omega
      have q0 : ∀ k, (World.mk wr.heap wr.tape k wr.os wr.output).cell? ⟨w.heap.size + 2, 0, none⟩ = some (.int .i64 (a : Int)) := fun _ => HV.out.cell 0
      have q1 : ∀ k, (World.mk wr.heap wr.tape k wr.os wr.output).cell? ⟨w.heap.size + 2, 1, none⟩ = some (.int .i64 (b : Int)) := fun _ => HV.out.cell 1
      have q2 : ∀ k, (World.mk wr.heap wr.tape k wr.os wr.output).cell? ⟨w.heap.size + 2, 2, none⟩ = some (.int .i64 (c : Int)) := fun _ => HV.out.cell 2
      have q3 : ∀ k, (World.mk wr.heap wr.tape k wr.os wr.output).cell? ⟨w.heap.size + 2, 3, none⟩ = some (.int .i64 (d : Int)) := fun _ => HV.out.cell 3
      have q4 : ∀ k, (World.mk wr.heap wr.tape k wr.os wr.output).cell? ⟨w.heap.size + 2, 4, none⟩ = some (.int .i64 (e : Int)) := fun _ => HV.out.cell 4
      have q5 : ∀ k, (World.mk wr.heap wr.tape k wr.os wr.output).cell? ⟨w.heap.size + 2, 5, none⟩ = some (.int .i64 (f : Int)) := fun _ => HV.out.cell 5
      have q6 : ∀ k, (World.mk wr.heap wr.tape k wr.os wr.output).cell? ⟨w.heap.size + 2, 6, none⟩ = some (.int .i64 (g : Int)) := fun _ => HV.out.cell 6
      have q7 : ∀ k, (World.mk wr.heap wr.tape k wr.os wr.output).cell? ⟨w.heap.size + 2, 7, none⟩ = some (.int .i64 (z : Int)) := fun _ => HV.out.cell 7
      go_wp2
      refine wp_region_still_tail 3 (by kernel_rfl) (by kernel_rfl) ?_
      simp only [List.take_succ_cons, List.take_zero, List.drop_succ_cons, List.drop_zero]
      repeat still_step
      refine wpStill_nil ?_
      clear q0 q1 q2 q3 q4 q5 q6 q7
      change wpList _ _ _ _ _ wr.drew
      go_wp2_with fail
      have htab := TT.out.below HR.out.2.2.1 HTL.out
      have htab' : Tab wr.drew := htab
      refine (MixBlock.mixBlock a b c d e f g z SOK.out _ (by rw [ByteArray.size_extract]; omega) _ htab').mono ?_
      rintro e' w1 ⟨rfl, hb1⟩
      have hlw := HR.out.2.2.2
      have hb' : Below wr.heap.size wr w1 := ⟨hb1.os, hb1.tape, hb1.output, hb1.size, hb1.block⟩
      have HR1 := Lib.hid (show Row w1 w.heap.size 29 (hcells ⟨x0, x1, x2, x3, x4, x5, x6, x7⟩ buf n) ∧ Row w1 (w.heap.size + 1) 29 z1 ∧ Below w.heap.size w w1 ∧ w.heap.size + 3 ≤ w1.heap.size from
        ⟨HR.out.1.below hb' (by omega), HR.out.2.1.below hb' (by omega), HR.out.2.2.1.trans (hb'.mono (by omega)), Nat.le_trans hlw hb'.size⟩)
      have HV1 := Lib.hid (HV.out.below hb' (by omega))
      clear hb1 hb' hlw HR HV htab htab'
      rw [blkS_cells, blkS_head]
      have HSF := Lib.hid (all_step ⟨a, b, c, d, e, f, g, z⟩ bb hlt)
      have HSO := Lib.hid (blkS_ok bb ⟨a, b, c, d, e, f, g, z⟩)
      generalize blkS bb ⟨a, b, c, d, e, f, g, z⟩ = s2 at *
      obtain ⟨a2, b2, c2, d2, e2, f2, g2, z2⟩ := s2
      have dd0 : w1.cell? ⟨w.heap.size + 2, 0, none⟩ = some (.int .i64 (a : Int)) := HV1.out.cell 0
      have gg0 := HV1.out.frozen 0
      have dd1 : w1.cell? ⟨w.heap.size + 2, 1, none⟩ = some (.int .i64 (b : Int)) := HV1.out.cell 1
      have gg1 := HV1.out.frozen 1
      have dd2 : w1.cell? ⟨w.heap.size + 2, 2, none⟩ = some (.int .i64 (c : Int)) := HV1.out.cell 2
      have gg2 := HV1.out.frozen 2
      have dd3 : w1.cell? ⟨w.heap.size + 2, 3, none⟩ = some (.int .i64 (d : Int)) := HV1.out.cell 3
      have gg3 := HV1.out.frozen 3
      have dd4 : w1.cell? ⟨w.heap.size + 2, 4, none⟩ = some (.int .i64 (e : Int)) := HV1.out.cell 4
      have gg4 := HV1.out.frozen 4
      have dd5 : w1.cell? ⟨w.heap.size + 2, 5, none⟩ = some (.int .i64 (f : Int)) := HV1.out.cell 5
      have gg5 := HV1.out.frozen 5
      have dd6 : w1.cell? ⟨w.heap.size + 2, 6, none⟩ = some (.int .i64 (g : Int)) := HV1.out.cell 6
      have gg6 := HV1.out.frozen 6
      have dd7 : w1.cell? ⟨w.heap.size + 2, 7, none⟩ = some (.int .i64 (z : Int)) := HV1.out.cell 7
      have gg7 := HV1.out.frozen 7
      simp only [c64, lst, List.map_cons, List.map_nil]
      go_wp2
      go_roundg (bb.size - 64)
      case measure => rw [HGK.out]; omega
      case rel =>
        have hr := HR1.out
        refine ⟨⟨a2, b2, c2, d2, e2, f2, g2, z2⟩, bb.extract 64 bb.size, rfl, (Absorb.size_tail bb).symm, by rw [Absorb.size_tail]; omega, HSO, Lib.hid (HSF.out.trans SF.out), Lib.hid ?_, Lib.hid ⟨?_, ?_, ?_, by simpa [World.setCell] using hr.2.2.2⟩⟩
        · exact (((((((HV1.out.set 0 _).set 1 _).set 2 _).set 3 _).set 4 _).set 5 _).set 6 _).set 7 _
        · iterate 8 refine Row.set_far ?_ _ _ _ (by omega)
          exact hr.1
        · iterate 8 refine Row.set_far ?_ _ _ _ (by omega)
          exact hr.2.1
        · iterate 8 refine Below.setCell ?_ (by show w.heap.size ≤ w.heap.size + 2; omega) _
          exact hr.2.2.1
    · have hge : decide (64 ≤ (bb.size : Int)) = false := decide_eq_false (by omega)
      have hE := all_end ⟨a, b, c, d, e, f, g, z⟩ bb (by omega)
      have hF2 := SF.out.symm.trans hE
      subst hF2
      clear hE SF HGK SOK HOK
      have dd0 : wr.cell? ⟨w.heap.size + 2, 0, none⟩ = some (.int .i64 (a : Int)) := HV.out.cell 0
      have dd1 : wr.cell? ⟨w.heap.size + 2, 1, none⟩ = some (.int .i64 (b : Int)) := HV.out.cell 1
      have dd2 : wr.cell? ⟨w.heap.size + 2, 2, none⟩ = some (.int .i64 (c : Int)) := HV.out.cell 2
      have dd3 : wr.cell? ⟨w.heap.size + 2, 3, none⟩ = some (.int .i64 (d : Int)) := HV.out.cell 3
      have dd4 : wr.cell? ⟨w.heap.size + 2, 4, none⟩ = some (.int .i64 (e : Int)) := HV.out.cell 4
      have dd5 : wr.cell? ⟨w.heap.size + 2, 5, none⟩ = some (.int .i64 (f : Int)) := HV.out.cell 5
      have dd6 : wr.cell? ⟨w.heap.size + 2, 6, none⟩ = some (.int .i64 (g : Int)) := HV.out.cell 6
      have dd7 : wr.cell? ⟨w.heap.size + 2, 7, none⟩ = some (.int .i64 (z : Int)) := HV.out.cell 7
      have nN : wr.cell? ⟨w.heap.size, 9, none⟩ = some (.int .i64 n) := HR.out.1.cell 9
      have ff0 : wr.frozen? ⟨w.heap.size + 1, 0, none⟩ = false := HR.out.2.1.frozen 0
      have ff1 : wr.frozen? ⟨w.heap.size + 1, 1, none⟩ = false := HR.out.2.1.frozen 1
      have ff2 : wr.frozen? ⟨w.heap.size + 1, 2, none⟩ = false := HR.out.2.1.frozen 2
      have ff3 : wr.frozen? ⟨w.heap.size + 1, 3, none⟩ = false := HR.out.2.1.frozen 3
      have ff4 : wr.frozen? ⟨w.heap.size + 1, 4, none⟩ = false := HR.out.2.1.frozen 4
      have ff5 : wr.frozen? ⟨w.heap.size + 1, 5, none⟩ = false := HR.out.2.1.frozen 5
      have ff6 : wr.frozen? ⟨w.heap.size + 1, 6, none⟩ = false := HR.out.2.1.frozen 6
      have ff7 : wr.frozen? ⟨w.heap.size + 1, 7, none⟩ = false := HR.out.2.1.frozen 7
      have ff8 : wr.frozen? ⟨w.heap.size + 1, 8, none⟩ = false := HR.out.2.1.frozen 8
      have ff9 : wr.frozen? ⟨w.heap.size + 1, 9, none⟩ = false := HR.out.2.1.frozen 9
      have hlw := HR.out.2.2.2
      have hwr : IntKind.i64.wrap (n + (t.size : Int)) = n + (t.size : Int) := by rw [IntKind.wrap_i64] <;> omega
      obtain ⟨o0, o1, o2, o3, o4, o5, o6, o7, o8, o9, hz⟩ : ∃ o0 o1 o2 o3 o4 o5 o6 o7 o8 o9 , z1 = [o0, o1, o2, o3, o4, o5, o6, o7, o8, o9] := by
        have := Z1.out
        match z1, this with
        | [o0, o1, o2, o3, o4, o5, o6, o7, o8, o9], _ => exact ⟨o0, o1, o2, o3, o4, o5, o6, o7, o8, o9, rfl⟩
      subst hz
      go_wp2_with fail
      go_region_with (
        go_at_call 74
        refine (Clone.clone _ (by omega) _).mono ?_
        rintro e' w1 ⟨rfl, hb1⟩
        have hb' : Below wr.heap.size wr w1 := ⟨hb1.os, hb1.tape, hb1.output, hb1.size, hb1.block⟩
        have ee0 : w1.cell? ⟨w.heap.size + 2, 0, none⟩ = some (.int .i64 (a : Int)) := (HV.out.below hb' (by omega)).cell 0
        have ee1 : w1.cell? ⟨w.heap.size + 2, 1, none⟩ = some (.int .i64 (b : Int)) := (HV.out.below hb' (by omega)).cell 1
        have ee2 : w1.cell? ⟨w.heap.size + 2, 2, none⟩ = some (.int .i64 (c : Int)) := (HV.out.below hb' (by omega)).cell 2
        have ee3 : w1.cell? ⟨w.heap.size + 2, 3, none⟩ = some (.int .i64 (d : Int)) := (HV.out.below hb' (by omega)).cell 3
        have ee4 : w1.cell? ⟨w.heap.size + 2, 4, none⟩ = some (.int .i64 (e : Int)) := (HV.out.below hb' (by omega)).cell 4
        have ee5 : w1.cell? ⟨w.heap.size + 2, 5, none⟩ = some (.int .i64 (f : Int)) := (HV.out.below hb' (by omega)).cell 5
        have ee6 : w1.cell? ⟨w.heap.size + 2, 6, none⟩ = some (.int .i64 (g : Int)) := (HV.out.below hb' (by omega)).cell 6
        have ee7 : w1.cell? ⟨w.heap.size + 2, 7, none⟩ = some (.int .i64 (z : Int)) := (HV.out.below hb' (by omega)).cell 7
        have nN1 : w1.cell? ⟨w.heap.size, 9, none⟩ = some (.int .i64 n) := (HR.out.1.below hb' (by omega)).cell 9
        have hh0 : w1.frozen? ⟨w.heap.size + 1, 0, none⟩ = false := (HR.out.2.1.below hb' (by omega)).frozen 0
        have kk0 : w1.cell? ⟨w.heap.size + 1, 0, none⟩ = some o0 := (HR.out.2.1.below hb' (by omega)).cell 0
        have hh1 : w1.frozen? ⟨w.heap.size + 1, 1, none⟩ = false := (HR.out.2.1.below hb' (by omega)).frozen 1
        have kk1 : w1.cell? ⟨w.heap.size + 1, 1, none⟩ = some o1 := (HR.out.2.1.below hb' (by omega)).cell 1
        have hh2 : w1.frozen? ⟨w.heap.size + 1, 2, none⟩ = false := (HR.out.2.1.below hb' (by omega)).frozen 2
        have kk2 : w1.cell? ⟨w.heap.size + 1, 2, none⟩ = some o2 := (HR.out.2.1.below hb' (by omega)).cell 2
        have hh3 : w1.frozen? ⟨w.heap.size + 1, 3, none⟩ = false := (HR.out.2.1.below hb' (by omega)).frozen 3
        have kk3 : w1.cell? ⟨w.heap.size + 1, 3, none⟩ = some o3 := (HR.out.2.1.below hb' (by omega)).cell 3
        have hh4 : w1.frozen? ⟨w.heap.size + 1, 4, none⟩ = false := (HR.out.2.1.below hb' (by omega)).frozen 4
        have kk4 : w1.cell? ⟨w.heap.size + 1, 4, none⟩ = some o4 := (HR.out.2.1.below hb' (by omega)).cell 4
        have hh5 : w1.frozen? ⟨w.heap.size + 1, 5, none⟩ = false := (HR.out.2.1.below hb' (by omega)).frozen 5
        have kk5 : w1.cell? ⟨w.heap.size + 1, 5, none⟩ = some o5 := (HR.out.2.1.below hb' (by omega)).cell 5
        have hh6 : w1.frozen? ⟨w.heap.size + 1, 6, none⟩ = false := (HR.out.2.1.below hb' (by omega)).frozen 6
        have kk6 : w1.cell? ⟨w.heap.size + 1, 6, none⟩ = some o6 := (HR.out.2.1.below hb' (by omega)).cell 6
        have hh7 : w1.frozen? ⟨w.heap.size + 1, 7, none⟩ = false := (HR.out.2.1.below hb' (by omega)).frozen 7
        have kk7 : w1.cell? ⟨w.heap.size + 1, 7, none⟩ = some o7 := (HR.out.2.1.below hb' (by omega)).cell 7
        have hh8 : w1.frozen? ⟨w.heap.size + 1, 8, none⟩ = false := (HR.out.2.1.below hb' (by omega)).frozen 8
        have kk8 : w1.cell? ⟨w.heap.size + 1, 8, none⟩ = some o8 := (HR.out.2.1.below hb' (by omega)).cell 8
        have hh9 : w1.frozen? ⟨w.heap.size + 1, 9, none⟩ = false := (HR.out.2.1.below hb' (by omega)).frozen 9
        have kk9 : w1.cell? ⟨w.heap.size + 1, 9, none⟩ = some o9 := (HR.out.2.1.below hb' (by omega)).cell 9)
      all_goals
        go_wp2
        refine bodyPost_ret (v := hv ⟨a, b, c, d, e, f, g, z⟩ bb (n + (t.size : Int))) ?_ rfl ⟨?_, ?_⟩
        · simp [results, Tryd.results47, go_sem, hv, kk0, kk1, kk2, kk3, kk4, kk5, kk6, kk7, kk8, kk9]
        · rw [HF.out]
        · iterate 10 refine Below.setCell ?_ (by show w.heap.size ≤ w.heap.size + 1; omega) _
          exact HR.out.2.2.1.trans (hb'.mono (by omega))
end Go.Proofs.YtemlmffoehclhaaDoor.With
