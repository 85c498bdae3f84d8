/-
  What is proved: a hash that takes more bytes is the plain one (the model's) (contract for the walks).
-/
import Derived.Test.YtemlmffoehclhaaDoorRows
import Derived.Test.YtemlmffoehclhaaDoorWith
import Derived.Test.YtemlmffoehclhaaDoorSpecBlock
namespace Go.Proofs.YtemlmffoehclhaaDoor.More
open Go.ChangeShapes Go.WideShapes Go.ChangeAt Go.RowKit
open Word
open Arr (Row)
open MixBlock (lst blk c64)
open Absorb (blkS blkS_ok blkS_cells all all_step all_end)
open With (hv hcells)
set_option linter.unusedVariables false

set_option maxRecDepth 100000 in
set_option maxHeartbeats 3200000 in
theorem more (x0 x1 x2 x3 x4 x5 x6 x7 : Nat) (hok : St.ok ⟨x0, x1, x2, x3, x4, x5, x6, x7⟩) (buf t : ByteArray) (n : Int) (h0 : 0 ≤ n) (hn : n ≤ 2000000000) (hb : buf.size ≤ 500000) (ht : t.size ≤ 500000) (w : World) :
    Calls Tryd.prog 71 #[.agg #[.int .i64 (x0 : Int), .int .i64 (x1 : Int), .int .i64 (x2 : Int), .int .i64 (x3 : Int), .int .i64 (x4 : Int), .int .i64 (x5 : Int), .int .i64 (x6 : Int), .int .i64 (x7 : Int), .string buf, .int .i64 n], .string t] w fun e' w' => e' = .returned (hv (all ⟨x0, x1, x2, x3, x4, x5, x6, x7⟩ (buf ++ t)).1 (all ⟨x0, x1, x2, x3, x4, x5, x6, x7⟩ (buf ++ t)).2 (n + (t.size : Int))) ∧ Below w.heap.size w w' := by
  have HOK := Lib.hid hok
  clear hok
  have hbt : (buf ++ t).size ≤ 1000000 := by rw [ByteArray.size_append]; omega
  have hwr : IntKind.i64.wrap (n + (t.size : Int)) = n + (t.size : Int) := by rw [IntKind.wrap_i64]; omega
  go_enter Tryd.func71, Tryd.ntmps71
  go_wp2
  generalize hW : World.alloc _ _ = W
  obtain ⟨o0, o1, o2, o3, o4, o5, o6, o7, o8, o9, R0, R1, HB, hsz⟩ : ∃ o0 o1 o2 o3 o4 o5 o6 o7 o8 o9 : Value, Row W w.heap.size 29 (hcells ⟨x0, x1, x2, x3, x4, x5, x6, x7⟩ (buf ++ t) (n + (t.size : Int))) ∧ Row W (w.heap.size + 1) 29 [o0, o1, o2, o3, o4, o5, o6, o7, o8, o9] ∧ Below w.heap.size w W ∧ w.heap.size + 2 ≤ W.heap.size := by
    rw [← hW]
    exact ⟨_, _, _, _, _, _, _, _, _, _, (Arr.two_new w _ _ _ _).1, (Arr.two_new w _ _ _ _).2.1, (Arr.two_new w _ _ _ _).2.2.1, (Arr.two_new w _ _ _ _).2.2.2⟩
  clear hW
  have RR := Lib.hid (And.intro R0 (And.intro R1 (And.intro HB hsz)))
  clear R0 R1 HB hsz
  generalize hF : all ⟨x0, x1, x2, x3, x4, x5, x6, x7⟩ (buf ++ t) = F
  have HF := Lib.hid hF
  clear hF
  go_loopg [] (buf ++ t).size (fun gk wr => ∃ (s : St) (b : ByteArray), gk = b.size ∧ b.size ≤ 1000000 ∧ Hid s.ok ∧ Hid (all s b = F) ∧ Hid (Row wr w.heap.size 29 (hcells s b (n + (t.size : Int))) ∧ Row wr (w.heap.size + 1) 29 [o0, o1, o2, o3, o4, o5, o6, o7, o8, o9] ∧ Below w.heap.size w wr ∧ w.heap.size + 2 ≤ wr.heap.size))
  case atStart => exact ⟨⟨x0, x1, x2, x3, x4, x5, x6, x7⟩, buf ++ t, rfl, hbt, HOK, HF, RR⟩
  case round =>
    obtain ⟨s, bb, hgk, hbb, SOK, SF, HR⟩ := hrel
    obtain ⟨a, b, c, d, e, f, g, z⟩ := s
    have HGK := Lib.hid hgk
    clear RR hgk hbt
    by_cases hlt : 64 ≤ bb.size
    · have h64 : (64 : Int) ≤ (bb.size : Int) := by omega
      have cc0 : wr.cell? ⟨w.heap.size, 0, none⟩ = some (.int .i64 (a : Int)) := (HR.out.1).cell 0
      have fc0 : wr.frozen? ⟨w.heap.size, 0, none⟩ = false := (HR.out.1).frozen 0
      have cc1 : wr.cell? ⟨w.heap.size, 1, none⟩ = some (.int .i64 (b : Int)) := (HR.out.1).cell 1
      have fc1 : wr.frozen? ⟨w.heap.size, 1, none⟩ = false := (HR.out.1).frozen 1
      have cc2 : wr.cell? ⟨w.heap.size, 2, none⟩ = some (.int .i64 (c : Int)) := (HR.out.1).cell 2
      have fc2 : wr.frozen? ⟨w.heap.size, 2, none⟩ = false := (HR.out.1).frozen 2
      have cc3 : wr.cell? ⟨w.heap.size, 3, none⟩ = some (.int .i64 (d : Int)) := (HR.out.1).cell 3
      have fc3 : wr.frozen? ⟨w.heap.size, 3, none⟩ = false := (HR.out.1).frozen 3
      have cc4 : wr.cell? ⟨w.heap.size, 4, none⟩ = some (.int .i64 (e : Int)) := (HR.out.1).cell 4
      have fc4 : wr.frozen? ⟨w.heap.size, 4, none⟩ = false := (HR.out.1).frozen 4
      have cc5 : wr.cell? ⟨w.heap.size, 5, none⟩ = some (.int .i64 (f : Int)) := (HR.out.1).cell 5
      have fc5 : wr.frozen? ⟨w.heap.size, 5, none⟩ = false := (HR.out.1).frozen 5
      have cc6 : wr.cell? ⟨w.heap.size, 6, none⟩ = some (.int .i64 (g : Int)) := (HR.out.1).cell 6
      have fc6 : wr.frozen? ⟨w.heap.size, 6, none⟩ = false := (HR.out.1).frozen 6
      have cc7 : wr.cell? ⟨w.heap.size, 7, none⟩ = some (.int .i64 (z : Int)) := (HR.out.1).cell 7
      have fc7 : wr.frozen? ⟨w.heap.size, 7, none⟩ = false := (HR.out.1).frozen 7
      have cc8 : wr.cell? ⟨w.heap.size, 8, none⟩ = some (.string bb) := (HR.out.1).cell 8
      have fc8 : wr.frozen? ⟨w.heap.size, 8, none⟩ = false := (HR.out.1).frozen 8
      have cc9 : wr.cell? ⟨w.heap.size, 9, none⟩ = some (.int .i64 (n + (t.size : Int))) := (HR.out.1).cell 9
      have fc9 : wr.frozen? ⟨w.heap.size, 9, none⟩ = false := (HR.out.1).frozen 9
      go_wp2_with fail
      refine (SpecBlock.block a b c d e f g z SOK.out _ hlt (by omega) _).mono ?_
      rintro e' w1 ⟨rfl, hb1⟩
      have hlw := HR.out.2.2.2
      have hb' : Below wr.heap.size wr w1 := ⟨hb1.os, hb1.tape, hb1.output, hb1.size, hb1.block⟩
      have HR1 := Lib.hid (show Row w1 w.heap.size 29 (hcells ⟨a, b, c, d, e, f, g, z⟩ bb (n + (t.size : Int))) ∧ Row w1 (w.heap.size + 1) 29 [o0, o1, o2, o3, o4, o5, o6, o7, o8, o9] ∧ Below w.heap.size w w1 ∧ w.heap.size + 2 ≤ w1.heap.size from
        ⟨HR.out.1.below hb' (by omega), HR.out.2.1.below hb' (by omega), HR.out.2.2.1.trans (hb'.mono (by omega)), Nat.le_trans hlw hb'.size⟩)
      clear hb1 hb' hlw HR
      rw [blkS_cells]
      have HSF := Lib.hid (all_step ⟨a, b, c, d, e, f, g, z⟩ bb hlt)
      have HSO := Lib.hid (blkS_ok bb ⟨a, b, c, d, e, f, g, z⟩)
      generalize blkS bb ⟨a, b, c, d, e, f, g, z⟩ = s2 at *
      obtain ⟨a2, b2, c2, d2, e2, f2, g2, z2⟩ := s2
      have dd0 : w1.cell? ⟨w.heap.size, 0, none⟩ = some (.int .i64 (a : Int)) := (HR1.out.1).cell 0
      have fd0 : w1.frozen? ⟨w.heap.size, 0, none⟩ = false := (HR1.out.1).frozen 0
      have dd1 : w1.cell? ⟨w.heap.size, 1, none⟩ = some (.int .i64 (b : Int)) := (HR1.out.1).cell 1
      have fd1 : w1.frozen? ⟨w.heap.size, 1, none⟩ = false := (HR1.out.1).frozen 1
      have dd2 : w1.cell? ⟨w.heap.size, 2, none⟩ = some (.int .i64 (c : Int)) := (HR1.out.1).cell 2
      have fd2 : w1.frozen? ⟨w.heap.size, 2, none⟩ = false := (HR1.out.1).frozen 2
      have dd3 : w1.cell? ⟨w.heap.size, 3, none⟩ = some (.int .i64 (d : Int)) := (HR1.out.1).cell 3
      have fd3 : w1.frozen? ⟨w.heap.size, 3, none⟩ = false := (HR1.out.1).frozen 3
      have dd4 : w1.cell? ⟨w.heap.size, 4, none⟩ = some (.int .i64 (e : Int)) := (HR1.out.1).cell 4
      have fd4 : w1.frozen? ⟨w.heap.size, 4, none⟩ = false := (HR1.out.1).frozen 4
      have dd5 : w1.cell? ⟨w.heap.size, 5, none⟩ = some (.int .i64 (f : Int)) := (HR1.out.1).cell 5
      have fd5 : w1.frozen? ⟨w.heap.size, 5, none⟩ = false := (HR1.out.1).frozen 5
      have dd6 : w1.cell? ⟨w.heap.size, 6, none⟩ = some (.int .i64 (g : Int)) := (HR1.out.1).cell 6
      have fd6 : w1.frozen? ⟨w.heap.size, 6, none⟩ = false := (HR1.out.1).frozen 6
      have dd7 : w1.cell? ⟨w.heap.size, 7, none⟩ = some (.int .i64 (z : Int)) := (HR1.out.1).cell 7
      have fd7 : w1.frozen? ⟨w.heap.size, 7, none⟩ = false := (HR1.out.1).frozen 7
      have dd8 : w1.cell? ⟨w.heap.size, 8, none⟩ = some (.string bb) := (HR1.out.1).cell 8
      have fd8 : w1.frozen? ⟨w.heap.size, 8, none⟩ = false := (HR1.out.1).frozen 8
      have dd9 : w1.cell? ⟨w.heap.size, 9, none⟩ = some (.int .i64 (n + (t.size : Int))) := (HR1.out.1).cell 9
      have fd9 : w1.frozen? ⟨w.heap.size, 9, none⟩ = false := (HR1.out.1).frozen 9
      simp only [c64, lst, List.map_cons, List.map_nil]
      go_wp2
      go_roundg (bb.size - 64)
      case measure => rw [HGK.out]; omega
      case rel =>
        have hr := HR1.out
        refine ⟨⟨a2, b2, c2, d2, e2, f2, g2, z2⟩, bb.extract 64 bb.size, (Absorb.size_tail bb).symm, by rw [Absorb.size_tail]; omega, HSO, Lib.hid (HSF.out.trans SF.out), Lib.hid ⟨?_, ?_, ?_, by simpa [World.setCell] using hr.2.2.2⟩⟩
        · exact ((((((((hr.1.set 0 _).set 1 _).set 2 _).set 3 _).set 4 _).set 5 _).set 6 _).set 7 _).set 8 _
        · iterate 9 refine Row.set_far ?_ _ _ _ (by omega)
          exact hr.2.1
        · iterate 9 refine Below.setCell ?_ (by exact Nat.le_refl _) _
          exact hr.2.2.1
    · have hge : decide (64 ≤ (bb.size : Int)) = false := decide_eq_false (by omega)
      have hE := all_end ⟨a, b, c, d, e, f, g, z⟩ bb (by omega)
      have hF2 := SF.out.symm.trans hE
      subst hF2
      clear hE SF HGK SOK HOK
      have hlw := HR.out.2.2.2
      have cc0 : wr.cell? ⟨w.heap.size, 0, none⟩ = some (.int .i64 (a : Int)) := (HR.out.1).cell 0
      have fc0 : wr.frozen? ⟨w.heap.size, 0, none⟩ = false := (HR.out.1).frozen 0
      have cc1 : wr.cell? ⟨w.heap.size, 1, none⟩ = some (.int .i64 (b : Int)) := (HR.out.1).cell 1
      have fc1 : wr.frozen? ⟨w.heap.size, 1, none⟩ = false := (HR.out.1).frozen 1
      have cc2 : wr.cell? ⟨w.heap.size, 2, none⟩ = some (.int .i64 (c : Int)) := (HR.out.1).cell 2
      have fc2 : wr.frozen? ⟨w.heap.size, 2, none⟩ = false := (HR.out.1).frozen 2
      have cc3 : wr.cell? ⟨w.heap.size, 3, none⟩ = some (.int .i64 (d : Int)) := (HR.out.1).cell 3
      have fc3 : wr.frozen? ⟨w.heap.size, 3, none⟩ = false := (HR.out.1).frozen 3
      have cc4 : wr.cell? ⟨w.heap.size, 4, none⟩ = some (.int .i64 (e : Int)) := (HR.out.1).cell 4
      have fc4 : wr.frozen? ⟨w.heap.size, 4, none⟩ = false := (HR.out.1).frozen 4
      have cc5 : wr.cell? ⟨w.heap.size, 5, none⟩ = some (.int .i64 (f : Int)) := (HR.out.1).cell 5
      have fc5 : wr.frozen? ⟨w.heap.size, 5, none⟩ = false := (HR.out.1).frozen 5
      have cc6 : wr.cell? ⟨w.heap.size, 6, none⟩ = some (.int .i64 (g : Int)) := (HR.out.1).cell 6
      have fc6 : wr.frozen? ⟨w.heap.size, 6, none⟩ = false := (HR.out.1).frozen 6
      have cc7 : wr.cell? ⟨w.heap.size, 7, none⟩ = some (.int .i64 (z : Int)) := (HR.out.1).cell 7
      have fc7 : wr.frozen? ⟨w.heap.size, 7, none⟩ = false := (HR.out.1).frozen 7
      have cc8 : wr.cell? ⟨w.heap.size, 8, none⟩ = some (.string bb) := (HR.out.1).cell 8
      have fc8 : wr.frozen? ⟨w.heap.size, 8, none⟩ = false := (HR.out.1).frozen 8
      have cc9 : wr.cell? ⟨w.heap.size, 9, none⟩ = some (.int .i64 (n + (t.size : Int))) := (HR.out.1).cell 9
      have fc9 : wr.frozen? ⟨w.heap.size, 9, none⟩ = false := (HR.out.1).frozen 9
      have gz0 : wr.frozen? ⟨w.heap.size + 1, 0, none⟩ = false := HR.out.2.1.frozen 0
      have oz0 : wr.cell? ⟨w.heap.size + 1, 0, none⟩ = some o0 := HR.out.2.1.cell 0
      have gz1 : wr.frozen? ⟨w.heap.size + 1, 1, none⟩ = false := HR.out.2.1.frozen 1
      have oz1 : wr.cell? ⟨w.heap.size + 1, 1, none⟩ = some o1 := HR.out.2.1.cell 1
      have gz2 : wr.frozen? ⟨w.heap.size + 1, 2, none⟩ = false := HR.out.2.1.frozen 2
      have oz2 : wr.cell? ⟨w.heap.size + 1, 2, none⟩ = some o2 := HR.out.2.1.cell 2
      have gz3 : wr.frozen? ⟨w.heap.size + 1, 3, none⟩ = false := HR.out.2.1.frozen 3
      have oz3 : wr.cell? ⟨w.heap.size + 1, 3, none⟩ = some o3 := HR.out.2.1.cell 3
      have gz4 : wr.frozen? ⟨w.heap.size + 1, 4, none⟩ = false := HR.out.2.1.frozen 4
      have oz4 : wr.cell? ⟨w.heap.size + 1, 4, none⟩ = some o4 := HR.out.2.1.cell 4
      have gz5 : wr.frozen? ⟨w.heap.size + 1, 5, none⟩ = false := HR.out.2.1.frozen 5
      have oz5 : wr.cell? ⟨w.heap.size + 1, 5, none⟩ = some o5 := HR.out.2.1.cell 5
      have gz6 : wr.frozen? ⟨w.heap.size + 1, 6, none⟩ = false := HR.out.2.1.frozen 6
      have oz6 : wr.cell? ⟨w.heap.size + 1, 6, none⟩ = some o6 := HR.out.2.1.cell 6
      have gz7 : wr.frozen? ⟨w.heap.size + 1, 7, none⟩ = false := HR.out.2.1.frozen 7
      have oz7 : wr.cell? ⟨w.heap.size + 1, 7, none⟩ = some o7 := HR.out.2.1.cell 7
      have gz8 : wr.frozen? ⟨w.heap.size + 1, 8, none⟩ = false := HR.out.2.1.frozen 8
      have oz8 : wr.cell? ⟨w.heap.size + 1, 8, none⟩ = some o8 := HR.out.2.1.cell 8
      have gz9 : wr.frozen? ⟨w.heap.size + 1, 9, none⟩ = false := HR.out.2.1.frozen 9
      have oz9 : wr.cell? ⟨w.heap.size + 1, 9, none⟩ = some o9 := HR.out.2.1.cell 9
      go_wp2
      refine bodyPost_ret (v := hv ⟨a, b, c, d, e, f, g, z⟩ bb (n + (t.size : Int))) ?_ rfl ⟨?_, ?_⟩
      · simp [results, Tryd.results71, go_sem, hv, oz0, oz1, oz2, oz3, oz4, oz5, oz6, oz7, oz8, oz9]
      · rw [HF.out]
      · iterate 10 refine Below.setCell ?_ (by show w.heap.size ≤ w.heap.size + 1; omega) _
        exact HR.out.2.2.1
end Go.Proofs.YtemlmffoehclhaaDoor.More
