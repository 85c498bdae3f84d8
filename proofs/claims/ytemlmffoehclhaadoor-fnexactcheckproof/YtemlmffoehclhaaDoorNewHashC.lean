/-
  What is proved: both new hashes are the same value; the law on them returns true (the walk).
-/
import Derived.Test.YtemlmffoehclhaaDoorRows
import Derived.Test.YtemlmffoehclhaaDoorEq8
namespace Go.Proofs.YtemlmffoehclhaaDoor.NewHashC
open Go.ChangeShapes Go.WideShapes Go.ChangeAt Go.RowKit

def h0 : Value := .agg #[.int .i64 1779033703, .int .i64 3144134277, .int .i64 1013904242, .int .i64 2773480762, .int .i64 1359893119, .int .i64 2600822924, .int .i64 528734635, .int .i64 1541459225, .string ⟨#[]⟩, .int .i64 0]

theorem new_impl (w : World) :
    Calls Tryd.prog 18 #[] w fun e w' => e = .returned h0 ∧ Below w.heap.size w w' := by
  go_enter Tryd.func18, Tryd.ntmps18
  go_wp2
  refine bodyPost_ret (v := h0) (by simp [results, Tryd.results18, go_sem, h0]) rfl ⟨rfl, ?_⟩
  exact (Below.refl _ _).alloc (Nat.le_refl _) _
theorem start (w : World) :
    Calls Tryd.prog 78 #[] w fun e w' => e = .returned (.agg #[.int .i64 1779033703, .int .i64 3144134277, .int .i64 1013904242, .int .i64 2773480762, .int .i64 1359893119, .int .i64 2600822924, .int .i64 528734635, .int .i64 1541459225]) ∧ Below w.heap.size w w' := by
  go_enter Tryd.func78, Tryd.ntmps78
  go_wp2
  refine bodyPost_ret (v := .agg #[.int .i64 1779033703, .int .i64 3144134277, .int .i64 1013904242, .int .i64 2773480762, .int .i64 1359893119, .int .i64 2600822924, .int .i64 528734635, .int .i64 1541459225]) (by simp [results, Tryd.results78, go_sem]) rfl ⟨rfl, ?_⟩
  exact (Below.refl _ _).alloc (Nat.le_refl _) _
set_option maxHeartbeats 400000 in
theorem new_spec (w : World) :
    Calls Tryd.prog 72 #[] w fun e w' => e = .returned h0 ∧ Below w.heap.size w w' := by
  go_enter Tryd.func72, Tryd.ntmps72
  go_wp2_with fail
  refine (start _).mono ?_
  rintro e w1 ⟨rfl, hb⟩
  obtain ⟨hc, hf⟩ := Eq8.bcell hb
  have hz := hb.size
  have HB := Lib.hid hb
  clear hb
  simp only [World.size_alloc] at hc hf hz
  go_wp2
  refine bodyPost_ret (v := h0) (by simp [results, Tryd.results72, go_sem, h0, hc]) rfl ⟨rfl, ?_⟩
  iterate 10 refine Below.setCell ?_ (by exact Nat.le_refl _) _
  exact ((Below.refl _ _).alloc (Nat.le_refl _) _).trans (HB.out.mono (by simp))

end Go.Proofs.YtemlmffoehclhaaDoor.NewHashC
