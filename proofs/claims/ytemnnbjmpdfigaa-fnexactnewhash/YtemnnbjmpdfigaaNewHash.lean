/-
  What is proved: both new hashes are the same value; the law on them returns true (the walk).
-/
import Derived.Test.YtemnnbjmpdfigaaRows
import Derived.Test.YtemnnbjmpdfigaaEq8
namespace Go.Proofs.Ytemnnbjmpdfigaa.NewHash
open Go.ChangeShapes Go.WideShapes Go.ChangeAt Go.RowKit

def h0 : Value := .agg #[.int .i64 1779033703, .int .i64 3144134277, .int .i64 1013904242, .int .i64 2773480762, .int .i64 1359893119, .int .i64 2600822924, .int .i64 528734635, .int .i64 1541459225, .string ⟨#[]⟩, .int .i64 0]

theorem new_impl (w : World) :
    Calls Try.prog 16 #[] w fun e w' => e = .returned h0 ∧ Below w.heap.size w w' := by
  go_enter Try.func16, Try.ntmps16
  go_wp2
  refine bodyPost_ret (v := h0) (by simp [results, Try.results16, go_sem, h0]) rfl ⟨rfl, ?_⟩
  exact (Below.refl _ _).alloc (Nat.le_refl _) _
theorem start (w : World) :
    Calls Try.prog 30 #[] w fun e w' => e = .returned (.agg #[.int .i64 1779033703, .int .i64 3144134277, .int .i64 1013904242, .int .i64 2773480762, .int .i64 1359893119, .int .i64 2600822924, .int .i64 528734635, .int .i64 1541459225]) ∧ Below w.heap.size w w' := by
  go_enter Try.func30, Try.ntmps30
  go_wp2
  refine bodyPost_ret (v := .agg #[.int .i64 1779033703, .int .i64 3144134277, .int .i64 1013904242, .int .i64 2773480762, .int .i64 1359893119, .int .i64 2600822924, .int .i64 528734635, .int .i64 1541459225]) (by simp [results, Try.results30, go_sem]) rfl ⟨rfl, ?_⟩
  exact (Below.refl _ _).alloc (Nat.le_refl _) _
set_option maxHeartbeats 400000 in
theorem new_spec (w : World) :
    Calls Try.prog 15 #[] w fun e w' => e = .returned h0 ∧ Below w.heap.size w w' := by
  go_enter Try.func15, Try.ntmps15
  go_wp2_with fail
  refine (start _).mono ?_
  rintro e w1 ⟨rfl, hb⟩
  obtain ⟨hc, hf⟩ := Eq8.bcell hb
  have hz := hb.size
  have HB := Lib.hid hb
  clear hb
  simp only [World.size_alloc] at hc hf hz
  go_wp2
  refine bodyPost_ret (v := h0) (by simp [results, Try.results15, go_sem, h0, hc]) rfl ⟨rfl, ?_⟩
  iterate 10 refine Below.setCell ?_ (by exact Nat.le_refl _) _
  exact ((Below.refl _ _).alloc (Nat.le_refl _) _).trans (HB.out.mono (by simp))

set_option maxHeartbeats 400000 in
theorem walk (w : World) :
    Calls Try.prog 5 #[] w fun e w' => e = .returned (.bool true) ∧ Below w.heap.size w w' := by
  go_enter Try.func5, Try.ntmps5
  go_wp2_with fail
  refine (new_spec _).mono ?_
  rintro e w1 ⟨rfl, hb1⟩
  unfold h0
  have HB1 := Lib.hid hb1
  clear hb1
  go_wp2_with fail
  refine (new_impl _).mono ?_
  rintro e w2 ⟨rfl, hb2⟩
  unfold h0
  obtain ⟨hc, hf⟩ := Eq8.bcell hb2
  have HB2 := Lib.hid hb2
  have hz := hb2.size
  clear hb2 hf
  simp only [World.size_alloc] at hc hz
  have hlt : w1.heap.size < w2.heap.size := hz
  clear hz
  go_wp2_with fail
  refine (Eq8.eqHash _ _ _ _ _ _ _ _ _ _ _).mono ?_
  rintro e w3 ⟨rfl, hb3⟩
  have HB3 := Lib.hid hb3
  clear hb3
  go_wp2
  go_ret
  refine ⟨rfl, ?_⟩
  have hz1 := HB1.out.size
  refine (HB1.out.trans ?_)
  refine (((Below.refl _ _).alloc hz1 _).trans (HB2.out.mono (by simp; omega))).trans ?_
  exact ((Below.refl _ _).alloc (by omega) _).trans (HB3.out.mono (by simp; omega))
end Go.Proofs.Ytemnnbjmpdfigaa.NewHash
