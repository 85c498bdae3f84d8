/-
  What is proved: plain facts on five numbers that lie in five cells of memory; nothing of the program's functions (but closed facts on its types).
-/
import Derived.Test.YtcfdnifllehbjaaDoorRows
import Derived.Test.YtcfdnifllehbjaaDoorArr
import Derived.Test.YtcfdnifllehbjaaDoorWord
import Derived.Test.YtcfdnifllehbjaaDoorPoly
import Derived.Laws.ResultCell
import Derived.WalkSpells
import Derived.Deep.RegionHeld3
import Derived.Deep.CutRange
namespace Go.Proofs.YtcfdnifllehbjaaDoor.Five
open Go.ChangeShapes Go.WideShapes Go.ChangeAt Go.RowKit
open Arr (Row)
set_option linter.unusedVariables false

/-- Five numbers as cells. -/
def cn (κ : IntKind) (v : Nat → Nat) : List Value := (List.range 5).map fun j => .int κ (v j : Int)
theorem cn_len (κ : IntKind) (v : Nat → Nat) : (cn κ v).length = 5 := by simp [cn]
theorem cn_at (κ : IntKind) (v : Nat → Nat) (j : Nat) (h : j < 5) : (cn κ v)[j]? = some (.int κ (v j : Int)) := by
  simp [cn, h]
theorem cn_one (κ : IntKind) (v : Nat → Nat) : (cn κ v).toArray.all (·.oneCell') = true := all_oneCell_toArray fun u hu => by
  simp only [cn, List.mem_map] at hu
  obtain ⟨j, _, rfl⟩ := hu
  rfl
theorem cn_congr (κ : IntKind) {v u : Nat → Nat} (h : ∀ j, j < 5 → v j = u j) : cn κ v = cn κ u := by
  unfold cn
  apply List.map_congr_left
  intro j hj
  rw [h j (by simpa using hj)]
theorem cn_set (κ : IntKind) (v u : Nat → Nat) (k : Nat) (x : Int) (hk : k < 5) (hx : x = (u k : Int)) (h : ∀ j, j < 5 → j ≠ k → v j = u j) : (cn κ v).set k (.int κ x) = cn κ u := by
  apply List.ext_getElem?
  intro j
  by_cases hj : j < 5
  · by_cases e : j = k
    · subst e
      rw [List.getElem?_set_self (by rw [cn_len]; exact hk), cn_at κ u j hj, hx]
    · rw [List.getElem?_set_ne (by omega), cn_at κ v j hj, cn_at κ u j hj, h j hj e]
  · rw [List.getElem?_eq_none (by rw [List.length_set, cn_len]; omega), List.getElem?_eq_none (by rw [cn_len]; omega)]
theorem info44 : (Tryd.prog.info? 76).map (·.size) = some 5 := by kernel_rfl
theorem infoU (v : Nat → Nat) : (Tryd.prog.info? 76).map (·.size) = some (cn .u64 v).toArray.size := by rw [List.size_toArray, cn_len]; exact info44
theorem info50 : (Tryd.prog.info? 87).map (·.size) = some 5 := by kernel_rfl
theorem infoI (v : Nat → Nat) : (Tryd.prog.info? 87).map (·.size) = some (cn .i64 v).toArray.size := by rw [List.size_toArray, cn_len]; exact info50
theorem size_cn (κ : IntKind) (v : Nat → Nat) : (cn κ v).toArray.size = 5 := by rw [List.size_toArray, cn_len]
theorem there_row {w : World} {g : Nat} {t : TypeId} {xs : List Value} (h : Row w g t xs) (hl : xs.length = 5) (κ : IntKind) (v : Nat → Nat) : w.there g 0 (cn κ v).toArray.size := by
  have := h.there
  rw [hl] at this
  rw [size_cn]
  exact this
theorem sets_row {w : World} {g : Nat} {t : TypeId} {xs : List Value} (h : Row w g t xs) (hl : xs.length = 5) (κ : IntKind) (v : Nat → Nat) : Row (w.setCells g 0 (cn κ v)) g t (cn κ v) :=
  h.sets_all (by rw [cn_len, hl])
theorem three_new (w : World) (a b c : Array Value) (t u v : TypeId) : Row (((w.alloc (.cells a t)).alloc (.cells b u)).alloc (.cells c v)) w.heap.size t a.toList ∧ Row (((w.alloc (.cells a t)).alloc (.cells b u)).alloc (.cells c v)) (w.heap.size + 1) u b.toList ∧
    Row (((w.alloc (.cells a t)).alloc (.cells b u)).alloc (.cells c v)) (w.heap.size + 2) v c.toList ∧ Below w.heap.size w (((w.alloc (.cells a t)).alloc (.cells b u)).alloc (.cells c v)) ∧ w.heap.size + 3 ≤ (((w.alloc (.cells a t)).alloc (.cells b u)).alloc (.cells c v)).heap.size := by
  obtain ⟨h1, h2, h3, h4⟩ := Arr.two_new w a b t u
  refine ⟨h1.alloc _, h2.alloc _, ?_, h3.alloc (by omega) _, by simp⟩
  have := Arr.row_new ((w.alloc (.cells a t)).alloc (.cells b u)) c v
  rw [show ((w.alloc (.cells a t)).alloc (.cells b u)).heap.size = w.heap.size + 2 by simp] at this
  exact this
theorem loadU {w : World} {g : Nat} {t : TypeId} {v : Nat → Nat} (h : Row w g t (cn .u64 v)) : (loadVar 76 ⟨g, 0, none⟩).run Tryd.prog w = .ok (.agg (cn .u64 v).toArray) w :=
  run_loadVar_row w g t 76 _ (0, 0) _ h Tryd.underlying76 rfl (infoU v)
theorem results_cell_tmp_row {fn : Func} {p u : Tmp} {ty : TypeId} {P : Program} (h : fn.results = #[.cell p ty, .tmp u]) (tmps : Array Value) (w : World) (g : Nat) (cs x : Value)
    (hp : tmps.getD p undef = .pointer (some ⟨g, 0, none⟩)) (hl : (loadVar ty ⟨g, 0, none⟩).run P w = .ok cs w) (hx : tmps.getD u undef = x) :
    (results fn tmps).run P w = .ok (.tuple #[cs, x]) w := by
  rw [results_cell_tmp h, hp, hx]
  simp [asAddr, hl]
theorem u64_wrap (x : Nat) (h : x < 18446744073709551616) : IntKind.u64.wrap (x : Int) = (x : Int) := by rw [IntKind.wrap_u64]; omega
end Go.Proofs.YtcfdnifllehbjaaDoor.Five
