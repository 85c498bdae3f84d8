/-
  What is proved: what the law on devices asks of the plain functions: what was written is read, also behind a sync and a crash; a crash with no fate drops, one that keeps is a sync (plain facts for the walk).
-/
import Derived.Test.YtmgokpkogjdfhaaRows
import Derived.Test.YtmgokpkogjdfhaaDeviceOf
import Derived.Test.YtmgokpkogjdfhaaCrashes
import Derived.Test.YtmgokpkogjdfhaaSyncs
import Derived.Test.YtmgokpkogjdfhaaReads
namespace Go.Proofs.Ytmgokpkogjdfhaa.DevW
open Go.ChangeShapes Go.WideShapes Go.ChangeAt Go.RowKit
open Dev Settle Right Draw
set_option linter.unusedVariables false

theorem bcell {w w' : World} (h : Below w.heap.size w w') : (∀ (b i : Nat), b < w.heap.size → w'.cell? ⟨b, i, none⟩ = w.cell? ⟨b, i, none⟩) ∧ (∀ (b i : Nat), b < w.heap.size → w'.frozen? ⟨b, i, none⟩ = w.frozen? ⟨b, i, none⟩) :=
  ⟨fun b i hb => h.cell (p := ⟨b, i, none⟩) hb, fun b i hb => h.frozen (p := ⟨b, i, none⟩) hb⟩
theorem dev_stored {z : World} {base g : Nat} {sv uv : Value} {T : List ByteArray} {X : List (Int × ByteArray)} (ho : DevO z base (.agg #[sv, uv]) T X) (hg : g < base) (x y : Value) : Dev ((z.setCell ⟨g, 0, none⟩ x).setCell ⟨g, 1, none⟩ y) (.agg #[sv, uv]) T X := by
  have hd := ho.dev
  obtain ⟨s, u, e, k1, k2, _⟩ := ho
  obtain ⟨rfl, rfl⟩ : sv = s ∧ uv = u := by simpa using e
  exact dev_grown hd (Src.grown_set (Src.grown_set (World.grownBy.refl z (some g)) 0 x) 1 y) (own_low k1 g hg) (own_low k2 g hg)
open Sl (Sl)
open OpenSl (tc nc)
theorem lit0 (w : World) (ty : TypeId) : Sl (w.alloc (.cells #[] ty)) 1 (.slice (some ⟨w.heap.size, 0, none⟩) 0 0) ([] : List Int).length (nc []) :=
  ⟨_, 0, rfl, Nat.le_refl _, by unfold maxLen; omega, fun h => absurd h (by simp)⟩
theorem lit1 (w : World) (ty : TypeId) : Sl (w.alloc (.cells #[.int .i64 1] ty)) 1 (.slice (some ⟨w.heap.size, 0, none⟩) 1 1) [(1 : Int)].length (nc [1]) := by
  refine ⟨_, 1, rfl, Nat.le_refl _, by unfold maxLen; omega, fun _ => ⟨w.heap.size, 0, rfl, fun j hj => ?_⟩⟩
  rw [Nat.zero_add, cell_of_row _ w.heap.size j _ ty (0, 0) (heap_alloc_new w _)]
  obtain rfl : j = 0 := by simp at hj; omega
  rfl
theorem sl_of {w : World} {sv uv : Value} {ts : List ByteArray} {xs : List (Int × ByteArray)} (h : Dev w (.agg #[sv, uv]) ts xs) : Sl w 1 sv ts.length (tc ts) := by
  obtain ⟨s, u, e, k1, k2⟩ := h
  obtain ⟨rfl, rfl⟩ : sv = s ∧ uv = u := by simpa using e
  exact k1
theorem fault_ok {ts : List ByteArray} {xs : List (Int × ByteArray)} (hr : Rt ts xs) {k : Nat} (hk : k < 40) : fault ts xs (k : Int) = 0 := by
  unfold fault
  rw [if_pos hr, if_pos (show In (k : Int) from ⟨by omega, by omega⟩)]
theorem wrote {ts : List ByteArray} {xs : List (Int × ByteArray)} (hr : Rt ts xs) (hl : xs.length ≤ 8) {k : Nat} (hk : k < 40) {t : ByteArray} (ht : t.size ≤ 9) :
    Writes.wcode ts xs k t = 0 ∧ Writes.wts ts xs k t = ts ∧ Writes.wxs ts xs k t = xs ++ [((k : Int), t)] ∧ Rt ts (xs ++ [((k : Int), t)]) := by
  obtain ⟨h1, h2, h3⟩ := Writes.case_ok ts xs k t (by omega) (fault_ok hr hk) (by omega) (by omega)
  exact ⟨h1, h2, h3, rt_write hr (by omega) _ (show In (k : Int) from ⟨by omega, by omega⟩) t (by omega)⟩
theorem last (xs : List (Int × ByteArray)) (y : Int × ByteArray) : (xs ++ [y]).getD xs.length (0, ByteArray.empty) = y := by
  rw [List.getD_eq_getElem?_getD, List.getElem?_append_right (Nat.le_refl _)]
  simp
theorem read {ts : List ByteArray} {xs : List (Int × ByteArray)} {k : Nat} (hk : k < 40) {t : ByteArray} (hr : Rt ts (xs ++ [((k : Int), t)])) :
    Reads.res ts (xs ++ [((k : Int), t)]) k = .tuple #[.string t, .int .i64 0] := by
  unfold Reads.res
  rw [if_pos (fault_ok hr hk), List.length_append, List.length_singleton, Reads.rd, last, if_pos rfl]
theorem fate_one (i : Nat) : fate [1] i = 1 := by
  unfold fate
  rw [if_neg (by simp)]
  simp [Nat.mod_one]
theorem synced {ts : List ByteArray} {xs : List (Int × ByteArray)} {k : Nat} (hk : k < 40) {t : ByteArray} (hr : Rt ts (xs ++ [((k : Int), t)])) :
    ∃ T, Syncs.code ts (xs ++ [((k : Int), t)]) = 0 ∧ Syncs.yts ts (xs ++ [((k : Int), t)]) = T ∧ Rt T [] ∧ Reads.res T [] k = .tuple #[.string t, .int .i64 0] ∧ Crashes.code ts (xs ++ [((k : Int), t)]) [1] = 0 ∧ Crashes.yts ts (xs ++ [((k : Int), t)]) [1] = T := by
  have hk1 : Crashes.Fk [1] := by
    intro j hj
    obtain rfl : j = 0 := by simp at hj; omega
    exact ⟨by decide, by decide⟩
  obtain ⟨c1, c2⟩ := Crashes.case_ok ts (xs ++ [((k : Int), t)]) [1] (by simp) hr hk1
  refine ⟨st ts (xs ++ [((k : Int), t)]) [1] (xs ++ [((k : Int), t)]).length, by unfold Syncs.code; rw [if_pos hr], by unfold Syncs.yts; rw [if_pos hr], rt_st hr [1], ?_, c1, c2⟩
  have hT := rt_st hr [1]
  unfold Reads.res
  rw [if_pos (fault_ok hT hk), List.length_nil, Reads.rd, Int.toNat_natCast]
  rw [show (st ts (xs ++ [((k : Int), t)]) [1] (xs ++ [((k : Int), t)]).length).getD k ByteArray.empty = t by
    rw [List.length_append, List.length_singleton, st, last, fate_one]
    simp only [Int.toNat_natCast]
    rw [List.getD_eq_getElem?_getD, List.getElem?_set_self (by rw [st_len, hr.1]; exact hk)]
    simp [met]]
theorem crashed {T : List ByteArray} (hr : Rt T []) {fs : List Int} (hl : fs.length ≤ 3) (hf : Crashes.Fk fs) : Crashes.code T [] fs = 0 ∧ Crashes.yts T [] fs = T := by
  obtain ⟨c1, c2⟩ := Crashes.case_ok T [] fs (by omega) hr hf
  exact ⟨c1, c2⟩
theorem st_none (ts : List ByteArray) (xs : List (Int × ByteArray)) : ∀ k, st ts xs [] k = ts
  | 0 => rfl
  | k + 1 => by
    rw [st, st_none ts xs k, show fate [] k = 0 from rfl, show ∀ s d, met s d 0 = s from fun s d => rfl]
    apply List.ext_getElem?
    intro j
    by_cases e : (xs.getD k (0, ByteArray.empty)).1.toNat = j
    · rw [e]
      by_cases hj : j < ts.length
      · rw [List.getElem?_set_self hj, List.getD_eq_getElem?_getD, List.getElem?_eq_getElem hj]
        rfl
      · rw [List.getElem?_eq_none (by rw [List.length_set]; omega), List.getElem?_eq_none (by omega)]
    · rw [List.getElem?_set_ne e]
theorem dropped {ts : List ByteArray} {xs : List (Int × ByteArray)} (hr : Rt ts xs) : Crashes.code ts xs [] = 0 ∧ Crashes.yts ts xs [] = ts := by
  obtain ⟨c1, c2⟩ := Crashes.case_ok ts xs [] (by simp) hr (by intro j hj; simp at hj)
  exact ⟨c1, by rw [c2, st_none]⟩
theorem torn {ts : List ByteArray} {xs : List (Int × ByteArray)} (hr : Rt ts xs) {fs : List Int} (hl : fs.length ≤ 3) (hf : Crashes.Fk fs) : ∃ T2, Crashes.code ts xs fs = 0 ∧ Crashes.yts ts xs fs = T2 ∧ Rt T2 [] := by
  obtain ⟨c1, c2⟩ := Crashes.case_ok ts xs fs (by omega) hr hf
  exact ⟨_, c1, c2, rt_st hr fs⟩
end Go.Proofs.Ytmgokpkogjdfhaa.DevW
