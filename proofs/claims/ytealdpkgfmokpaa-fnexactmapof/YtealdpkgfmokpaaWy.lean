/-
  What is proved: the program's functions on ways: the buckets of a way, whether a bucket is on it, whether a number is a leaf's, a block's, a value (contracts for the walks).
-/
import Derived.Test.YtealdpkgfmokpaaRows
import Derived.Test.YtealdpkgfmokpaaDev
import Derived.Test.YtealdpkgfmokpaaArr
import Derived.Laws.ResultCell
import Derived.WalkSpells
namespace Go.Proofs.Ytealdpkgfmokpaa.Wy
open Go.ChangeShapes Go.WideShapes Go.ChangeAt Go.RowKit
open Sl (Sl Own Off)
open OpenSl (tc nc pc)
open Dev
set_option linter.unusedVariables false

/-- A leaf's number; a block's; a value. -/
def P8 (z : Int) : Prop := 0 ≤ z ∧ z < 8
def I12 (z : Int) : Prop := 0 ≤ z ∧ z < 12
def C6 (z : Int) : Prop := 0 ≤ z ∧ z ≤ 999999
instance (z : Int) : Decidable (P8 z) := by unfold P8; infer_instance
instance (z : Int) : Decidable (I12 z) := by unfold I12; infer_instance
instance (z : Int) : Decidable (C6 z) := by unfold C6; infer_instance
/-- The buckets on the way to a leaf. -/
def wl (l : Int) : List Int := [0, 1 + l / 4, 3 + l / 2, 7 + l]
def wv (l : Int) : Array Value := #[.int .i64 0, .int .i64 (1 + l / 4), .int .i64 (3 + l / 2), .int .i64 (7 + l)]
/-- Bucket b is on the way to leaf l. -/
def On (b l : Int) : Prop := b = 0 ∨ b = 1 + l / 4 ∨ b = 3 + l / 2 ∨ b = 7 + l
instance (b l : Int) : Decidable (On b l) := by unfold On; infer_instance
theorem mem_wl (b l : Int) : b ∈ wl l ↔ On b l := by simp [wl, On]
theorem eight {z : Int} (h : P8 z) : z = 0 ∨ z = 1 ∨ z = 2 ∨ z = 3 ∨ z = 4 ∨ z = 5 ∨ z = 6 ∨ z = 7 := by unfold P8 at h; omega

theorem isPath (z : Int) (w : World) : Calls Try.prog 66 #[.int .i64 z] w fun e w' => e = .returned (.bool (decide (P8 z))) ∧ w' = w := by
  by_cases h0 : 0 ≤ z
  · by_cases h1 : z < 8
    · rw [decide_eq_true (show P8 z from ⟨h0, h1⟩)]
      go_enter Try.func66, Try.ntmps66
      go_wp2
      go_ret
      exact ⟨rfl, rfl⟩
    · rw [decide_eq_false (show ¬ P8 z from fun h => h1 h.2)]
      go_enter Try.func66, Try.ntmps66
      go_wp2
      go_ret
      exact ⟨rfl, rfl⟩
  · rw [decide_eq_false (show ¬ P8 z from fun h => h0 h.1)]
    have d : decide (z ≥ 0) = false := decide_eq_false h0
    have d2 : decide (0 ≤ z) = false := decide_eq_false h0
    go_enter Try.func66, Try.ntmps66
    go_wp2
    go_ret
    exact ⟨rfl, rfl⟩
theorem isId (z : Int) (w : World) : Calls Try.prog 65 #[.int .i64 z] w fun e w' => e = .returned (.bool (decide (I12 z))) ∧ w' = w := by
  by_cases h0 : 0 ≤ z
  · by_cases h1 : z < 12
    · rw [decide_eq_true (show I12 z from ⟨h0, h1⟩)]
      go_enter Try.func65, Try.ntmps65
      go_wp2
      go_ret
      exact ⟨rfl, rfl⟩
    · rw [decide_eq_false (show ¬ I12 z from fun h => h1 h.2)]
      go_enter Try.func65, Try.ntmps65
      go_wp2
      go_ret
      exact ⟨rfl, rfl⟩
  · rw [decide_eq_false (show ¬ I12 z from fun h => h0 h.1)]
    have d : decide (z ≥ 0) = false := decide_eq_false h0
    have d2 : decide (0 ≤ z) = false := decide_eq_false h0
    go_enter Try.func65, Try.ntmps65
    go_wp2
    go_ret
    exact ⟨rfl, rfl⟩
theorem isCell (z : Int) (w : World) : Calls Try.prog 67 #[.int .i64 z] w fun e w' => e = .returned (.bool (decide (C6 z))) ∧ w' = w := by
  by_cases h0 : 0 ≤ z
  · by_cases h1 : z ≤ 999999
    · rw [decide_eq_true (show C6 z from ⟨h0, h1⟩)]
      go_enter Try.func67, Try.ntmps67
      go_wp2
      go_ret
      exact ⟨rfl, rfl⟩
    · rw [decide_eq_false (show ¬ C6 z from fun h => h1 h.2)]
      go_enter Try.func67, Try.ntmps67
      go_wp2
      go_ret
      exact ⟨rfl, rfl⟩
  · rw [decide_eq_false (show ¬ C6 z from fun h => h0 h.1)]
    have d : decide (z ≥ 0) = false := decide_eq_false h0
    have d2 : decide (0 ≤ z) = false := decide_eq_false h0
    go_enter Try.func67, Try.ntmps67
    go_wp2
    go_ret
    exact ⟨rfl, rfl⟩
theorem l01In (z a b : Int) (w : World) : Calls Try.prog 60 #[.int .i64 z, .int .i64 a, .int .i64 b] w fun e w' => e = .returned (.bool (decide (a ≤ z ∧ z ≤ b))) ∧ w' = w := by
  by_cases h0 : a ≤ z
  · by_cases h1 : z ≤ b
    · rw [decide_eq_true (show a ≤ z ∧ z ≤ b from ⟨h0, h1⟩)]
      go_enter Try.func60, Try.ntmps60
      go_wp2
      go_ret
      exact ⟨rfl, rfl⟩
    · rw [decide_eq_false (show ¬ (a ≤ z ∧ z ≤ b) from fun h => h1 h.2)]
      go_enter Try.func60, Try.ntmps60
      go_wp2
      go_ret
      exact ⟨rfl, rfl⟩
  · rw [decide_eq_false (show ¬ (a ≤ z ∧ z ≤ b) from fun h => h0 h.1)]
    have d : decide (a ≤ z) = false := decide_eq_false h0
    go_enter Try.func60, Try.ntmps60
    go_wp2
    go_ret
    exact ⟨rfl, rfl⟩

set_option maxRecDepth 100000 in
set_option maxHeartbeats 3200000 in
theorem wayTo (l : Int) (hl : P8 l) (w : World) : Calls Try.prog 111 #[.int .i64 l] w fun e w' => e = .returned (.agg (wv l)) ∧ Below w.heap.size w w' := by
  unfold wv
  rcases eight hl with rfl | rfl | rfl | rfl | rfl | rfl | rfl | rfl
  all_goals
    clear hl
    go_enter Try.func111, Try.ntmps111
    go_wp2
    refine wp_loop_rounds 5 ?_
    rw [rounds_succ]
    go_wp2
    rw [rounds_succ]
    go_wp2
    rw [rounds_succ]
    go_wp2
    rw [rounds_succ]
    go_wp2
    rw [rounds_succ]
    go_wp2
    refine bodyPost_ret (v := .agg (wv _)) (by simp [results, Try.results111, go_sem, wv]; try rfl) rfl ⟨rfl, ((Below.refl _ _).alloc (Nat.le_refl _) _).alloc (by simp) _⟩

set_option maxRecDepth 100000 in
set_option maxHeartbeats 800000 in
theorem index (w : World) (v : Value) (zs : List Int) (z : Int) (h : Sl w 1 v zs.length (nc zs)) :
    Calls Try.prog 102 #[v, .int .i64 z] w fun e w' => (∃ r : Int, e = .returned (.int .i64 r) ∧ decide (r ≥ 0) = decide (z ∈ zs)) ∧ w' = w := by
  obtain ⟨a, cap, rfl, h1, h2, h3⟩ := h
  have H3 := Lib.hid h3
  have HZ := Lib.hid (show ∀ k, k < zs.length → zs.getD k 0 = z → z ∈ zs from fun k hk e => by
    rw [← e, List.getD_eq_getElem?_getD, List.getElem?_eq_getElem hk]; exact List.getElem_mem hk)
  have HZ2 := Lib.hid (show (∀ k, k < zs.length → zs.getD k 0 ≠ z) → z ∉ zs from fun hn hm => by
    obtain ⟨k, hk, e⟩ := List.getElem_of_mem hm
    exact hn k hk (by rw [List.getD_eq_getElem?_getD, List.getElem?_eq_getElem hk]; exact e))
  clear h3
  unfold maxLen at h2
  obtain ⟨q, eq⟩ : ∃ q : Prop, (z ∈ zs) = q := ⟨_, rfl⟩
  obtain ⟨b, eb⟩ : ∃ b : Bool, decide (z ∈ zs) = b := ⟨_, rfl⟩
  have HQ := Lib.hid (show z ∈ zs → b = true from fun h => by rw [← eb]; exact decide_eq_true h)
  have HQ2 := Lib.hid (show z ∉ zs → b = false from fun h => by rw [← eb]; exact decide_eq_false h)
  rw [eb]
  clear eb eq
  generalize zs.length = n at *
  go_enter Try.func102, Try.ntmps102
  go_wp2
  go_loopw [8] (fun i wr => ∃ k : Nat, k ≤ n ∧ i = .int .i64 k ∧ w = wr ∧ Hid (∀ j, j < k → zs.getD j 0 ≠ z)) (fun i _ => n - (intOf i).toNat)
  case atStart => exact ⟨0, by omega, rfl, rfl, Lib.hid fun j hj => by omega⟩
  case round =>
    obtain ⟨k, hk, rfl, rfl, HJ⟩ := hrel
    by_cases hkn : k < n
    · obtain ⟨b', o, rfl, hc⟩ := H3.out (by omega)
      have c0 := hc k (by omega)
      unfold nc at c0
      have HJ1 := Lib.hid (show zs.getD k 0 = z → b = true from fun e => HQ.out (HZ.out k hkn e))
      have HJ2 := Lib.hid (show zs.getD k 0 ≠ z → ∀ j, j < k + 1 → zs.getD j 0 ≠ z from fun hn j hj => by
        by_cases ej : j = k
        · rw [ej]; exact hn
        · exact HJ.out j (by omega))
      clear hc
      generalize zs.getD k 0 = s at *
      by_cases hb : s = z
      · subst hb
        obtain rfl := HJ1.out rfl
        go_wp2
        go_ret
        exact ⟨⟨_, rfl, by omega⟩, rfl⟩
      · have d1 : ¬ z = s := fun e => hb e.symm
        have d2 : (z == s) = false := beq_eq_false_iff_ne.2 d1
        have d3 : decide (z = s) = false := decide_eq_false d1
        go_wp2
        go_roundw
        case rel => exact ⟨k + 1, by omega, by go_num, by trivial, Lib.hid (HJ2.out hb)⟩
        case measure => simp [intOf]; omega
    · obtain rfl := HQ2.out (HZ2.out fun j hj => HJ.out j (by omega))
      go_wp2
      go_ret
      exact ⟨⟨_, rfl, by omega⟩, rfl⟩
theorem contains (w : World) (v : Value) (zs : List Int) (z : Int) (h : Sl w 1 v zs.length (nc zs)) :
    Calls Try.prog 98 #[v, .int .i64 z] w fun e w' => e = .returned (.bool (decide (z ∈ zs))) ∧ w' = w := by
  have HS := Lib.hid h
  obtain ⟨a, cap, rfl, h1, h2, h3⟩ := h
  clear h3
  obtain ⟨b, eb⟩ : ∃ b : Bool, decide (z ∈ zs) = b := ⟨_, rfl⟩
  have EB := Lib.hid eb
  rw [eb]
  clear eb
  go_enter Try.func98, Try.ntmps98
  go_wp2_with fail
  refine (index w _ zs z HS.out).mono ?_
  rintro e w1 ⟨⟨r, rfl, hr⟩, rfl⟩
  rw [EB.out] at hr
  have hr2 : decide (0 ≤ r) = b := by rw [← hr]
  go_wp2
  go_ret
  exact ⟨rfl, rfl⟩
theorem sl_wl (w : World) (g : Nat) (l : Int) (h : ∀ j, j < 4 → w.cell? ⟨g, j, none⟩ = some ((wv l)[j]!)) : Sl w 1 (.slice (some ⟨g, 0, none⟩) 4 4) (wl l).length (nc (wl l)) := by
  refine ⟨_, 4, rfl, Nat.le_refl _, by unfold maxLen; omega, fun _ => ⟨g, 0, rfl, fun j hj => ?_⟩⟩
  have hj4 : j < 4 := by simpa [wl] using hj
  rw [Nat.zero_add, h j hj4]
  match j, hj4 with
  | 0, _ => rfl
  | 1, _ => rfl
  | 2, _ => rfl
  | 3, _ => rfl
set_option maxRecDepth 100000 in
theorem isOnWay (b l : Int) (hl : P8 l) (w : World) : Calls Try.prog 139 #[.int .i64 b, .int .i64 l] w fun e w' => e = .returned (.bool (decide (On b l))) ∧ Below w.heap.size w w' := by
  obtain ⟨q, eq⟩ : ∃ q : Bool, decide (On b l) = q := ⟨_, rfl⟩
  have EQ := Lib.hid (show decide (b ∈ wl l) = q by rw [← eq]; exact decide_eq_decide.2 (mem_wl b l))
  rw [eq]
  clear eq
  have HW := Lib.hid (show ∀ (u : World), Sl (u.alloc (.cells (wv l) 149)) 1 (.slice (some ⟨u.heap.size, 0, none⟩) 4 4) (wl l).length (nc (wl l)) from fun u => sl_wl _ _ l fun j hj => by
    rw [cell_of_row _ u.heap.size j (wv l) 149 (0, 0) (heap_alloc_new u _)]
    match j, hj with
    | 0, _ => rfl
    | 1, _ => rfl
    | 2, _ => rfl
    | 3, _ => rfl)
  have HWV := Lib.hid (show wv l = #[.int .i64 0, .int .i64 (1 + l / 4), .int .i64 (3 + l / 2), .int .i64 (7 + l)] from rfl)
  go_enter Try.func139, Try.ntmps139
  go_wp2_with fail
  refine (wayTo l hl w).mono ?_
  rintro e w1 ⟨rfl, hb⟩
  rw [HWV.out]
  rw [HWV.out] at HW
  generalize 1 + l / 4 = x1 at *
  generalize 3 + l / 2 = x2 at *
  generalize 7 + l = x3 at *
  have HB := Lib.hid (hb.alloc hb.size (.cells #[.int .i64 0, .int .i64 x1, .int .i64 x2, .int .i64 x3] 149))
  clear hb
  go_wp2_with fail
  refine (contains _ _ (wl l) b (HW.out w1)).mono ?_
  rw [EQ.out]
  rintro e w2 ⟨rfl, rfl⟩
  go_wp2
  go_ret
  exact ⟨rfl, HB.out⟩
end Go.Proofs.Ytealdpkgfmokpaa.Wy
