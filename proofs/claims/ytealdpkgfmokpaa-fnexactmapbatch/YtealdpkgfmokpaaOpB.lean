/-
  What is proved: both OpOK answer the plain test of an operation (contracts for the walks).
-/
import Derived.Test.YtealdpkgfmokpaaRows
import Derived.Test.YtealdpkgfmokpaaOrm
import Derived.Test.YtealdpkgfmokpaaBox3
namespace Go.Proofs.Ytealdpkgfmokpaa.OpB
open Go.ChangeShapes Go.WideShapes Go.ChangeAt Go.RowKit
open Sl (Sl Own Off)
open Dev Orm Box3
set_option linter.unusedVariables false

/-- An operation of no value; one with a cell's value; a scan. -/
def Bare (k : Int) : Prop := k = 1 ∨ k = 3
def Cell (k : Int) : Prop := k = 2 ∨ k = 4 ∨ k = 5
instance (k : Int) : Decidable (Bare k) := by unfold Bare; exact inferInstance
instance (k : Int) : Decidable (Cell k) := by unfold Cell; exact inferInstance
/-- An operation that is right. -/
def Ok (x : Bk) : Prop := 1 ≤ x.2.1 ∧ x.2.1 ≤ 9999 ∧ (Bare x.1 ∧ x.2.2 = 0 ∨ Cell x.1 ∧ 0 ≤ x.2.2 ∧ x.2.2 ≤ 999999 ∨ x.1 = 6 ∧ 1 ≤ x.2.2 ∧ x.2.2 ≤ 4)
instance (x : Bk) : Decidable (Ok x) := by unfold Ok; exact inferInstance

theorem isCell (z : Int) (w : World) : Calls Try.prog 67 #[.int .i64 z] w fun e w' => e = .returned (.bool (decide (0 ≤ z ∧ z ≤ 999999))) ∧ w' = w := by
  go_enter Try.func67, Try.ntmps67
  go_wp2
  all_goals (go_ret; exact ⟨by congr 2; simp; try omega, rfl⟩)
theorem l01In (z a b : Int) (w : World) : Calls Try.prog 60 #[.int .i64 z, .int .i64 a, .int .i64 b] w fun e w' => e = .returned (.bool (decide (a ≤ z ∧ z ≤ b))) ∧ w' = w := by
  go_enter Try.func60, Try.ntmps60
  go_wp2
  all_goals (go_ret; exact ⟨by congr 2; simp; try omega, rfl⟩)

/-- The value as its sort. -/
def srt (x : Bk) : Value := if Bare x.1 then .iface 185 (bv x) else if Cell x.1 then .iface 186 (bv x) else if x.1 = 6 then .iface 187 (bv x) else .nilIface
set_option maxRecDepth 100000 in
theorem sortOf (w : World) (k y v : Int) : Calls Try.prog 146 #[.agg #[.int .i64 k, .int .i64 y, .int .i64 v]] w fun e w' => e = .returned (srt (k, y, v)) ∧ Below w.heap.size w w' := by
  have HB := Lib.hid ((Below.refl w.heap.size w).alloc (Nat.le_refl _) (.cells #[.int .i64 k, .int .i64 y, .int .i64 v] 159))
  by_cases h1 : k = 1
  · subst h1
    go_enter Try.func146, Try.ntmps146
    go_wp2
    go_ret
    exact ⟨rfl, HB.out⟩
  by_cases h3 : k = 3
  · subst h3
    go_enter Try.func146, Try.ntmps146
    go_wp2
    go_ret
    exact ⟨rfl, HB.out⟩
  by_cases h2 : k = 2
  · subst h2
    go_enter Try.func146, Try.ntmps146
    go_wp2
    go_ret
    exact ⟨rfl, HB.out⟩
  by_cases h4 : k = 4
  · subst h4
    go_enter Try.func146, Try.ntmps146
    go_wp2
    go_ret
    exact ⟨rfl, HB.out⟩
  by_cases h5 : k = 5
  · subst h5
    go_enter Try.func146, Try.ntmps146
    go_wp2
    go_ret
    exact ⟨rfl, HB.out⟩
  by_cases h6 : k = 6
  · subst h6
    go_enter Try.func146, Try.ntmps146
    go_wp2
    go_ret
    exact ⟨rfl, HB.out⟩
  have b1 : (k == 1) = false := beq_eq_false_iff_ne.2 h1
  have b2 : (k == 2) = false := beq_eq_false_iff_ne.2 h2
  have b3 : (k == 3) = false := beq_eq_false_iff_ne.2 h3
  have b4 : (k == 4) = false := beq_eq_false_iff_ne.2 h4
  have b5 : (k == 5) = false := beq_eq_false_iff_ne.2 h5
  have b6 : (k == 6) = false := beq_eq_false_iff_ne.2 h6
  have e : srt (k, y, v) = .nilIface := by
    unfold srt
    rw [if_neg (show ¬ Bare k by unfold Bare; omega), if_neg (show ¬ Cell k by unfold Cell; omega), if_neg h6]
  rw [e]
  clear e
  go_enter Try.func146, Try.ntmps146
  go_wp2
  go_ret
  exact ⟨rfl, HB.out⟩

/-- What a type switch over the sorts asks. -/
@[go_sem] theorem as_bare_bare (v : Value) (w : World) : (Instr.typeAssert (.iface 185 v) 20 185 true).run Try.prog w = .ok (.tuple #[v, .bool true]) w := by kernel_rfl
@[go_sem] theorem as_bare_cell (v : Value) (w : World) : (Instr.typeAssert (.iface 185 v) 20 186 true).run Try.prog w = .ok (.tuple #[.agg #[.int .i64 0, .int .i64 0, .int .i64 0], .bool false]) w := by kernel_rfl
@[go_sem] theorem as_bare_scan (v : Value) (w : World) : (Instr.typeAssert (.iface 185 v) 20 187 true).run Try.prog w = .ok (.tuple #[.agg #[.int .i64 0, .int .i64 0, .int .i64 0], .bool false]) w := by kernel_rfl
@[go_sem] theorem as_cell_bare (v : Value) (w : World) : (Instr.typeAssert (.iface 186 v) 20 185 true).run Try.prog w = .ok (.tuple #[.agg #[.int .i64 0, .int .i64 0, .int .i64 0], .bool false]) w := by kernel_rfl
@[go_sem] theorem as_cell_cell (v : Value) (w : World) : (Instr.typeAssert (.iface 186 v) 20 186 true).run Try.prog w = .ok (.tuple #[v, .bool true]) w := by kernel_rfl
@[go_sem] theorem as_cell_scan (v : Value) (w : World) : (Instr.typeAssert (.iface 186 v) 20 187 true).run Try.prog w = .ok (.tuple #[.agg #[.int .i64 0, .int .i64 0, .int .i64 0], .bool false]) w := by kernel_rfl
@[go_sem] theorem as_scan_bare (v : Value) (w : World) : (Instr.typeAssert (.iface 187 v) 20 185 true).run Try.prog w = .ok (.tuple #[.agg #[.int .i64 0, .int .i64 0, .int .i64 0], .bool false]) w := by kernel_rfl
@[go_sem] theorem as_scan_cell (v : Value) (w : World) : (Instr.typeAssert (.iface 187 v) 20 186 true).run Try.prog w = .ok (.tuple #[.agg #[.int .i64 0, .int .i64 0, .int .i64 0], .bool false]) w := by kernel_rfl
@[go_sem] theorem as_scan_scan (v : Value) (w : World) : (Instr.typeAssert (.iface 187 v) 20 187 true).run Try.prog w = .ok (.tuple #[v, .bool true]) w := by kernel_rfl
@[go_sem] theorem as_nil_bare (w : World) : (Instr.typeAssert .nilIface 20 185 true).run Try.prog w = .ok (.tuple #[.agg #[.int .i64 0, .int .i64 0, .int .i64 0], .bool false]) w := by kernel_rfl
@[go_sem] theorem as_nil_cell (w : World) : (Instr.typeAssert .nilIface 20 186 true).run Try.prog w = .ok (.tuple #[.agg #[.int .i64 0, .int .i64 0, .int .i64 0], .bool false]) w := by kernel_rfl
@[go_sem] theorem as_nil_scan (w : World) : (Instr.typeAssert .nilIface 20 187 true).run Try.prog w = .ok (.tuple #[.agg #[.int .i64 0, .int .i64 0, .int .i64 0], .bool false]) w := by kernel_rfl
theorem srt_bare {x : Bk} (h : Bare x.1) : srt x = .iface 185 (bv x) := by unfold srt; rw [if_pos h]
theorem srt_cell {x : Bk} (h : Cell x.1) : srt x = .iface 186 (bv x) := by
  unfold srt; rw [if_neg (by unfold Bare; unfold Cell at h; omega), if_pos h]
theorem srt_scan {x : Bk} (h : x.1 = 6) : srt x = .iface 187 (bv x) := by
  unfold srt; rw [if_neg (by unfold Bare; omega), if_neg (by unfold Cell; omega), if_pos h]
theorem srt_none {x : Bk} (h1 : ¬ Bare x.1) (h2 : ¬ Cell x.1) (h3 : ¬ x.1 = 6) : srt x = .nilIface := by
  unfold srt; rw [if_neg h1, if_neg h2, if_neg h3]
set_option maxRecDepth 100000 in
set_option maxHeartbeats 800000 in
theorem implOk (w : World) (k y v : Int) : Calls Try.prog 125 #[.agg #[.int .i64 k, .int .i64 y, .int .i64 v]] w fun e w' => e = .returned (.bool (decide (Ok (k, y, v)))) ∧ Below w.heap.size w w' := by
  have HS := Lib.hid (fun u => sortOf u k y v)
  have HC := Lib.hid (fun u => isCell v u)
  obtain ⟨U, e1, hb, hz, X⟩ := box3 w 159 (.int .i64 k) (.int .i64 y) (.int .i64 v)
  obtain ⟨G, eG⟩ : ∃ G, w.heap.size = G := ⟨_, rfl⟩
  have HB := Lib.hid (show Below G w U from eG ▸ hb)
  have HZ := Lib.hid eG
  rw [eG] at X
  obtain ⟨c0, c1, c2, _, _, _⟩ := X
  clear hb hz
  by_cases hy1 : y < 1
  · have e : decide (Ok (k, y, v)) = false := decide_eq_false (fun h => by have := h.1; simp only at this; omega)
    rw [e]
    clear e
    have HBW := Lib.hid (show Below w.heap.size w U from eG ▸ HB.out)
    go_enter Try.func125, Try.ntmps125
    go_wp2_with fail
    go_ret
    exact ⟨rfl, by first | exact HBW.out | exact HB.out⟩
  by_cases hy2 : 9999 < y
  · have e : decide (Ok (k, y, v)) = false := decide_eq_false (fun h => by have := h.2.1; simp only at this; omega)
    rw [e]
    clear e
    have HBW := Lib.hid (show Below w.heap.size w U from eG ▸ HB.out)
    go_enter Try.func125, Try.ntmps125
    go_wp2_with fail
    go_ret
    exact ⟨rfl, by first | exact HBW.out | exact HB.out⟩
  have HBW := Lib.hid (show Below w.heap.size w U from eG ▸ HB.out)
  have HYW := Lib.hid (show 1 ≤ y ∧ y ≤ 9999 from ⟨by omega, by omega⟩)
  by_cases h1 : Bare k
  · have e : decide (Ok (k, y, v)) = (v == 0) := by
      have hd : Ok (k, y, v) ↔ v = 0 := (⟨fun h => by
        rcases h.2.2 with h | h | h
        · exact h.2
        · have h5 := h.1; unfold Cell at h5; unfold Bare at h1; simp only at h5; omega
        · have h5 := h.1; unfold Bare at h1; simp only at h5; omega, fun h => ⟨HYW.out.1, HYW.out.2, .inl ⟨h1, h⟩⟩⟩)
      rw [decide_eq_decide.2 hd]
      by_cases hv : v = 0
      · rw [decide_eq_true hv]; simp [hv]
      · rw [decide_eq_false hv]; simp [hv]
    rw [e]
    simp only [srt_bare (x := (k, y, v)) h1] at HS
    clear e h1
    go_enter Try.func125, Try.ntmps125
    go_wp2_with fail
    refine (HS.out _).mono ?_
    rintro e w1 ⟨rfl, hb⟩
    have HB1 := Lib.hid (HBW.out.trans (hb.mono HBW.out.size))
    simp only [bv]
    clear hb e1 eG
    go_wp2_with fail
    go_ret
    exact ⟨rfl, by first | exact HB1.out | exact HB1.out.alloc (by have := HB1.out.size; omega) _⟩
  by_cases h2 : Cell k
  · have e : decide (Ok (k, y, v)) = decide (0 ≤ v ∧ v ≤ 999999) := by
      rw [decide_eq_decide.2 (show Ok (k, y, v) ↔ 0 ≤ v ∧ v ≤ 999999 from ⟨fun h => by
        rcases h.2.2 with h | h | h
        · exact absurd h.1 h1
        · exact h.2
        · have h5 := h.1; unfold Cell at h2; simp only at h5; omega, fun h => ⟨HYW.out.1, HYW.out.2, .inr (.inl ⟨h2, h⟩)⟩⟩)]
    rw [e]
    simp only [srt_cell (x := (k, y, v)) h2] at HS
    clear e h1 h2
    obtain ⟨q, eq⟩ : ∃ q, decide (0 ≤ v ∧ v ≤ 999999) = q := ⟨_, rfl⟩
    rw [eq] at HC ⊢
    clear eq
    go_enter Try.func125, Try.ntmps125
    go_wp2_with fail
    refine (HS.out _).mono ?_
    rintro e w1 ⟨rfl, hb⟩
    have HB1 := Lib.hid (HBW.out.trans (hb.mono HBW.out.size))
    simp only [bv]
    clear hb e1 eG
    go_wp2_with fail
    refine (HC.out _).mono ?_
    rintro e w2 ⟨rfl, rfl⟩
    go_wp2_with fail
    go_ret
    exact ⟨rfl, by first | exact HB1.out | exact HB1.out.alloc (by have := HB1.out.size; omega) _⟩
  by_cases h3 : k = 6
  · have e : decide (Ok (k, y, v)) = decide (1 ≤ v ∧ v ≤ 4) := by
      rw [decide_eq_decide.2 (show Ok (k, y, v) ↔ 1 ≤ v ∧ v ≤ 4 from ⟨fun h => by
        rcases h.2.2 with h | h | h
        · exact absurd h.1 h1
        · exact absurd h.1 h2
        · exact h.2, fun h => ⟨HYW.out.1, HYW.out.2, .inr (.inr ⟨h3, h⟩)⟩⟩)]
    rw [e]
    simp only [srt_scan (x := (k, y, v)) h3] at HS
    clear e h1 h2 h3
    go_enter Try.func125, Try.ntmps125
    go_wp2_with fail
    refine (HS.out _).mono ?_
    rintro e w1 ⟨rfl, hb⟩
    have HB1 := Lib.hid (HBW.out.trans (hb.mono HBW.out.size))
    simp only [bv]
    clear hb e1 eG
    go_wp2_with fail
    all_goals
      go_ret
      exact ⟨by congr 2; simp; try omega, by first | exact HB1.out | exact HB1.out.alloc (by have := HB1.out.size; omega) _⟩
  have e : decide (Ok (k, y, v)) = false := decide_eq_false (fun h => by
    rcases h.2.2 with h | h | h
    · exact h1 h.1
    · exact h2 h.1
    · exact h3 h.1)
  rw [e]
  simp only [srt_none (x := (k, y, v)) h1 h2 h3] at HS
  clear e h1 h2 h3
  go_enter Try.func125, Try.ntmps125
  go_wp2_with fail
  refine (HS.out _).mono ?_
  rintro e w1 ⟨rfl, hb⟩
  have HB1 := Lib.hid (HBW.out.trans (hb.mono HBW.out.size))
  clear hb e1 eG
  go_wp2_with fail
  go_ret
  exact ⟨rfl, HB1.out⟩

set_option maxRecDepth 100000 in
set_option maxHeartbeats 800000 in
theorem specOk (w : World) (k y v : Int) : Calls Try.prog 118 #[.agg #[.int .i64 k, .int .i64 y, .int .i64 v]] w fun e w' => e = .returned (.bool (decide (Ok (k, y, v)))) ∧ Below w.heap.size w w' := by
  have HL := Lib.hid (fun (z a b : Int) (q : Bool) (hq : decide (a ≤ z ∧ z ≤ b) = q) u => hq ▸ l01In z a b u)
  obtain ⟨U, e1, hb, hz, X⟩ := box3 w 159 (.int .i64 k) (.int .i64 y) (.int .i64 v)
  obtain ⟨G, eG⟩ : ∃ G, w.heap.size = G := ⟨_, rfl⟩
  have HB := Lib.hid (show Below G w U from eG ▸ hb)
  have HBW := Lib.hid hb
  rw [eG] at X
  obtain ⟨c0, c1, c2, _, _, _⟩ := X
  clear hb hz
  by_cases hk : 1 ≤ k ∧ k ≤ 6
  case neg =>
    have e : decide (Ok (k, y, v)) = false := decide_eq_false (fun h => by
      have := h.2.2
      unfold Bare Cell at this
      simp only at this
      omega)
    have HK := Lib.hid (decide_eq_false hk)
    rw [e]
    clear e hk
    go_enter Try.func118, Try.ntmps118
    go_wp2_with fail
    refine (HL.out k 1 6 false HK.out _).mono ?_
    rintro e w1 ⟨rfl, rfl⟩
    go_wp2_with fail
    go_ret
    exact ⟨rfl, by first | exact HBW.out | exact HB.out⟩
  have HK := Lib.hid (decide_eq_true hk)
  by_cases hy : 1 ≤ y ∧ y ≤ 9999
  case neg =>
    have e : decide (Ok (k, y, v)) = false := decide_eq_false (fun h => hy ⟨h.1, h.2.1⟩)
    have HY := Lib.hid (decide_eq_false hy)
    rw [e]
    clear e hk hy
    go_enter Try.func118, Try.ntmps118
    go_wp2_with fail
    refine (HL.out k 1 6 true HK.out _).mono ?_
    rintro e w1 ⟨rfl, rfl⟩
    go_wp2_with fail
    refine (HL.out y 1 9999 false HY.out _).mono ?_
    rintro e w1 ⟨rfl, rfl⟩
    go_wp2_with fail
    go_ret
    exact ⟨rfl, by first | exact HBW.out | exact HB.out⟩
  have HY := Lib.hid (decide_eq_true hy)
  have HYW := Lib.hid hy
  clear hy
  by_cases h1 : Bare k
  · have e : decide (Ok (k, y, v)) = (v == 0) := by
      have hd : Ok (k, y, v) ↔ v = 0 := (⟨fun h => by
        rcases h.2.2 with h | h | h
        · exact h.2
        · have h5 := h.1; unfold Cell at h5; unfold Bare at h1; simp only at h5; omega
        · have h5 := h.1; unfold Bare at h1; simp only at h5; omega, fun h => ⟨HYW.out.1, HYW.out.2, .inl ⟨h1, h⟩⟩⟩)
      rw [decide_eq_decide.2 hd]
      by_cases hv : v = 0
      · rw [decide_eq_true hv]; simp [hv]
      · rw [decide_eq_false hv]; simp [hv]
    rw [e]
    clear e hk
    unfold Bare at h1
    rcases h1 with rfl | rfl
    · go_enter Try.func118, Try.ntmps118
      go_wp2_with fail
      refine (HL.out 1 1 6 true HK.out _).mono ?_
      rintro e w1 ⟨rfl, rfl⟩
      go_wp2_with fail
      refine (HL.out y 1 9999 true HY.out _).mono ?_
      rintro e w1 ⟨rfl, rfl⟩
      go_wp2_with fail
      go_ret
      exact ⟨rfl, by first | exact HBW.out | exact HB.out⟩
    · go_enter Try.func118, Try.ntmps118
      go_wp2_with fail
      refine (HL.out 3 1 6 true HK.out _).mono ?_
      rintro e w1 ⟨rfl, rfl⟩
      go_wp2_with fail
      refine (HL.out y 1 9999 true HY.out _).mono ?_
      rintro e w1 ⟨rfl, rfl⟩
      go_wp2_with fail
      go_ret
      exact ⟨rfl, by first | exact HBW.out | exact HB.out⟩
  have b1 : (k == 1) = false := beq_eq_false_iff_ne.2 (by unfold Bare at h1; omega)
  have b3 : (k == 3) = false := beq_eq_false_iff_ne.2 (by unfold Bare at h1; omega)
  by_cases h3 : k = 6
  · have e : decide (Ok (k, y, v)) = decide (1 ≤ v ∧ v ≤ 4) := by
      have hd : Ok (k, y, v) ↔ 1 ≤ v ∧ v ≤ 4 := (⟨fun h => by
        rcases h.2.2 with h | h | h
        · exact absurd h.1 h1
        · have h5 := h.1; unfold Cell at h5; simp only at h5; omega
        · exact h.2, fun h => ⟨HYW.out.1, HYW.out.2, .inr (.inr ⟨h3, h⟩)⟩⟩)
      rw [decide_eq_decide.2 hd]
    rw [e]
    subst h3
    obtain ⟨q, eq⟩ : ∃ q, decide (1 ≤ v ∧ v ≤ 4) = q := ⟨_, rfl⟩
    rw [eq]
    have HQ := Lib.hid eq
    clear e eq h1 hk b1 b3
    go_enter Try.func118, Try.ntmps118
    go_wp2_with fail
    refine (HL.out 6 1 6 true HK.out _).mono ?_
    rintro e w1 ⟨rfl, rfl⟩
    go_wp2_with fail
    refine (HL.out y 1 9999 true HY.out _).mono ?_
    rintro e w1 ⟨rfl, rfl⟩
    go_wp2_with fail
    refine (HL.out v 1 4 q HQ.out _).mono ?_
    rintro e w1 ⟨rfl, rfl⟩
    go_wp2_with fail
    go_ret
    exact ⟨rfl, by first | exact HBW.out | exact HB.out⟩
  have b6 : (k == 6) = false := beq_eq_false_iff_ne.2 h3
  have h2 : Cell k := by unfold Cell; unfold Bare at h1; omega
  have e : decide (Ok (k, y, v)) = decide (0 ≤ v ∧ v ≤ 999999) := by
    have hd : Ok (k, y, v) ↔ 0 ≤ v ∧ v ≤ 999999 := (⟨fun h => by
      rcases h.2.2 with h | h | h
      · exact absurd h.1 h1
      · exact h.2
      · exact absurd h.1 h3, fun h => ⟨HYW.out.1, HYW.out.2, .inr (.inl ⟨h2, h⟩)⟩⟩)
    rw [decide_eq_decide.2 hd]
  rw [e]
  obtain ⟨q, eq⟩ : ∃ q, decide (0 ≤ v ∧ v ≤ 999999) = q := ⟨_, rfl⟩
  rw [eq]
  have HQ := Lib.hid eq
  clear e eq h1 h2 h3 hk
  go_enter Try.func118, Try.ntmps118
  go_wp2_with fail
  refine (HL.out k 1 6 true HK.out _).mono ?_
  rintro e w1 ⟨rfl, rfl⟩
  go_wp2_with fail
  refine (HL.out y 1 9999 true HY.out _).mono ?_
  rintro e w1 ⟨rfl, rfl⟩
  go_wp2_with fail
  refine (HL.out v 0 999999 q HQ.out _).mono ?_
  rintro e w1 ⟨rfl, rfl⟩
  go_wp2_with fail
  go_ret
  exact ⟨rfl, by first | exact HBW.out | exact HB.out⟩
end Go.Proofs.Ytealdpkgfmokpaa.OpB
