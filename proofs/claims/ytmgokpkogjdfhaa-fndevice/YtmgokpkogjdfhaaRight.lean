/-
  What is proved: both functions that say whether a device is right answer the same plain yes or no; so do those on a sector's number (contracts for the walks).
-/
import Derived.Test.YtmgokpkogjdfhaaRows
import Derived.Test.YtmgokpkogjdfhaaLawI
namespace Go.Proofs.Ytmgokpkogjdfhaa.Right
open Go.ChangeShapes Go.WideShapes Go.ChangeAt Go.RowKit
open Sl (Sl Own Off)
open OpenSl (tc nc pc)
open Dev
open LawI (pc_even pc_odd)
set_option linter.unusedVariables false

/-- A sector's number. -/
def In (z : Int) : Prop := 0 ≤ z ∧ z < 40
instance (z : Int) : Decidable (In z) := by unfold In; infer_instance
/-- A device is right. -/
def Rt (ts : List ByteArray) (xs : List (Int × ByteArray)) : Prop := ts.length = 40 ∧ xs.length ≤ 60 ∧ (∀ j, j < ts.length → (ts.getD j ByteArray.empty).size ≤ 700) ∧ ∀ j, j < xs.length → In (xs.getD j (0, ByteArray.empty)).1 ∧ (xs.getD j (0, ByteArray.empty)).2.size ≤ 700
instance (ts : List ByteArray) (xs : List (Int × ByteArray)) : Decidable (Rt ts xs) := by unfold Rt; infer_instance

theorem isSector (z : Int) (w : World) : Calls Try.prog 74 #[.int .i64 z] w fun e w' => e = .returned (.bool (decide (In z))) ∧ w' = w := by
  by_cases h0 : 0 ≤ z
  · by_cases h1 : z < 40
    · rw [decide_eq_true (show In z from ⟨h0, h1⟩)]
      go_enter Try.func74, Try.ntmps74
      go_wp2
      go_ret
      exact ⟨rfl, rfl⟩
    · rw [decide_eq_false (show ¬ In z from fun h => h1 h.2)]
      go_enter Try.func74, Try.ntmps74
      go_wp2
      go_ret
      exact ⟨rfl, rfl⟩
  · rw [decide_eq_false (show ¬ In z from fun h => h0 h.1)]
    have d : decide (z ≥ 0) = false := decide_eq_false h0
    have d2 : decide (0 ≤ z) = false := decide_eq_false h0
    go_enter Try.func74, Try.ntmps74
    go_wp2
    go_ret
    exact ⟨rfl, rfl⟩
theorem l01In (z a b : Int) (w : World) : Calls Try.prog 54 #[.int .i64 z, .int .i64 a, .int .i64 b] w fun e w' => e = .returned (.bool (decide (a ≤ z ∧ z ≤ b))) ∧ w' = w := by
  by_cases h0 : a ≤ z
  · by_cases h1 : z ≤ b
    · rw [decide_eq_true (show a ≤ z ∧ z ≤ b from ⟨h0, h1⟩)]
      go_enter Try.func54, Try.ntmps54
      go_wp2
      go_ret
      exact ⟨rfl, rfl⟩
    · rw [decide_eq_false (show ¬ (a ≤ z ∧ z ≤ b) from fun h => h1 h.2)]
      go_enter Try.func54, Try.ntmps54
      go_wp2
      go_ret
      exact ⟨rfl, rfl⟩
  · rw [decide_eq_false (show ¬ (a ≤ z ∧ z ≤ b) from fun h => h0 h.1)]
    have d : decide (a ≤ z) = false := decide_eq_false h0
    go_enter Try.func54, Try.ntmps54
    go_wp2
    go_ret
    exact ⟨rfl, rfl⟩
theorem l05In (z : Int) (w : World) : Calls Try.prog 53 #[.int .i64 z] w fun e w' => e = .returned (.bool (decide (In z))) ∧ w' = w := by
  have e : decide (0 ≤ z ∧ z ≤ 39) = decide (In z) := decide_eq_decide.2 (by unfold In; omega)
  go_enter Try.func53, Try.ntmps53
  go_wp2_with fail
  refine (l01In z 0 39 _).mono ?_
  rintro e' w1 ⟨rfl, rfl⟩
  rw [e]
  go_wp2
  go_ret
  exact ⟨rfl, rfl⟩

set_option maxRecDepth 100000 in
set_option maxHeartbeats 800000 in
theorem right (w : World) (v : Value) (ts : List ByteArray) (xs : List (Int × ByteArray)) (h : Dev w v ts xs) :
    Calls Try.prog 48 #[v] w fun e w' => e = .returned (.bool (decide (Rt ts xs))) ∧ Below w.heap.size w w' := by
  obtain ⟨sv, uv, rfl, ⟨a, cap, rfl, h1, h2, h3⟩, ⟨a', cap', rfl, h1', h2', h3'⟩⟩ := h
  have H3 := Lib.hid h3
  have H3' := Lib.hid h3'
  clear h3 h3'
  unfold maxLen at h2 h2'
  have HB := Lib.hid ((Below.refl w.heap.size w).alloc (Nat.le_refl _) (.cells #[.slice a ts.length cap, .slice a' xs.length cap'] 26))
  by_cases n40 : ts.length = 40
  case neg =>
    rw [decide_eq_false (fun h : Rt ts xs => n40 h.1)]
    have d1 : ((ts.length : Int) != 40) = true := bne_iff_ne.2 (by omega)
    go_enter Try.func48, Try.ntmps48
    go_wp2_with fail
    go_ret
    exact ⟨rfl, HB.out⟩
  by_cases m60 : 60 < xs.length
  · rw [decide_eq_false (fun h : Rt ts xs => by have := h.2.1; omega)]
    have d1 : ((ts.length : Int) != 40) = false := by rw [n40]; rfl
    clear n40
    go_enter Try.func48, Try.ntmps48
    go_wp2_with fail
    go_ret
    exact ⟨rfl, HB.out⟩
  obtain ⟨q, eq⟩ : ∃ q : Bool, decide (Rt ts xs) = q := ⟨_, rfl⟩
  have HQ := Lib.hid (show (∃ j, j < ts.length ∧ 700 < (ts.getD j ByteArray.empty).size) → q = false from fun ⟨j, hj, h7⟩ => by
    rw [← eq]; exact decide_eq_false fun h => by have := h.2.2.1 j hj; omega)
  have HQ2 := Lib.hid (show (∃ j, j < xs.length ∧ (¬ In (xs.getD j (0, ByteArray.empty)).1 ∨ 700 < (xs.getD j (0, ByteArray.empty)).2.size)) → q = false from fun ⟨j, hj, h7⟩ => by
    rw [← eq]; exact decide_eq_false fun h => by obtain ⟨g1, g2⟩ := h.2.2.2 j hj; rcases h7 with h7 | h7; exact h7 g1; omega)
  have HQ3 := Lib.hid (show (∀ j, j < ts.length → (ts.getD j ByteArray.empty).size ≤ 700) → (∀ j, j < xs.length → In (xs.getD j (0, ByteArray.empty)).1 ∧ (xs.getD j (0, ByteArray.empty)).2.size ≤ 700) → q = true from fun g1 g2 => by
    rw [← eq]; exact decide_eq_true ⟨n40, by omega, g1, g2⟩)
  rw [eq]
  clear eq
  have d1 : ((ts.length : Int) != 40) = false := by rw [n40]; rfl
  have d2 : decide (60 < (xs.length : Int)) = false := decide_eq_false (by omega)
  generalize ts.length = n at *
  generalize xs.length = m at *
  have HN := Lib.hid n40
  clear n40
  go_enter Try.func48, Try.ntmps48
  go_wp2
  clear d1 d2
  have hcu : (w.alloc (.cells #[.slice a n cap, .slice a' m cap'] 26)).cell? ⟨w.heap.size, 1, none⟩ = some (.slice a' m cap') := by go_simp
  generalize w.alloc _ = W at *
  go_loopw [20] (fun i wr => ∃ k : Nat, k ≤ n ∧ i = .int .i64 k ∧ W = wr ∧ Hid (∀ j, j < k → (ts.getD j ByteArray.empty).size ≤ 700)) (fun i _ => n - (intOf i).toNat)
  case atStart => exact ⟨0, by omega, rfl, rfl, fun j hj => by omega⟩
  case round =>
    obtain ⟨k, hk, rfl, rfl, HJ⟩ := hrel
    by_cases hkn : k < n
    · obtain ⟨b, o, rfl, hc⟩ := H3.out (by omega)
      have c0 := hc k (by omega)
      rw [← HB.out.cell (World.block_lt_of_cell? w _ c0)] at c0
      unfold tc at c0
      have HJ1 := Lib.hid (show ∀ s, ts.getD k ByteArray.empty = s → 700 < s.size → q = false from fun s e hs => HQ.out ⟨k, hkn, by rw [e]; exact hs⟩)
      have HJ2 := Lib.hid (show ∀ s, ts.getD k ByteArray.empty = s → s.size ≤ 700 → ∀ j, j < k + 1 → (ts.getD j ByteArray.empty).size ≤ 700 from fun s e hs j hj => by
        by_cases ej : j = k
        · rw [ej, e]; exact hs
        · exact HJ.out j (by omega))
      clear hc
      generalize ts.getD k ByteArray.empty = s at *
      by_cases hb : 700 < s.size
      · obtain rfl : q = false := HJ1.out s rfl hb
        go_wp2
        go_ret
        exact ⟨rfl, HB.out⟩
      · go_wp2
        go_roundw
        case rel => exact ⟨k + 1, by omega, by go_num, by trivial, Lib.hid (HJ2.out s rfl (by omega))⟩
        case measure => simp [intOf]; omega
    · have HK := Lib.hid (show ∀ j, j < n → (ts.getD j ByteArray.empty).size ≤ 700 from fun j hj => HJ.out j (by omega))
      clear HJ HQ H3
      go_wp2
      go_loopw [31] (fun i wr => ∃ k : Nat, k ≤ m ∧ i = .int .i64 k ∧ Hid (Below W.heap.size W wr ∧ ∀ j, j < k → In (xs.getD j (0, ByteArray.empty)).1 ∧ (xs.getD j (0, ByteArray.empty)).2.size ≤ 700)) (fun i _ => m - (intOf i).toNat)
      case atStart => exact ⟨0, by omega, rfl, Lib.hid ⟨Below.refl _ _, fun j hj => by omega⟩⟩
      case round =>
        rename_i wr
        obtain ⟨k2, hk2, rfl, HJ⟩ := hrel
        by_cases hkn : k2 < m
        · obtain ⟨b, o, rfl, hc⟩ := H3'.out (by omega)
          have c0 := hc (k2 * 2) (by omega)
          have c1 := hc (k2 * 2 + 1) (by omega)
          have hlt := World.block_lt_of_cell? w _ c0
          have hlt2 := World.block_lt_of_cell? w _ c1
          rw [← HB.out.cell hlt, ← HJ.out.1.cell (Nat.lt_of_lt_of_le hlt HB.out.size), pc_even] at c0
          rw [← HB.out.cell hlt2, ← HJ.out.1.cell (Nat.lt_of_lt_of_le hlt2 HB.out.size), pc_odd, ← Nat.add_assoc] at c1
          have HJ1 := Lib.hid (show ∀ y, xs.getD k2 (0, ByteArray.empty) = y → (¬ In y.1 ∨ 700 < y.2.size) → q = false from fun s e hs => HQ2.out ⟨k2, hkn, by rw [e]; exact hs⟩)
          have HJ2 := Lib.hid (show ∀ y, xs.getD k2 (0, ByteArray.empty) = y → In y.1 ∧ y.2.size ≤ 700 → ∀ j, j < k2 + 1 → In (xs.getD j (0, ByteArray.empty)).1 ∧ (xs.getD j (0, ByteArray.empty)).2.size ≤ 700 from fun s e hs j hj => by
            by_cases ej : j = k2
            · rw [ej, e]; exact hs
            · exact HJ.out.2 j (by omega))
          clear hc hlt hlt2
          generalize xs.getD k2 (0, ByteArray.empty) = y at *
          obtain ⟨z, s⟩ := y
          simp only at c0 c1
          have HB4 := Lib.hid (HJ.out.1.alloc HJ.out.1.size (.cells #[.int .i64 z, .string s] 64))
          go_wp2_with fail
          refine (isSector z _).mono ?_
          rintro e w1 ⟨rfl, rfl⟩
          by_cases hin : In z
          · rw [decide_eq_true hin]
            by_cases hb : 700 < s.size
            · obtain rfl : q = false := HJ1.out (z, s) rfl (.inr hb)
              go_wp2_with fail
              go_ret
              exact ⟨rfl, HB.out.trans (HB4.out.mono HB.out.size)⟩
            · go_wp2
              go_roundw
              case rel => exact ⟨k2 + 1, by omega, by go_num, Lib.hid ⟨HB4.out, HJ2.out (z, s) rfl ⟨hin, show s.size ≤ 700 by omega⟩⟩⟩
              case measure => simp [intOf]; omega
          · rw [decide_eq_false hin]
            obtain rfl : q = false := HJ1.out (z, s) rfl (.inl hin)
            go_wp2_with fail
            go_ret
            exact ⟨rfl, HB.out.trans (HB4.out.mono HB.out.size)⟩
        · have HK2 := Lib.hid (show ∀ j, j < m → In (xs.getD j (0, ByteArray.empty)).1 ∧ (xs.getD j (0, ByteArray.empty)).2.size ≤ 700 from fun j hj => HJ.out.2 j (by omega))
          obtain rfl : q = true := HQ3.out HK.out HK2.out
          go_wp2
          go_ret
          exact ⟨rfl, HB.out.trans (HJ.out.1.mono HB.out.size)⟩
set_option maxRecDepth 100000 in
set_option maxHeartbeats 800000 in
theorem deviceOK (w : World) (v : Value) (ts : List ByteArray) (xs : List (Int × ByteArray)) (h : Dev w v ts xs) :
    Calls Try.prog 34 #[v] w fun e w' => e = .returned (.bool (decide (Rt ts xs))) ∧ Below w.heap.size w w' := by
  obtain ⟨sv, uv, rfl, ⟨a, cap, rfl, h1, h2, h3⟩, ⟨a', cap', rfl, h1', h2', h3'⟩⟩ := h
  have H3 := Lib.hid h3
  have H3' := Lib.hid h3'
  clear h3 h3'
  unfold maxLen at h2 h2'
  have HB := Lib.hid ((Below.refl w.heap.size w).alloc (Nat.le_refl _) (.cells #[.slice a ts.length cap, .slice a' xs.length cap'] 26))
  by_cases n40 : ts.length = 40
  case neg =>
    rw [decide_eq_false (fun h : Rt ts xs => n40 h.1)]
    have d1 : ((ts.length : Int) != 40) = true := bne_iff_ne.2 (by omega)
    go_enter Try.func34, Try.ntmps34
    go_wp2_with fail
    go_ret
    exact ⟨rfl, HB.out⟩
  by_cases m60 : 60 < xs.length
  · rw [decide_eq_false (fun h : Rt ts xs => by have := h.2.1; omega)]
    have d1 : ((ts.length : Int) != 40) = false := by rw [n40]; rfl
    clear n40
    go_enter Try.func34, Try.ntmps34
    go_wp2_with fail
    go_ret
    exact ⟨rfl, HB.out⟩
  obtain ⟨q, eq⟩ : ∃ q : Bool, decide (Rt ts xs) = q := ⟨_, rfl⟩
  have HQ := Lib.hid (show (∃ j, j < ts.length ∧ 700 < (ts.getD j ByteArray.empty).size) → q = false from fun ⟨j, hj, h7⟩ => by
    rw [← eq]; exact decide_eq_false fun h => by have := h.2.2.1 j hj; omega)
  have HQ2 := Lib.hid (show (∃ j, j < xs.length ∧ (¬ In (xs.getD j (0, ByteArray.empty)).1 ∨ 700 < (xs.getD j (0, ByteArray.empty)).2.size)) → q = false from fun ⟨j, hj, h7⟩ => by
    rw [← eq]; exact decide_eq_false fun h => by obtain ⟨g1, g2⟩ := h.2.2.2 j hj; rcases h7 with h7 | h7; exact h7 g1; omega)
  have HQ3 := Lib.hid (show (∀ j, j < ts.length → (ts.getD j ByteArray.empty).size ≤ 700) → (∀ j, j < xs.length → In (xs.getD j (0, ByteArray.empty)).1 ∧ (xs.getD j (0, ByteArray.empty)).2.size ≤ 700) → q = true from fun g1 g2 => by
    rw [← eq]; exact decide_eq_true ⟨n40, by omega, g1, g2⟩)
  rw [eq]
  clear eq
  have d1 : ((ts.length : Int) != 40) = false := by rw [n40]; rfl
  have d2 : decide (60 < (xs.length : Int)) = false := decide_eq_false (by omega)
  generalize ts.length = n at *
  generalize xs.length = m at *
  have HN := Lib.hid n40
  clear n40
  go_enter Try.func34, Try.ntmps34
  go_wp2
  clear d1 d2
  have hcs : (w.alloc (.cells #[.slice a n cap, .slice a' m cap'] 26)).cell? ⟨w.heap.size, 0, none⟩ = some (.slice a n cap) := by go_simp
  have hcu : (w.alloc (.cells #[.slice a n cap, .slice a' m cap'] 26)).cell? ⟨w.heap.size, 1, none⟩ = some (.slice a' m cap') := by go_simp
  generalize w.alloc _ = W at *
  go_loopw [3] (fun i wr => ∃ k : Nat, k ≤ n ∧ i = .int .i64 k ∧ W = wr ∧ Hid (∀ j, j < k → (ts.getD j ByteArray.empty).size ≤ 700)) (fun i _ => n - (intOf i).toNat)
  case atStart => exact ⟨0, by omega, rfl, rfl, fun j hj => by omega⟩
  case round =>
    obtain ⟨k, hk, rfl, rfl, HJ⟩ := hrel
    by_cases hkn : k < n
    · obtain ⟨b, o, rfl, hc⟩ := H3.out (by omega)
      have c0 := hc k (by omega)
      rw [← HB.out.cell (World.block_lt_of_cell? w _ c0)] at c0
      unfold tc at c0
      have HJ1 := Lib.hid (show ∀ s, ts.getD k ByteArray.empty = s → 700 < s.size → q = false from fun s e hs => HQ.out ⟨k, hkn, by rw [e]; exact hs⟩)
      have HJ2 := Lib.hid (show ∀ s, ts.getD k ByteArray.empty = s → s.size ≤ 700 → ∀ j, j < k + 1 → (ts.getD j ByteArray.empty).size ≤ 700 from fun s e hs j hj => by
        by_cases ej : j = k
        · rw [ej, e]; exact hs
        · exact HJ.out j (by omega))
      clear hc
      generalize ts.getD k ByteArray.empty = s at *
      by_cases hb : 700 < s.size
      · obtain rfl : q = false := HJ1.out s rfl hb
        go_wp2
        go_ret
        exact ⟨rfl, HB.out⟩
      · go_wp2
        go_roundw
        case rel => exact ⟨k + 1, by omega, by go_num, by trivial, Lib.hid (HJ2.out s rfl (by omega))⟩
        case measure => simp [intOf]; omega
    · have HK := Lib.hid (show ∀ j, j < n → (ts.getD j ByteArray.empty).size ≤ 700 from fun j hj => HJ.out j (by omega))
      clear HJ HQ H3
      go_wp2
      go_loopw [4] (fun i wr => ∃ k : Nat, k ≤ m ∧ i = .int .i64 k ∧ W = wr ∧ Hid ( ∀ j, j < k → In (xs.getD j (0, ByteArray.empty)).1 ∧ (xs.getD j (0, ByteArray.empty)).2.size ≤ 700)) (fun i _ => m - (intOf i).toNat)
      case atStart => exact ⟨0, by omega, rfl, rfl, fun j hj => by omega⟩
      case round =>
        obtain ⟨k2, hk2, rfl, rfl, HJ⟩ := hrel
        by_cases hkn : k2 < m
        · obtain ⟨b, o, rfl, hc⟩ := H3'.out (by omega)
          have c0 := hc (k2 * 2) (by omega)
          have c1 := hc (k2 * 2 + 1) (by omega)
          have hlt := World.block_lt_of_cell? w _ c0
          have hlt2 := World.block_lt_of_cell? w _ c1
          rw [← HB.out.cell hlt, pc_even] at c0
          rw [← HB.out.cell hlt2, pc_odd, ← Nat.add_assoc] at c1
          have HJ1 := Lib.hid (show ∀ y, xs.getD k2 (0, ByteArray.empty) = y → (¬ In y.1 ∨ 700 < y.2.size) → q = false from fun s e hs => HQ2.out ⟨k2, hkn, by rw [e]; exact hs⟩)
          have HJ2 := Lib.hid (show ∀ y, xs.getD k2 (0, ByteArray.empty) = y → In y.1 ∧ y.2.size ≤ 700 → ∀ j, j < k2 + 1 → In (xs.getD j (0, ByteArray.empty)).1 ∧ (xs.getD j (0, ByteArray.empty)).2.size ≤ 700 from fun s e hs j hj => by
            by_cases ej : j = k2
            · rw [ej, e]; exact hs
            · exact HJ.out j (by omega))
          clear hc hlt hlt2
          generalize xs.getD k2 (0, ByteArray.empty) = y at *
          obtain ⟨z, s⟩ := y
          simp only at c0 c1
          go_wp2_with fail
          refine (l05In z _).mono ?_
          rintro e w1 ⟨rfl, rfl⟩
          by_cases hin : In z
          · rw [decide_eq_true hin]
            by_cases hb : 700 < s.size
            · obtain rfl : q = false := HJ1.out (z, s) rfl (.inr hb)
              go_wp2_with fail
              go_ret
              exact ⟨rfl, HB.out⟩
            · go_wp2
              go_roundw
              case rel => exact ⟨k2 + 1, by omega, by go_num, by trivial, Lib.hid (HJ2.out (z, s) rfl ⟨hin, show s.size ≤ 700 by omega⟩)⟩
              case measure => simp [intOf]; omega
          · rw [decide_eq_false hin]
            obtain rfl : q = false := HJ1.out (z, s) rfl (.inl hin)
            go_wp2_with fail
            go_ret
            exact ⟨rfl, HB.out⟩
        · have HK2 := Lib.hid (show ∀ j, j < m → In (xs.getD j (0, ByteArray.empty)).1 ∧ (xs.getD j (0, ByteArray.empty)).2.size ≤ 700 from fun j hj => HJ.out j (by omega))
          obtain rfl : q = true := HQ3.out HK.out HK2.out
          go_wp2
          go_ret
          exact ⟨rfl, HB.out⟩

set_option maxRecDepth 100000 in
theorem implOK (w : World) (v : Value) (ts : List ByteArray) (xs : List (Int × ByteArray)) (h : Dev w v ts xs) :
    Calls Try.prog 24 #[v] w fun e w' => e = .returned (.bool (decide (Rt ts xs))) ∧ Below w.heap.size w w' := by
  have HD := Lib.hid h
  obtain ⟨sv, uv, rfl, _, _⟩ := h
  have HB := Lib.hid ((Below.refl w.heap.size w).alloc (Nat.le_refl _) (.cells #[sv, uv] 26))
  go_enter Try.func24, Try.ntmps24
  go_wp2_with fail
  refine (right _ _ ts xs (HD.out.below HB.out)).mono ?_
  rintro e w1 ⟨rfl, hb⟩
  have HB2 := Lib.hid (HB.out.trans (hb.mono HB.out.size))
  clear hb
  obtain ⟨q, eq⟩ : ∃ q, decide (Rt ts xs) = q := ⟨_, rfl⟩
  have EQ := Lib.hid eq
  rw [eq]
  clear eq
  go_wp2_with fail
  go_ret
  exact ⟨by rw [EQ.out]; rfl, HB2.out⟩
/-- What ails a device and a sector's number. -/
def fault (ts : List ByteArray) (xs : List (Int × ByteArray)) (z : Int) : Int := if Rt ts xs then (if In z then 0 else 4) else 1
set_option maxRecDepth 100000 in
theorem sectorFault (w : World) (v : Value) (ts : List ByteArray) (xs : List (Int × ByteArray)) (h : Dev w v ts xs) (z : Int) :
    Calls Try.prog 46 #[v, .int .i64 z] w fun e w' => e = .returned (.int .i64 (fault ts xs z)) ∧ Below w.heap.size w w' := by
  have HD := Lib.hid h
  obtain ⟨sv, uv, rfl, _, _⟩ := h
  have HB := Lib.hid ((Below.refl w.heap.size w).alloc (Nat.le_refl _) (.cells #[sv, uv] 26))
  go_enter Try.func46, Try.ntmps46
  go_wp2_with fail
  refine (right _ _ ts xs (HD.out.below HB.out)).mono ?_
  rintro e w1 ⟨rfl, hb⟩
  have HB2 := Lib.hid (HB.out.trans (hb.mono HB.out.size))
  clear hb
  by_cases hr : Rt ts xs
  · rw [decide_eq_true hr]
    have HR := Lib.hid hr
    go_wp2_with fail
    refine (isSector z _).mono ?_
    rintro e w2 ⟨rfl, rfl⟩
    by_cases hi : In z
    · rw [decide_eq_true hi]
      go_wp2_with fail
      go_ret
      refine ⟨?_, HB2.out⟩
      unfold fault
      rw [if_pos HR.out, if_pos hi]
      rfl
    · rw [decide_eq_false hi]
      go_wp2_with fail
      go_ret
      refine ⟨?_, HB2.out⟩
      unfold fault
      rw [if_pos HR.out, if_neg hi]
      rfl
  · rw [decide_eq_false hr]
    have HR := Lib.hid hr
    go_wp2_with fail
    go_ret
    refine ⟨?_, HB2.out⟩
    unfold fault
    rw [if_neg HR.out]
    rfl
end Go.Proofs.Ytmgokpkogjdfhaa.Right
