/-
  What is proved: the laws' functions on slices of writes: their size counted, copied, compared (contracts for the walks).
-/
import Derived.Test.YtmgokpkogjdfhaaRows
import Derived.Test.YtmgokpkogjdfhaaLawS
namespace Go.Proofs.Ytmgokpkogjdfhaa.LawI
open Go.ChangeShapes Go.WideShapes Go.ChangeAt Go.RowKit
open Sl (Sl Own Off)
open OpenSl (tc nc pc)
open Dev
set_option linter.unusedVariables false

theorem pc_even (xs : List (Int × ByteArray)) (k : Nat) : pc xs (k * 2) = .int .i64 (xs.getD k (0, ByteArray.empty)).1 := by
  unfold pc; rw [if_pos (by omega), show k * 2 / 2 = k by omega]
theorem pc_odd (xs : List (Int × ByteArray)) (k : Nat) : pc xs (k * 2 + 1) = .string (xs.getD k (0, ByteArray.empty)).2 := by
  unfold pc; rw [if_neg (by omega), show (k * 2 + 1) / 2 = k by omega]
theorem memx {xs : List (Int × ByteArray)} {k : Nat} (h : k < xs.length) : xs.getD k (0, ByteArray.empty) ∈ xs := by
  rw [List.getD_eq_getElem?_getD, List.getElem?_eq_getElem h]; exact List.getElem_mem h
theorem sizex {xs : List (Int × ByteArray)} {m : Nat} (h : ∀ y ∈ xs, y.2.size ≤ m) (k : Nat) : (xs.getD k (0, ByteArray.empty)).2.size ≤ m := by
  by_cases hk : k < xs.length
  · exact h _ (memx hk)
  · rw [List.getD_eq_getElem?_getD, List.getElem?_eq_none (by omega)]; exact Nat.zero_le _

theorem szIo (z : Int) (s : ByteArray) (w : World) (L : Nat) (hL : L ≤ 1048576) (hs : s.size ≤ maxLen) :
    Calls Try.prog 81 #[.agg #[.int .i64 z, .string s], .int .i64 L] w fun e w' => e = .returned (.int .i64 (if L < s.size then -1 else (L : Int) - (s.size : Int))) ∧ Below w.heap.size w w' := by
  unfold maxLen at hs
  by_cases h : L < s.size
  · rw [if_pos h]
    go_enter Try.func81, Try.ntmps81
    go_wp2
    go_ret
    exact ⟨rfl, (Below.refl _ _).alloc (Nat.le_refl _) _⟩
  · rw [if_neg h]
    go_enter Try.func81, Try.ntmps81
    go_wp2
    go_ret
    exact ⟨rfl, (Below.refl _ _).alloc (Nat.le_refl _) _⟩
theorem eqIo (z : Int) (s : ByteArray) (w : World) :
    Calls Try.prog 79 #[.agg #[.int .i64 z, .string s], .agg #[.int .i64 z, .string s]] w fun e w' => e = .returned (.bool true) ∧ Below w.heap.size w w' := by
  go_enter Try.func79, Try.ntmps79
  go_wp2
  go_ret
  exact ⟨rfl, ((Below.refl _ _).alloc (Nat.le_refl _) _).alloc (by simp) _⟩
theorem toIo (z : Int) (s : ByteArray) (w : World) :
    Calls Try.prog 82 #[.agg #[.int .i64 z, .string s]] w fun e w' => e = .returned (.agg #[.int .i64 z, .string s]) ∧ Below w.heap.size w w' := by
  go_enter Try.func82, Try.ntmps82
  go_wp2
  refine bodyPost_ret (v := .agg #[.int .i64 z, .string s]) (by simp [results, Try.results82, go_sem]) rfl ⟨rfl, ?_⟩
  repeat (first | exact Below.refl _ _ | refine Below.alloc ?_ (by simp; try omega) _ | refine Below.setCell ?_ (by simp; try omega) _)

set_option maxRecDepth 100000 in
set_option maxHeartbeats 800000 in
theorem eqIoS (w : World) (u v : Value) (xs : List (Int × ByteArray)) (hu : Sl w 2 u xs.length (pc xs)) (hv : Sl w 2 v xs.length (pc xs)) :
    Calls Try.prog 60 #[u, v] w fun e w' => e = .returned (.bool true) ∧ Below w.heap.size w w' := by
  obtain ⟨a, cap, rfl, h1, h2, h3⟩ := hu
  obtain ⟨a', cap', rfl, h1', h2', h3'⟩ := hv
  have H3 := Lib.hid h3
  have H3' := Lib.hid h3'
  clear h3 h3'
  unfold maxLen at h2 h2'
  generalize xs.length = n at *
  go_enter Try.func60, Try.ntmps60
  go_wp2
  go_loopw [5] (fun i wr => ∃ k : Nat, k ≤ n ∧ i = .int .i64 k ∧ Hid (Below w.heap.size w wr)) (fun i _ => n - (intOf i).toNat)
  case atStart => exact ⟨0, by omega, rfl, Lib.hid (Below.refl _ _)⟩
  case round =>
    rename_i wr
    obtain ⟨k, hk, rfl, HB⟩ := hrel
    by_cases hlt : k < n
    · obtain ⟨b, o, rfl, hc⟩ := H3.out (by omega)
      obtain ⟨b', o', rfl, hc'⟩ := H3'.out (by omega)
      have c0 := hc (k * 2) (by omega)
      have c1 := hc (k * 2 + 1) (by omega)
      have d0 := hc' (k * 2) (by omega)
      have d1 := hc' (k * 2 + 1) (by omega)
      rw [← HB.out.cell (World.block_lt_of_cell? w _ c0)] at c0
      rw [← HB.out.cell (World.block_lt_of_cell? w _ c1)] at c1
      rw [← HB.out.cell (World.block_lt_of_cell? w _ d0)] at d0
      rw [← HB.out.cell (World.block_lt_of_cell? w _ d1)] at d1
      rw [pc_even] at c0 d0
      rw [pc_odd] at c1 d1
      clear hc hc'
      generalize xs.getD k _ = y at *
      obtain ⟨z, s⟩ := y
      simp only at c0 c1 d0 d1
      rw [← Nat.add_assoc] at c1 d1
      have i1 : (k : Int) < (n : Int) := by omega
      have i3 : (0 : Int) ≤ (k : Int) := by omega
      go_wp2
      go_region_with ((go_at_call 79; refine (eqIo z s _).mono ?_; rintro e u1 ⟨rfl, hb⟩))
      all_goals
        have HB2 := Lib.hid ((below_drewN HB.out _).trans (hb.mono HB.out.size))
        clear hb
        go_wp2
        go_roundw
        case rel => exact ⟨k + 1, by omega, by go_num, HB2⟩
        case measure => simp [intOf]; omega
    · go_wp2
      go_ret
      exact ⟨rfl, HB.out⟩

set_option maxRecDepth 100000 in
set_option maxHeartbeats 800000 in
theorem szIoS (w : World) (v : Value) (xs : List (Int × ByteArray)) (h : Sl w 2 v xs.length (pc xs)) (hs : ∀ y ∈ xs, y.2.size ≤ maxLen) (L : Nat) (hL : L ≤ 1048576) :
    Calls Try.prog 66 #[v, .int .i64 L] w fun e w' => (∃ r : Int, e = .returned (.int .i64 r) ∧ (r = -1 ∨ ∃ R : Nat, r = R ∧ R ≤ L ∧ xs.length ≤ L ∧ ∀ y ∈ xs, y.2.size ≤ L)) ∧ Below w.heap.size w w' := by
  obtain ⟨a, cap, rfl, h1, h2, h3⟩ := h
  have HS := Lib.hid (sizex hs)
  have H3 := Lib.hid h3
  clear hs h3
  unfold maxLen at h2
  by_cases hlt : L < xs.length
  · go_enter Try.func66, Try.ntmps66
    go_wp2
    go_ret
    exact ⟨⟨_, rfl, .inl rfl⟩, Below.refl _ _⟩
  · generalize en : xs.length = n at *
    have EN := Lib.hid en
    clear en
    obtain ⟨R0, eR⟩ : ∃ R0, L - n = R0 := ⟨_, rfl⟩
    have e1 : (L : Int) - (n : Int) = (R0 : Int) := by omega
    have e2 : R0 ≤ L := by omega
    go_enter Try.func66, Try.ntmps66
    go_wp2
    clear e1
    go_loopw [1, 5] (fun l i wr => ∃ k R : Nat, k ≤ n ∧ R ≤ L ∧ l = .int .i64 R ∧ i = .int .i64 k ∧ Hid (Below w.heap.size w wr ∧ ∀ j, j < k → (xs.getD j (0, ByteArray.empty)).2.size ≤ L)) (fun l i _ => n - (intOf i).toNat)
    case atStart => exact ⟨0, R0, by omega, e2, rfl, rfl, ⟨Below.refl _ _, fun j hj => by omega⟩⟩
    case round =>
      rename_i wr
      obtain ⟨k, R, hk, hR, rfl, rfl, HJ⟩ := hrel
      by_cases hkn : k < n
      · obtain ⟨b, o, rfl, hc⟩ := H3.out (by omega)
        have c0 := hc (k * 2) (by omega)
        have c1 := hc (k * 2 + 1) (by omega)
        rw [← HJ.out.1.cell (World.block_lt_of_cell? w _ c0), pc_even] at c0
        rw [← HJ.out.1.cell (World.block_lt_of_cell? w _ c1), pc_odd, ← Nat.add_assoc] at c1
        have hsz := HS.out k
        have HJ2 := Lib.hid (show ∀ s, xs.getD k (0, ByteArray.empty) = s → s.2.size ≤ L → ∀ j, j < k + 1 → (xs.getD j (0, ByteArray.empty)).2.size ≤ L from fun s e hs j hj => by
          by_cases ej : j = k
          · rw [ej, e]; exact hs
          · exact HJ.out.2 j (by omega))
        clear hc HS
        generalize xs.getD k (0, ByteArray.empty) = y at *
        obtain ⟨z, s⟩ := y
        simp only at c0 c1 hsz
        have HSZ := Lib.hid hsz
        go_wp2_with fail
        refine (szIo z s wr R (by omega) HSZ.out).mono ?_
        rintro e w1 ⟨rfl, hb⟩
        have HB2 := Lib.hid (HJ.out.1.trans (hb.mono HJ.out.1.size))
        clear hb c0 c1 hsz
        by_cases hb : R < s.size
        · rw [if_pos hb]
          go_wp2
          go_ret
          exact ⟨⟨_, rfl, .inl rfl⟩, HB2.out⟩
        · rw [if_neg hb]
          obtain ⟨R', eR'⟩ : ∃ R', R - s.size = R' := ⟨_, rfl⟩
          have e3 : (R : Int) - (s.size : Int) = (R' : Int) := by omega
          have e4 : R' ≤ L := by omega
          rw [e3]
          clear e3
          go_wp2
          go_roundw
          case rel => exact ⟨k + 1, R', by omega, e4, by go_num, by go_num, Lib.hid ⟨HB2.out, HJ2.out (z, s) rfl (show s.size ≤ L by omega)⟩⟩
          case measure => simp [intOf]; omega
      · have hkn2 := Lib.hid (show k = n by omega)
        go_wp2
        go_ret
        refine ⟨⟨_, rfl, .inr ⟨R, rfl, hR, by omega, fun s hm => ?_⟩⟩, HJ.out.1⟩
        obtain ⟨j, hj, rfl⟩ := List.getElem_of_mem hm
        have := HJ.out.2 j (by rw [hkn2.out, ← EN.out]; exact hj)
        rwa [List.getD_eq_getElem?_getD, List.getElem?_eq_getElem hj] at this

theorem info64 : (Try.prog.info? 64).map (fun i => (i.zero, i.size, i.bytes)) = some (some (.agg #[.int .i64 0, .string ByteArray.empty]), 2, 24) := by kernel_rfl
/-- The cells of n writes of nothing at 0. -/
def zc (j : Nat) : Value := if j % 2 = 0 then .int .i64 0 else .string ByteArray.empty
theorem made_two (n : Nat) : ∀ j, j < n * 2 → (madeCells (Value.agg #[.int .i64 0, .string ByteArray.empty]).cells (n * 2))[j]? = some (zc j) := by
  intro j hj
  show ((Array.range (n * 2)).map _)[j]? = _
  rw [Array.getElem?_map, Array.getElem?_range, if_pos hj]
  show some ((#[Value.int .i64 0, Value.string ByteArray.empty] : Array Value)[j % 2]!) = _
  unfold zc
  have h : j % 2 = 0 ∨ j % 2 = 1 := by omega
  rcases h with h | h <;> rw [h] <;> rfl

set_option maxRecDepth 100000 in
set_option maxHeartbeats 800000 in
theorem toIoS (w : World) (v : Value) (xs : List (Int × ByteArray)) (h : Sl w 2 v xs.length (pc xs)) (hn : xs.length ≤ 1048576) :
    Calls Try.prog 68 #[v] w fun e w' => ∃ r, e = .returned r ∧ Own w' w.heap.size 2 r xs.length (pc xs) ∧ Below w.heap.size w w' := by
  obtain ⟨a, cap, rfl, h1, h2, h3⟩ := h
  have H3 := Lib.hid h3
  clear h3
  unfold maxLen at h2
  generalize xs.length = n at *
  obtain ⟨g, o, w1, hmk, hown, hbel⟩ := made (P := Try.prog) w 24 64 2 (.agg #[.int .i64 0, .string ByteArray.empty]) 24 Try.underlying24 info64 n (by omega) (by unfold maxLen; omega) zc (made_two n)
  have HO := Lib.hid hown
  have HB := Lib.hid hbel
  clear hown hbel
  go_enter Try.func68, Try.ntmps68
  go_wp2
  go_loopw [4] (fun i wr => ∃ k : Nat, k ≤ n ∧ i = .int .i64 k ∧ Hid (Own wr w.heap.size 2 (.slice (some ⟨g, o, none⟩) n n) n (fun j => if j < k * 2 then pc xs j else zc j) ∧ Below w.heap.size w wr)) (fun i _ => n - (intOf i).toNat)
  case atStart => exact ⟨0, by omega, rfl, Lib.hid ⟨HO.out.congr (fun j _ => by rw [if_neg (by omega)]), HB.out⟩⟩
  case round =>
    rename_i wr
    obtain ⟨k, hk, rfl, HX⟩ := hrel
    by_cases hlt : k < n
    · obtain ⟨b, o2, rfl, hc⟩ := H3.out (by omega)
      have c0 := hc (k * 2) (by omega)
      have c1 := hc (k * 2 + 1) (by omega)
      rw [← HX.out.2.cell (World.block_lt_of_cell? w _ c0), pc_even] at c0
      rw [← HX.out.2.cell (World.block_lt_of_cell? w _ c1), pc_odd, ← Nat.add_assoc] at c1
      have HT0 := Lib.hid (pc_even xs k)
      have HT1 := Lib.hid (pc_odd xs k)
      clear hc
      generalize xs.getD k (0, ByteArray.empty) = y at *
      obtain ⟨z, s⟩ := y
      simp only at c0 c1
      go_wp2_with fail
      refine (toIo z s wr).mono ?_
      rintro e w2 ⟨rfl, hb⟩
      have HX2 := Lib.hid (show Own w2 w.heap.size 2 (.slice (some ⟨g, o, none⟩) n n) n (fun j => if j < k * 2 then pc xs j else zc j) ∧ Below w.heap.size w w2 from ⟨HX.out.1.below hb, HX.out.2.trans (hb.mono HX.out.2.size)⟩)
      clear hb c0 c1
      obtain ⟨b', o', e', hb', hc'⟩ := HX2.out.1.at (by omega)
      obtain ⟨rfl, rfl⟩ : g = b' ∧ o = o' := by simpa using e'
      obtain ⟨c2, f2⟩ := hc' (k * 2) (by omega)
      obtain ⟨c3, f3⟩ := hc' (k * 2 + 1) (by omega)
      have HG := Lib.hid hb'
      rw [← Nat.add_assoc] at c3 f3
      clear hc' hb' e'
      go_wp2
      go_roundw
      case rel =>
        refine ⟨k + 1, by omega, by go_num, Lib.hid ⟨((HX2.out.1.set (k * 2) (by omega) _).set (k * 2 + 1) (by omega) _).congr (fun j hj => ?_), (HX2.out.2.setCell HG.out _).setCell HG.out _⟩⟩
        show (if j = k * 2 + 1 then _ else if j = k * 2 then _ else if j < k * 2 then _ else _) = if j < (k + 1) * 2 then _ else _
        by_cases ej : j = k * 2 + 1
        · rw [if_pos ej, if_pos (by omega), ej, HT1.out]
        · rw [if_neg ej]
          by_cases ej2 : j = k * 2
          · rw [if_pos ej2, if_pos (by omega), ej2, HT0.out]
          · rw [if_neg ej2]
            by_cases h5 : j < k * 2
            · rw [if_pos h5, if_pos (by omega)]
            · rw [if_neg h5, if_neg (by omega)]
      case measure => simp [intOf]; omega
    · have hk2 := Lib.hid (show k = n by omega)
      go_wp2
      go_ret
      exact ⟨_, rfl, HX.out.1.congr (fun j hj => by rw [if_pos (by rw [hk2.out]; omega)]), HX.out.2⟩
end Go.Proofs.Ytmgokpkogjdfhaa.LawI
