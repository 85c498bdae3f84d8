/-
  What is proved: the laws' functions on operations, transactions and batches: their size counted, copied, compared (contracts for the walks).
-/
import Derived.Test.YtealdpkgfmokpaaRows
import Derived.Test.YtealdpkgfmokpaaOrm
import Derived.Test.YtealdpkgfmokpaaLawN
import Derived.Test.YtealdpkgfmokpaaLawS
namespace Go.Proofs.Ytealdpkgfmokpaa.LawB
open Go.ChangeShapes Go.WideShapes Go.ChangeAt Go.RowKit
open Sl (Sl Own Off)
open OpenSl (tc nc pc)
open Dev Orm
open LawN (mi)
set_option linter.unusedVariables false

theorem infoOp : (Try.prog.info? 159).map (fun i => (i.zero, i.size, i.bytes)) = some (some (.agg #[.int .i64 0, .int .i64 0, .int .i64 0]), 3, 24) := by kernel_rfl
theorem infoTxn : (Try.prog.info? 55).map (fun i => (i.zero, i.size, i.bytes)) = some (some (.agg #[.slice none 0 0]), 1, 24) := by kernel_rfl

theorem made_three (n : Nat) : ∀ j, j < n * 3 → (madeCells (Value.agg #[.int .i64 0, .int .i64 0, .int .i64 0]).cells (n * 3))[j]? = some (.int .i64 0) := by
  intro j hj
  show ((Array.range (n * 3)).map _)[j]? = _
  rw [Array.getElem?_map, Array.getElem?_range, if_pos hj]
  show some ((#[Value.int .i64 0, Value.int .i64 0, Value.int .i64 0] : Array Value)[j % 3]!) = _
  have h : j % 3 = 0 ∨ j % 3 = 1 ∨ j % 3 = 2 := by omega
  rcases h with h | h | h <;> rw [h] <;> rfl


theorem szOpS (w : World) (v : Value) (xs : List Bk) (h : Sl w 3 v xs.length (bc xs)) (L : Nat) (hL : L ≤ 1048576) :
    Calls Try.prog 78 #[v, .int .i64 L] w fun e w' => (∃ r : Int, e = .returned (.int .i64 r) ∧ (r = -1 ∨ ∃ R : Nat, r = R ∧ R + xs.length = L)) ∧ w' = w := by
  obtain ⟨a, cap, rfl, h1, h2, h3⟩ := h
  clear h3
  unfold maxLen at h2
  by_cases hlt : L < xs.length
  · go_enter Try.func78, Try.ntmps78
    go_wp2
    go_ret
    exact ⟨⟨_, rfl, .inl rfl⟩, rfl⟩
  · obtain ⟨R, eR⟩ : ∃ R, L - xs.length = R := ⟨_, rfl⟩
    have hR : R + xs.length = L := by omega
    have e1 : (L : Int) - (xs.length : Int) = (R : Int) := by omega
    have HR := Lib.hid hR
    go_enter Try.func78, Try.ntmps78
    go_wp2
    go_ret
    exact ⟨⟨_, rfl, .inr ⟨R, rfl, HR.out⟩⟩, rfl⟩


/-- The lengths of the first k, in all. -/
def sm (bss : List (List Bk)) (k : Nat) : Nat := ((bss.take k).map List.length).sum

theorem sm_zero (bss : List (List Bk)) : sm bss 0 = 0 := rfl

theorem sm_succ (bss : List (List Bk)) (k : Nat) (h : k < bss.length) : sm bss (k + 1) = sm bss k + (bss.getD k []).length := by
  unfold sm
  rw [List.take_add_one, List.getElem?_eq_getElem h, List.getD_eq_getElem?_getD, List.getElem?_eq_getElem h, List.map_append, List.sum_append]
  rfl

theorem sm_all (bss : List (List Bk)) : sm bss bss.length = (bss.map List.length).sum := by unfold sm; rw [List.take_length]


theorem szTxn (w : World) (v : Value) (xs : List Bk) (h : Sl w 3 v xs.length (bc xs)) (L : Nat) (hL : L ≤ 1048576) :
    Calls Try.prog 20 #[.agg #[v], .int .i64 L] w fun e w' => (∃ r : Int, e = .returned (.int .i64 r) ∧ (r = -1 ∨ ∃ R : Nat, r = R ∧ R + xs.length = L)) ∧ Below w.heap.size w w' := by
  have HB := Lib.hid ((Below.refl w.heap.size w).alloc (Nat.le_refl _) (.cells #[v] 44))
  have H := Lib.hid (h.below HB.out)
  obtain ⟨a, cap, rfl, _, _⟩ := h.form
  clear h
  go_enter Try.func20, Try.ntmps20
  go_wp2_with fail
  refine (szOpS _ _ xs H.out L hL).mono ?_
  rintro e w1 ⟨⟨r, rfl, hr⟩, rfl⟩
  rcases hr with rfl | ⟨R, rfl, hR⟩
  · go_wp2_with fail
    go_ret
    exact ⟨⟨_, rfl, .inl rfl⟩, HB.out⟩
  have HR := Lib.hid hR
  clear hR
  go_wp2_with fail
  go_ret
  exact ⟨⟨_, rfl, .inr ⟨R, rfl, HR.out⟩⟩, HB.out⟩

set_option maxRecDepth 100000 in
set_option maxHeartbeats 800000 in
theorem szTxnS (w : World) (v : Value) (bss : List (List Bk)) (h : Ns w v bss) (L : Nat) (hL : L ≤ 1048576) :
    Calls Try.prog 33 #[v, .int .i64 L] w fun e w' => (∃ r : Int, e = .returned (.int .i64 r) ∧ (r = -1 ∨ ∃ R : Nat, r = R ∧ R + bss.length + (bss.map List.length).sum = L)) ∧ Below w.heap.size w w' := by
  obtain ⟨vs, h, hin⟩ := h
  have HI := Lib.hid hin
  have HS := Lib.hid (sm_succ bss)
  have HA := Lib.hid (sm_all bss)
  obtain ⟨a, cap, rfl, h1, h2, h3⟩ := h
  have H3 := Lib.hid h3
  clear h3 hin
  unfold maxLen at h2
  by_cases hlt : L < bss.length
  · go_enter Try.func33, Try.ntmps33
    go_wp2
    go_ret
    exact ⟨⟨_, rfl, .inl rfl⟩, Below.refl _ _⟩
  · generalize en : bss.length = n at *
    have EN := Lib.hid en
    clear en
    obtain ⟨R0, eR⟩ : ∃ R0, L - n = R0 := ⟨_, rfl⟩
    have e1 : (L : Int) - (n : Int) = (R0 : Int) := by omega
    have e2 : R0 + n = L := by omega
    go_enter Try.func33, Try.ntmps33
    go_wp2
    clear e1
    go_loopw [1, 5] (fun l i wr => ∃ k R : Nat, k ≤ n ∧ R ≤ L ∧ l = .int .i64 R ∧ i = .int .i64 k ∧ Hid (R + n + sm bss k = L ∧ Below w.heap.size w wr)) (fun l i _ => n - (intOf i).toNat)
    case atStart => exact ⟨0, R0, by omega, by omega, rfl, rfl, Lib.hid ⟨by rw [sm_zero]; omega, Below.refl _ _⟩⟩
    case round =>
      rename_i wr
      obtain ⟨k, R, hk, hR, rfl, rfl, HJ⟩ := hrel
      by_cases hkn : k < n
      · obtain ⟨b, o, rfl, hc⟩ := H3.out (by omega)
        have c0 := hc k (by omega)
        rw [← HJ.out.2.cell (World.block_lt_of_cell? w _ c0)] at c0
        have HK := Lib.hid ((HI.out k hkn).below HJ.out.2)
        have HS2 := Lib.hid (HS.out k hkn)
        clear hc
        generalize bss.getD k [] = xs at *
        obtain ⟨a', cap', e9, _, _⟩ := HK.out.form
        rw [e9] at c0 HK
        go_wp2_with fail
        refine (szTxn _ _ xs HK.out R (by omega)).mono ?_
        rintro e w1 ⟨⟨r, rfl, hr⟩, hb⟩
        have HB2 := Lib.hid (HJ.out.2.trans (hb.mono HJ.out.2.size))
        clear hb c0
        rcases hr with rfl | ⟨R', rfl, hR'⟩
        · go_wp2
          go_ret
          exact ⟨⟨_, rfl, .inl rfl⟩, HB2.out⟩
        · have HR' := Lib.hid hR'
          have e4 : R' ≤ L := by omega
          clear hR'
          go_wp2
          go_roundw
          case rel => exact ⟨k + 1, R', by omega, e4, by go_num, by go_num, Lib.hid ⟨by have := HJ.out.1; have := HS2.out; have := HR'.out; omega, HB2.out⟩⟩
          case measure => simp [intOf]; omega
      · have hkn2 := Lib.hid (show k = n by omega)
        go_wp2
        go_ret
        exact ⟨⟨_, rfl, .inr ⟨R, rfl, by have := HJ.out.1; rw [hkn2.out, HA.out] at this; exact this⟩⟩, HJ.out.2⟩


theorem eqOp (x y z : Int) (w : World) :
    Calls Try.prog 130 #[.agg #[.int .i64 x, .int .i64 y, .int .i64 z], .agg #[.int .i64 x, .int .i64 y, .int .i64 z]] w fun e w' => e = .returned (.bool true) ∧ Below w.heap.size w w' := by
  go_enter Try.func130, Try.ntmps130
  go_wp2
  go_ret
  exact ⟨rfl, ((Below.refl _ _).alloc (Nat.le_refl _) _).alloc (by simp) _⟩

theorem toOp (x y z : Int) (w : World) :
    Calls Try.prog 120 #[.agg #[.int .i64 x, .int .i64 y, .int .i64 z]] w fun e w' => e = .returned (.agg #[.int .i64 x, .int .i64 y, .int .i64 z]) ∧ Below w.heap.size w w' := by
  go_enter Try.func120, Try.ntmps120
  go_wp2
  refine bodyPost_ret (v := .agg #[.int .i64 x, .int .i64 y, .int .i64 z]) (by simp [results, Try.results120, go_sem]) rfl ⟨rfl, ?_⟩
  repeat (first | exact Below.refl _ _ | refine Below.alloc ?_ (by simp; try omega) _ | refine Below.setCell ?_ (by simp; try omega) _)


set_option maxRecDepth 100000 in
set_option maxHeartbeats 800000 in
theorem eqOpS (w : World) (u v : Value) (xs : List Bk) (hu : Sl w 3 u xs.length (bc xs)) (hv : Sl w 3 v xs.length (bc xs)) :
    Calls Try.prog 90 #[u, v] w fun e w' => e = .returned (.bool true) ∧ Below w.heap.size w w' := by
  obtain ⟨a, cap, rfl, h1, h2, h3⟩ := hu
  obtain ⟨a', cap', rfl, h1', h2', h3'⟩ := hv
  have H3 := Lib.hid h3
  have H3' := Lib.hid h3'
  clear h3 h3'
  unfold maxLen at h2 h2'
  generalize xs.length = n at *
  go_enter Try.func90, Try.ntmps90
  go_wp2
  go_loopw [5] (fun i wr => ∃ k : Nat, k ≤ n ∧ i = .int .i64 k ∧ Hid (Below w.heap.size w wr)) (fun i _ => n - (intOf i).toNat)
  case atStart => exact ⟨0, by omega, rfl, Lib.hid (Below.refl _ _)⟩
  case round =>
    rename_i wr
    obtain ⟨k, hk, rfl, HB⟩ := hrel
    by_cases hlt : k < n
    · obtain ⟨b, o, rfl, hc⟩ := H3.out (by omega)
      obtain ⟨b', o', rfl, hc'⟩ := H3'.out (by omega)
      have c0 := hc (k * 3) (by omega)
      have c1 := hc (k * 3 + 1) (by omega)
      have c2 := hc (k * 3 + 2) (by omega)
      have d0 := hc' (k * 3) (by omega)
      have d1 := hc' (k * 3 + 1) (by omega)
      have d2 := hc' (k * 3 + 2) (by omega)
      rw [← HB.out.cell (World.block_lt_of_cell? w _ c0)] at c0
      rw [← HB.out.cell (World.block_lt_of_cell? w _ c1)] at c1
      rw [← HB.out.cell (World.block_lt_of_cell? w _ c2)] at c2
      rw [← HB.out.cell (World.block_lt_of_cell? w _ d0)] at d0
      rw [← HB.out.cell (World.block_lt_of_cell? w _ d1)] at d1
      rw [← HB.out.cell (World.block_lt_of_cell? w _ d2)] at d2
      rw [bc0] at c0 d0
      rw [bc1] at c1 d1
      rw [bc2] at c2 d2
      clear hc hc'
      generalize xs.getD k _ = y at *
      obtain ⟨y0, y1, y2⟩ := y
      simp only at c0 c1 c2 d0 d1 d2
      rw [← Nat.add_assoc] at c1 d1 c2 d2
      have i1 : (k : Int) < (n : Int) := by omega
      have i3 : (0 : Int) ≤ (k : Int) := by omega
      go_wp2
      go_region_with ((go_at_call 130; refine (eqOp y0 y1 y2 _).mono ?_; rintro e u1 ⟨rfl, hb⟩))
      all_goals
        have HB2 := Lib.hid ((below_drewN HB.out _).trans (hb.mono HB.out.size))
        clear hb
        go_wp2
        go_roundw
        case rel => exact ⟨k + 1, by omega, by go_num, HB2⟩
        case measure => simp [intOf]; omega
    · go_wp2
      go_ret
      exact ⟨rfl, HB.out⟩


theorem eqTxn (w : World) (u v : Value) (xs : List Bk) (hu : Sl w 3 u xs.length (bc xs)) (hv : Sl w 3 v xs.length (bc xs)) :
    Calls Try.prog 27 #[.agg #[u], .agg #[v]] w fun e w' => e = .returned (.bool true) ∧ Below w.heap.size w w' := by
  have HB := Lib.hid (((Below.refl w.heap.size w).alloc (Nat.le_refl _) (.cells #[u] 55)).alloc (by simp) (.cells #[v] 55))
  have HU := Lib.hid (hu.below HB.out)
  have HV := Lib.hid (hv.below HB.out)
  obtain ⟨a, cap, rfl, _, _⟩ := hu.form
  obtain ⟨a2, cap2, rfl, _, _⟩ := hv.form
  clear hu hv
  go_enter Try.func27, Try.ntmps27
  go_wp2_with fail
  refine (eqOpS _ _ _ xs HU.out HV.out).mono ?_
  rintro e w1 ⟨rfl, hb⟩
  have HB2 := Lib.hid (HB.out.trans (hb.mono HB.out.size))
  clear hb
  go_wp2_with fail
  go_ret
  exact ⟨rfl, HB2.out⟩

set_option maxRecDepth 100000 in
set_option maxHeartbeats 800000 in
theorem eqTxnS (w : World) (u v : Value) (bss : List (List Bk)) (hu : Ns w u bss) (hv : Ns w v bss) :
    Calls Try.prog 38 #[u, v] w fun e w' => e = .returned (.bool true) ∧ Below w.heap.size w w' := by
  obtain ⟨us, hu, hui⟩ := hu
  obtain ⟨vs, hv, hvi⟩ := hv
  obtain ⟨a, cap, rfl, h1, h2, h3⟩ := hu
  obtain ⟨a', cap', rfl, h1', h2', h3'⟩ := hv
  have H3 := Lib.hid h3
  have H3' := Lib.hid h3'
  have HI := Lib.hid hui
  have HI' := Lib.hid hvi
  clear h3 h3' hui hvi
  unfold maxLen at h2 h2'
  generalize bss.length = n at *
  go_enter Try.func38, Try.ntmps38
  go_wp2
  go_loopw [5] (fun i wr => ∃ k : Nat, k ≤ n ∧ i = .int .i64 k ∧ Hid (Below w.heap.size w wr)) (fun i _ => n - (intOf i).toNat)
  case atStart => exact ⟨0, by omega, rfl, Lib.hid (Below.refl _ _)⟩
  case round =>
    rename_i wr
    obtain ⟨k, hk, rfl, HB⟩ := hrel
    by_cases hlt : k < n
    · obtain ⟨b, o, rfl, hc⟩ := H3.out (by omega)
      obtain ⟨b', o', rfl, hc'⟩ := H3'.out (by omega)
      have c0 := hc k (by omega)
      have d0 := hc' k (by omega)
      rw [← HB.out.cell (World.block_lt_of_cell? w _ c0)] at c0
      rw [← HB.out.cell (World.block_lt_of_cell? w _ d0)] at d0
      have HU := Lib.hid ((HI.out k hlt).below HB.out)
      have HV := Lib.hid ((HI'.out k hlt).below HB.out)
      clear hc hc'
      generalize bss.getD k [] = xs at *
      obtain ⟨a2, cap2, e2, _, _⟩ := HU.out.form
      obtain ⟨a3, cap3, e3, _, _⟩ := HV.out.form
      rw [e2] at c0 HU
      rw [e3] at d0 HV
      have i1 : (k : Int) < (n : Int) := by omega
      have i3 : (0 : Int) ≤ (k : Int) := by omega
      go_wp2
      go_region_with ((go_at_call 27; refine (eqTxn _ _ _ xs (HU.out.below (below_drewN (Below.refl _ _) _)) (HV.out.below (below_drewN (Below.refl _ _) _))).mono ?_; rintro e u1 ⟨rfl, hb⟩))
      all_goals
        have HB2 := Lib.hid ((below_drewN HB.out _).trans (hb.mono HB.out.size))
        clear hb
        go_wp2
        go_roundw
        case rel => exact ⟨k + 1, by omega, by go_num, HB2⟩
        case measure => simp [intOf]; omega
    · go_wp2
      go_ret
      exact ⟨rfl, HB.out⟩

set_option maxRecDepth 100000 in
set_option maxHeartbeats 800000 in
theorem toOpS (w : World) (v : Value) (xs : List Bk) (h : Sl w 3 v xs.length (bc xs)) (hn : xs.length ≤ 1048576) :
    Calls Try.prog 83 #[v] w fun e w' => ∃ r, e = .returned r ∧ Own w' w.heap.size 3 r xs.length (bc xs) ∧ Below w.heap.size w w' := by
  obtain ⟨a, cap, rfl, h1, h2, h3⟩ := h
  have H3 := Lib.hid h3
  clear h3
  unfold maxLen at h2
  generalize xs.length = n at *
  obtain ⟨g, o, w1, hmk, hown, hbel⟩ := made (P := Try.prog) w 53 159 3 (.agg #[.int .i64 0, .int .i64 0, .int .i64 0]) 24 Try.underlying53 infoOp n (by omega) (by unfold maxLen; omega) (fun _ => .int .i64 0) (made_three n)
  have HO := Lib.hid hown
  have HB := Lib.hid hbel
  clear hown hbel
  go_enter Try.func83, Try.ntmps83
  go_wp2
  go_loopw [4] (fun i wr => ∃ k : Nat, k ≤ n ∧ i = .int .i64 k ∧ Hid (Own wr w.heap.size 3 (.slice (some ⟨g, o, none⟩) n n) n (fun j => if j < k * 3 then bc xs j else .int .i64 0) ∧ Below w.heap.size w wr)) (fun i _ => n - (intOf i).toNat)
  case atStart => exact ⟨0, by omega, rfl, Lib.hid ⟨HO.out.congr (fun j _ => by rw [if_neg (by omega)]), HB.out⟩⟩
  case round =>
    rename_i wr
    obtain ⟨k, hk, rfl, HX⟩ := hrel
    by_cases hlt : k < n
    · obtain ⟨b, o2, rfl, hc⟩ := H3.out (by omega)
      have c0 := hc (k * 3) (by omega)
      have c1 := hc (k * 3 + 1) (by omega)
      have c2 := hc (k * 3 + 2) (by omega)
      rw [← HX.out.2.cell (World.block_lt_of_cell? w _ c0), bc0] at c0
      rw [← HX.out.2.cell (World.block_lt_of_cell? w _ c1), bc1, ← Nat.add_assoc] at c1
      rw [← HX.out.2.cell (World.block_lt_of_cell? w _ c2), bc2, ← Nat.add_assoc] at c2
      have HT0 := Lib.hid (bc0 xs k)
      have HT1 := Lib.hid (bc1 xs k)
      have HT2 := Lib.hid (bc2 xs k)
      clear hc
      generalize xs.getD k (0, 0, 0) = y at *
      obtain ⟨y0, y1, y2⟩ := y
      simp only at c0 c1 c2
      go_wp2_with fail
      refine (toOp y0 y1 y2 wr).mono ?_
      rintro e w2 ⟨rfl, hb⟩
      have HX2 := Lib.hid (show Own w2 w.heap.size 3 (.slice (some ⟨g, o, none⟩) n n) n (fun j => if j < k * 3 then bc xs j else .int .i64 0) ∧ Below w.heap.size w w2 from ⟨HX.out.1.below hb, HX.out.2.trans (hb.mono HX.out.2.size)⟩)
      clear hb c0 c1 c2
      obtain ⟨b', o', e', hb', hc'⟩ := HX2.out.1.at (by omega)
      obtain ⟨rfl, rfl⟩ : g = b' ∧ o = o' := by simpa using e'
      obtain ⟨c3, f3⟩ := hc' (k * 3) (by omega)
      obtain ⟨c4, f4⟩ := hc' (k * 3 + 1) (by omega)
      obtain ⟨c5, f5⟩ := hc' (k * 3 + 2) (by omega)
      have HG := Lib.hid hb'
      rw [← Nat.add_assoc] at c4 f4 c5 f5
      clear hc' hb' e'
      go_wp2
      go_roundw
      case rel =>
        refine ⟨k + 1, by omega, by go_num, Lib.hid ⟨(((HX2.out.1.set (k * 3) (by omega) _).set (k * 3 + 1) (by omega) _).set (k * 3 + 2) (by omega) _).congr (fun j hj => ?_), ((HX2.out.2.setCell HG.out _).setCell HG.out _).setCell HG.out _⟩⟩
        show (if j = k * 3 + 2 then _ else if j = k * 3 + 1 then _ else if j = k * 3 then _ else if j < k * 3 then _ else _) = if j < (k + 1) * 3 then _ else _
        by_cases ej3 : j = k * 3 + 2
        · rw [if_pos ej3, if_pos (by omega), ej3, HT2.out]
        · rw [if_neg ej3]
          by_cases ej : j = k * 3 + 1
          · rw [if_pos ej, if_pos (by omega), ej, HT1.out]
          · rw [if_neg ej]
            by_cases ej2 : j = k * 3
            · rw [if_pos ej2, if_pos (by omega), ej2, HT0.out]
            · rw [if_neg ej2]
              by_cases h5 : j < k * 3
              · rw [if_pos h5, if_pos (by omega)]
              · rw [if_neg h5, if_neg (by omega)]
      case measure => simp [intOf]; omega
    · have hk2 := Lib.hid (show k = n by omega)
      go_wp2
      go_ret
      exact ⟨_, rfl, HX.out.1.congr (fun j hj => by rw [if_pos (by rw [hk2.out]; omega)]), HX.out.2⟩


theorem box1 (w : World) (T : TypeId) (x : Value) : ∃ U, w.alloc (.cells #[x] T) = U ∧ Below w.heap.size w U ∧ U.heap.size = w.heap.size + 1 ∧ U.cell? ⟨w.heap.size, 0, none⟩ = some x ∧ U.frozen? ⟨w.heap.size, 0, none⟩ = false :=
  ⟨_, rfl, (Below.refl _ _).alloc (Nat.le_refl _) _, by go_simp, by go_simp, by go_simp⟩
set_option maxRecDepth 100000 in
theorem toTxn (w : World) (v : Value) (xs : List Bk) (h : Sl w 3 v xs.length (bc xs)) (hn : xs.length ≤ 1048576) :
    Calls Try.prog 23 #[.agg #[v]] w fun e w' => ∃ r, e = .returned (.agg #[r]) ∧ Own w' w.heap.size 3 r xs.length (bc xs) ∧ Below w.heap.size w w' := by
  obtain ⟨U, e1, hb1, hz1, c1, _⟩ := box1 w 44 v
  obtain ⟨V, e2, hb2, hz2, c2, f2⟩ := box1 U 55 (.slice none 0 0)
  obtain ⟨X, e3, hb3, hz3, c4, f4⟩ := box1 V 55 (.slice none 0 0)
  have c3 : V.cell? ⟨w.heap.size, 0, none⟩ = some v := by rw [hb2.cell (World.block_lt_of_cell? U _ c1)]; exact c1
  have c5 : X.cell? ⟨w.heap.size, 0, none⟩ = some v := by rw [hb3.cell (World.block_lt_of_cell? V _ c3)]; exact c3
  have c6 : X.cell? ⟨U.heap.size, 0, none⟩ = some (.slice none 0 0) := by rw [hb3.cell (World.block_lt_of_cell? V _ c2)]; exact c2
  have f6 : X.frozen? ⟨U.heap.size, 0, none⟩ = false := by rw [hb3.frozen (World.block_lt_of_cell? V _ c2)]; exact f2
  obtain ⟨G, eG⟩ : ∃ G, w.heap.size = G := ⟨_, rfl⟩
  obtain ⟨G2, eG2⟩ : ∃ G2, U.heap.size = G2 := ⟨_, rfl⟩
  obtain ⟨G3, eG3⟩ : ∃ G3, V.heap.size = G3 := ⟨_, rfl⟩
  have hbx := hb1.trans ((hb2.trans (hb3.mono hb2.size)).mono hb1.size)
  have HB := Lib.hid (show Below G w X from eG ▸ hbx)
  have H := Lib.hid (h.below hbx)
  have HZ := Lib.hid (show G < G2 ∧ G2 < G3 ∧ G3 < X.heap.size ∧ w.heap.size = G from ⟨by omega, by omega, by omega, eG⟩)
  rw [eG] at c5
  rw [eG2] at c6 f6
  rw [eG3] at c4 f4
  obtain ⟨a, cap, rfl, _, _⟩ := h.form
  clear h hz1 hz2 hz3 hb1 hb2 hb3 hbx c1 c2 f2 c3
  go_enter Try.func23, Try.ntmps23
  go_wp2_with fail
  refine (toOpS X _ xs H.out hn).mono ?_
  rintro e w1 ⟨r, rfl, ho, hb⟩
  have d2 : w1.cell? ⟨G2, 0, none⟩ = some (.slice none 0 0) := by rw [hb.cell (World.block_lt_of_cell? X _ c6)]; exact c6
  have g2 : w1.frozen? ⟨G2, 0, none⟩ = false := by rw [hb.frozen (World.block_lt_of_cell? X _ c6)]; exact f6
  have d3 : w1.cell? ⟨G3, 0, none⟩ = some (.slice none 0 0) := by rw [hb.cell (World.block_lt_of_cell? X _ c4)]; exact c4
  have g3 : w1.frozen? ⟨G3, 0, none⟩ = false := by rw [hb.frozen (World.block_lt_of_cell? X _ c4)]; exact f4
  have HO := Lib.hid (ho.base (show G ≤ X.heap.size by have := HZ.out; omega))
  have HOF := Lib.hid (And.intro (own_low ho G2 (by have := HZ.out; omega)) (own_low ho G3 (by have := HZ.out; omega)))
  have HB2 := Lib.hid (HB.out.trans (hb.mono (by have := HZ.out; omega)))
  have hne : G3 ≠ G2 := by have := HZ.out; omega
  clear hb c6 f6 c4 f4 c5 e1 e2 e3 eG eG2 eG3 ho
  obtain ⟨a2, cap2, rfl, _, _⟩ := HO.out.sl.form
  go_wp2_with fail
  refine bodyPost_ret (v := .agg #[.slice a2 xs.length cap2]) (by simp [results, Try.results23, go_sem, d2]) rfl ⟨_, rfl, ?_, ?_⟩
  · rw [HZ.out.2.2.2]
    first | exact own_set_off (own_set_off HO.out HOF.out.2 _ _) HOF.out.1 _ _ | exact own_set_off (own_set_off HO.out HOF.out.1 _ _) HOF.out.2 _ _
  · rw [HZ.out.2.2.2]
    first | exact (HB2.out.setCell (p := ⟨G3, 0, none⟩) (by have := HZ.out; show G ≤ G3; omega) _).setCell (p := ⟨G2, 0, none⟩) (by have := HZ.out; show G ≤ G2; omega) _ | exact (HB2.out.setCell (p := ⟨G2, 0, none⟩) (by have := HZ.out; show G ≤ G2; omega) _).setCell (p := ⟨G3, 0, none⟩) (by have := HZ.out; show G ≤ G3; omega) _

/-- A slice of slices of the call's own, of which the first k are laid. -/
structure Part (w : World) (base g o n : Nat) (bss : List (List Bk)) (vs : Nat → Value) (k : Nat) : Prop where
  out : Own w base 1 (.slice (some ⟨g, o, none⟩) n n) n (fun j => if j < k then vs j else .slice none 0 0)
  inn : ∀ j, j < k → Own w base 3 (vs j) (bss.getD j []).length (bc (bss.getD j []))
  off : ∀ j, j < k → Apart (.slice (some ⟨g, o, none⟩) n n) (vs j)
  each : ∀ i j, i < k → j < k → i ≠ j → Apart (vs i) (vs j)

theorem part_step {wr w2 : World} {base g o n : Nat} {bss : List (List Bk)} {vs : Nat → Value} {k : Nat} {r : Value} (h : Part wr base g o n bss vs k) (hk : k < n) (hb : Below wr.heap.size wr w2) (hB : base ≤ wr.heap.size) (ho : Own w2 wr.heap.size 3 r (bss.getD k []).length (bc (bss.getD k []))) :
    Part (w2.setCell ⟨g, o + k, none⟩ r) base g o n bss (fun j => if j = k then r else vs j) (k + 1) := by
  have hg : g < wr.heap.size := by
    obtain ⟨b, o', e, _, hc⟩ := h.out.at (by omega)
    obtain ⟨rfl, rfl⟩ : g = b ∧ o = o' := by simpa using e
    exact World.block_lt_of_cell? wr _ (hc 0 (by omega)).1
  have hr : Off r g := own_low ho g hg
  refine ⟨((h.out.below hb).set k (by omega) r).congr fun j hj => ?_, fun j hj => ?_, fun j hj => ?_, fun i j hi hj hn => ?_⟩
  · show (if j = k then r else if j < k then vs j else _) = if j < k + 1 then (if j = k then r else vs j) else _
    by_cases e : j = k
    · rw [if_pos e, if_pos (by omega), if_pos e]
    · rw [if_neg e, if_neg e]
      by_cases h5 : j < k
      · rw [if_pos h5, if_pos (by omega)]
      · rw [if_neg h5, if_neg (by omega)]
  · show Own _ _ _ (if j = k then r else vs j) _ _
    by_cases e : j = k
    · rw [if_pos e, e]
      exact own_set_off (ho.base hB) hr _ _
    · rw [if_neg e]
      exact own_set_off ((h.inn j (by omega)).below hb) (h.off j (by omega) _ _ _ rfl (by omega)) _ _
  · show Apart _ (if j = k then r else vs j)
    by_cases e : j = k
    · rw [if_pos e]
      exact apart_of h.out.sl (by omega) ho (Nat.le_refl _)
    · rw [if_neg e]
      exact h.off j (by omega)
  · show Apart (if i = k then r else vs i) (if j = k then r else vs j)
    by_cases e : i = k
    · rw [if_pos e, if_neg (by omega)]
      exact (apart_of (h.inn j (by omega)).sl (by omega) ho (Nat.le_refl _)).symm
    · rw [if_neg e]
      by_cases e2 : j = k
      · rw [if_pos e2]
        exact apart_of (h.inn i (by omega)).sl (by omega) ho (Nat.le_refl _)
      · rw [if_neg e2]
        exact h.each i j (by omega) (by omega) hn


theorem made_txn (n : Nat) : ∀ j, j < n * 1 → (madeCells (Value.agg #[.slice none 0 0]).cells (n * 1))[j]? = some (.slice none 0 0) := by
  intro j hj
  show ((Array.range (n * 1)).map _)[j]? = _
  rw [Array.getElem?_map, Array.getElem?_range, if_pos hj]
  show some ((#[Value.slice none 0 0] : Array Value)[j % 1]!) = _
  rw [Nat.mod_one]
  rfl

set_option maxRecDepth 100000 in
set_option maxHeartbeats 800000 in
theorem toTxnS (w : World) (v : Value) (bss : List (List Bk)) (h : Ns w v bss) (hn : bss.length ≤ 1048576) (hs : ∀ j, j < bss.length → (bss.getD j []).length ≤ 1048576) :
    Calls Try.prog 35 #[v] w fun e w' => ∃ r vs, e = .returned r ∧ NsO w' w.heap.size r bss vs ∧ Below w.heap.size w w' := by
  obtain ⟨us, ⟨a, cap, rfl, h1, h2, h3⟩, hin⟩ := h
  have H3 := Lib.hid h3
  have HI := Lib.hid hin
  have HS := Lib.hid hs
  clear h3 hin hs
  unfold maxLen at h2
  generalize en : bss.length = n at *
  have EN := Lib.hid en
  clear en
  obtain ⟨g, o, w1, hmk, hown, hbel⟩ := made (P := Try.prog) w 69 55 1 (.agg #[.slice none 0 0]) 24 Try.underlying69 infoTxn n (by omega) (by unfold maxLen; omega) (fun _ => .slice none 0 0) (made_txn n)
  have HO := Lib.hid hown
  have HB := Lib.hid hbel
  clear hown hbel
  go_enter Try.func35, Try.ntmps35
  go_wp2
  go_loopw [4] (fun i wr => ∃ k : Nat, k ≤ n ∧ i = .int .i64 k ∧ Hid ((∃ vs, Part wr w.heap.size g o n bss vs k) ∧ Below w.heap.size w wr)) (fun i _ => n - (intOf i).toNat)
  case atStart => exact ⟨0, by omega, rfl, Lib.hid ⟨⟨fun _ => .slice none 0 0, HO.out.congr (fun j _ => by rw [if_neg (by omega)]), fun j hj => by omega, fun j hj => by omega, fun i j hi => by omega⟩, HB.out⟩⟩
  case round =>
    rename_i wr
    obtain ⟨k, hk, rfl, HX⟩ := hrel
    by_cases hlt : k < n
    · obtain ⟨b, o2, rfl, hc⟩ := H3.out (by omega)
      have c0 := hc k (by omega)
      rw [← HX.out.2.cell (World.block_lt_of_cell? w _ c0)] at c0
      have HU := Lib.hid ((HI.out k hlt).below HX.out.2)
      have HL := Lib.hid (HS.out k hlt)
      have HST := Lib.hid (fun (vs : Nat → Value) (w2 : World) (r : Value) (hp : Part wr w.heap.size g o n bss vs k) (hb : Below wr.heap.size wr w2) (ho : Own w2 wr.heap.size 3 r (bss.getD k []).length (bc (bss.getD k []))) => part_step hp hlt hb HX.out.2.size ho)
      clear hc
      generalize bss.getD k [] = xs at *
      obtain ⟨a2, cap2, e2, _, _⟩ := HU.out.form
      rw [e2] at c0 HU
      go_wp2_with fail
      refine (toTxn wr _ xs HU.out HL.out).mono ?_
      rintro e w2 ⟨r, rfl, ho, hb⟩
      have HB2 := Lib.hid (HX.out.2.trans (hb.mono HX.out.2.size))
      have HP := Lib.hid (show ∃ vs, Part (w2.setCell ⟨g, o + k, none⟩ r) w.heap.size g o n bss vs (k + 1) from by
        obtain ⟨vs, hp⟩ := HX.out.1
        exact ⟨_, HST.out vs w2 r hp hb ho⟩)
      obtain ⟨b', o', e', hb', hc'⟩ := (show ∃ b' o', (some ⟨g, o, none⟩ : Option Addr) = some ⟨b', o', none⟩ ∧ w.heap.size ≤ b' ∧ ∀ j, j < n * 1 → (∃ u, w2.cell? ⟨b', o' + j, none⟩ = some u) ∧ w2.frozen? ⟨b', o' + j, none⟩ = false from by
        obtain ⟨vs, hp⟩ := HX.out.1
        obtain ⟨b', o', e', hb', hc'⟩ := (hp.out.below hb).at (by omega)
        exact ⟨b', o', e', hb', fun j hj => ⟨⟨_, (hc' j hj).1⟩, (hc' j hj).2⟩⟩)
      obtain ⟨rfl, rfl⟩ : g = b' ∧ o = o' := by simpa using e'
      obtain ⟨⟨u0, c3⟩, f3⟩ := hc' k (by omega)
      have HG := Lib.hid hb'
      obtain ⟨a4, cap4, rfl, _, _⟩ := ho.sl.form
      clear hc' hb' e' ho hb c0
      go_wp2
      go_roundw
      case rel => exact ⟨k + 1, by omega, by go_num, Lib.hid ⟨HP.out, HB2.out.setCell HG.out _⟩⟩
      case measure => simp [intOf]; omega
    · have hk2 := Lib.hid (show k = n by omega)
      go_wp2
      go_ret
      obtain ⟨vs, hp⟩ := HX.out.1
      rw [hk2.out] at hp
      refine ⟨_, vs, rfl, ?_, HX.out.2⟩
      refine ⟨?_, ?_, ?_, ?_⟩ <;> rw [EN.out]
      · exact hp.out.congr (fun j hj => by rw [if_pos (by omega)])
      · exact hp.inn
      · exact hp.off
      · exact hp.each


set_option maxRecDepth 100000 in
set_option maxHeartbeats 800000 in
theorem markOpS (w : World) (base : Nat) (v : Value) (n : Nat) (c : Nat → Value) (h : Own w base 3 v n c) (k : Nat) (hk : k + n * 3 ≤ 10000000) :
    Calls Try.prog 91 #[v, .int .i64 k] w fun e w' => e = .returned (.int .i64 ((k + n * 3 : Nat) : Int)) ∧ Own w' base 3 v n (mi k) ∧ Turns [v] w w' := by
  obtain ⟨a, cap, rfl, h1, h2, h3⟩ := h
  have HO := Lib.hid (show Own w base 3 (.slice a n cap) n c from ⟨a, cap, rfl, h1, h2, h3⟩)
  clear h3
  unfold maxLen at h2
  go_enter Try.func91, Try.ntmps91
  go_wp2
  go_loopw [1, 5] (fun q i wr => ∃ j m : Nat, j ≤ n ∧ q = .int .i64 m ∧ i = .int .i64 j ∧ Hid (m = k + j * 3 ∧ Own wr base 3 (.slice a n cap) n (fun l => if l < j * 3 then mi k l else c l) ∧ Turns [.slice a n cap] w wr)) (fun q i _ => n - (intOf i).toNat)
  case atStart => exact ⟨0, k, by omega, rfl, rfl, Lib.hid ⟨rfl, HO.out.congr (fun j _ => by rw [if_neg (by omega)]), Turns.refl _ _⟩⟩
  case round =>
    rename_i wr
    obtain ⟨j, m, hj, rfl, rfl, HX⟩ := hrel
    by_cases hlt : j < n
    · have hm : m ≤ 10000000 := by have := HX.out.1; omega
      obtain ⟨b, o, rfl, hb', hc'⟩ := HX.out.2.1.at (by omega)
      obtain ⟨c0, f0⟩ := hc' (j * 3) (by omega)
      obtain ⟨c1, f1⟩ := hc' (j * 3 + 1) (by omega)
      obtain ⟨c2, f2⟩ := hc' (j * 3 + 2) (by omega)
      rw [← Nat.add_assoc] at c1 f1 c2 f2
      have HE0 := Lib.hid (show mi k (j * 3) = .int .i64 (m : Int) by unfold mi; rw [HX.out.1])
      have HE1 := Lib.hid (show mi k (j * 3 + 1) = .int .i64 ((m : Int) + 1) by unfold mi; rw [HX.out.1]; congr 1)
      have HE2 := Lib.hid (show mi k (j * 3 + 2) = .int .i64 ((m : Int) + 1 + 1) by unfold mi; rw [HX.out.1]; congr 1)
      generalize (if j * 3 < j * 3 then mi k (j * 3) else c (j * 3)) = d0 at *
      generalize (if j * 3 + 1 < j * 3 then mi k (j * 3 + 1) else c (j * 3 + 1)) = d1 at *
      generalize (if j * 3 + 2 < j * 3 then mi k (j * 3 + 2) else c (j * 3 + 2)) = d2 at *
      clear hc' hb'
      go_wp2
      go_roundw
      case rel =>
        refine ⟨j + 1, m + 3, by omega, by first | go_num | (congr 1; omega), by go_num, Lib.hid ⟨by have := HX.out.1; omega, (((HX.out.2.1.set (j * 3) (by omega) _).set (j * 3 + 1) (by omega) _).set (j * 3 + 2) (by omega) _).congr (fun l hl => ?_), ((HX.out.2.2.set (o := o) (n := n) (cap := cap) (by simp) (by omega) _ _).set (o := o) (n := n) (cap := cap) (by simp) (by omega) _ _).set (o := o) (n := n) (cap := cap) (by simp) (by omega) _ _⟩⟩
        show (if l = j * 3 + 2 then _ else if l = j * 3 + 1 then _ else if l = j * 3 then _ else if l < j * 3 then _ else _) = if l < (j + 1) * 3 then _ else _
        by_cases ej3 : l = j * 3 + 2
        · rw [if_pos ej3, if_pos (by omega), ej3, HE2.out]
        · rw [if_neg ej3]
          by_cases ej : l = j * 3 + 1
          · rw [if_pos ej, if_pos (by omega), ej, HE1.out]
          · rw [if_neg ej]
            by_cases ej2 : l = j * 3
            · rw [if_pos ej2, if_pos (by omega), ej2, HE0.out]
            · rw [if_neg ej2]
              by_cases h5 : l < j * 3
              · rw [if_pos h5, if_pos (by omega)]
              · rw [if_neg h5, if_neg (by omega)]
      case measure => simp [intOf]; omega
    · have hj2 := Lib.hid (show j = n by omega)
      go_wp2
      go_ret
      refine ⟨?_, HX.out.2.1.congr (fun l hl => by rw [if_pos (by rw [hj2.out]; omega)]), HX.out.2.2⟩
      show Ending.returned (Value.int .i64 (m : Int)) = _
      rw [HX.out.1, hj2.out]


end Go.Proofs.Ytealdpkgfmokpaa.LawB
