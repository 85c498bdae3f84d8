/-
  What is proved: the laws' functions on slices of texts: their size counted, copied, compared (contracts for the walks).
-/
import Derived.Test.YtemlmffoehclhaaDoorRows
import Derived.Test.YtemlmffoehclhaaDoorDev
import Derived.Test.YtemlmffoehclhaaDoorBytes
import Derived.Laws.MakeOwn
namespace Go.Proofs.YtemlmffoehclhaaDoor.LawS
open Go.ChangeShapes Go.WideShapes Go.ChangeAt Go.RowKit
open Sl (Sl Own Off)
open OpenSl (tc nc pc)
open Dev
set_option linter.unusedVariables false

theorem mem_getD {ts : List ByteArray} {k : Nat} (h : k < ts.length) : ts.getD k ByteArray.empty ∈ ts := by
  rw [List.getD_eq_getElem?_getD, List.getElem?_eq_getElem h]; exact List.getElem_mem h

theorem size_le {ts : List ByteArray} {m : Nat} (h : ∀ s ∈ ts, s.size ≤ m) (k : Nat) : (ts.getD k ByteArray.empty).size ≤ m := by
  by_cases hk : k < ts.length
  · exact h _ (mem_getD hk)
  · rw [List.getD_eq_getElem?_getD, List.getElem?_eq_none (by omega)]; exact Nat.zero_le _

set_option maxRecDepth 100000 in
set_option maxHeartbeats 800000 in
theorem szStringS (w : World) (v : Value) (ts : List ByteArray) (h : Sl w 1 v ts.length (tc ts)) (hs : ∀ s ∈ ts, s.size ≤ maxLen) (L : Nat) (hL : L ≤ 1048576) :
    Calls Tryd.prog 35 #[v, .int .i64 L] w fun e w' => (∃ r : Int, e = .returned (.int .i64 r) ∧ (r = -1 ∨ ∃ R : Nat, r = R ∧ R ≤ L ∧ ts.length ≤ L ∧ ∀ s ∈ ts, s.size ≤ L)) ∧ w' = w := by
  obtain ⟨a, cap, rfl, h1, h2, h3⟩ := h
  have HS := Lib.hid (size_le hs)
  have H3 := Lib.hid h3
  clear hs h3
  unfold maxLen at h2 HS
  by_cases hlt : L < ts.length
  · go_enter Tryd.func35, Tryd.ntmps35
    go_wp2
    go_ret
    exact ⟨⟨_, rfl, .inl rfl⟩, rfl⟩
  · generalize en : ts.length = n at *
    have EN := Lib.hid en
    clear en
    obtain ⟨R0, eR⟩ : ∃ R0, L - n = R0 := ⟨_, rfl⟩
    have e1 : (L : Int) - (n : Int) = (R0 : Int) := by omega
    have e2 : R0 ≤ L := by omega
    go_enter Tryd.func35, Tryd.ntmps35
    go_wp2
    clear e1
    go_loopw [1, 5] (fun l i wr => ∃ k R : Nat, k ≤ n ∧ R ≤ L ∧ l = .int .i64 R ∧ i = .int .i64 k ∧ wr = w ∧ Hid (∀ j, j < k → (ts.getD j ByteArray.empty).size ≤ L)) (fun l i _ => n - (intOf i).toNat)
    case atStart => exact ⟨0, R0, by omega, e2, rfl, rfl, rfl, fun j hj => by omega⟩
    case round =>
      obtain ⟨k, R, hk, hR, rfl, rfl, rfl, HJ⟩ := hrel
      by_cases hkn : k < n
      · obtain ⟨b, o, rfl, hc⟩ := H3.out (by omega)
        have c0 := hc k (by omega)
        unfold tc at c0
        have hsz := HS.out k
        have HJ2 := Lib.hid (show ∀ s, ts.getD k ByteArray.empty = s → s.size ≤ L → ∀ j, j < k + 1 → (ts.getD j ByteArray.empty).size ≤ L from fun s e hs j hj => by
          by_cases ej : j = k
          · rw [ej, e]; exact hs
          · exact HJ.out j (by omega))
        clear hc HS
        generalize ts.getD k ByteArray.empty = s at *
        by_cases hb : R < s.size
        · go_wp2
          go_ret
          exact ⟨⟨_, rfl, .inl rfl⟩, rfl⟩
        · obtain ⟨R', eR'⟩ : ∃ R', R - s.size = R' := ⟨_, rfl⟩
          have e3 : (R : Int) - (s.size : Int) = (R' : Int) := by omega
          have e4 : R' ≤ L := by omega
          go_wp2
          go_roundw
          case rel => exact ⟨k + 1, R', by omega, e4, by go_num, by go_num, by trivial, Lib.hid (HJ2.out s rfl (by omega))⟩
          case measure => simp [intOf]; omega
      · have hkn2 := Lib.hid (show k = n by omega)
        go_wp2
        go_ret
        refine ⟨⟨_, rfl, .inr ⟨R, rfl, hR, by omega, fun s hm => ?_⟩⟩, rfl⟩
        obtain ⟨j, hj, rfl⟩ := List.getElem_of_mem hm
        have := HJ.out j (by rw [hkn2.out, ← EN.out]; exact hj)
        rwa [List.getD_eq_getElem?_getD, List.getElem?_eq_getElem hj] at this

set_option maxRecDepth 100000 in
set_option maxHeartbeats 800000 in
theorem eqStringS (w : World) (u v : Value) (ts : List ByteArray) (hu : Sl w 1 u ts.length (tc ts)) (hv : Sl w 1 v ts.length (tc ts)) :
    Calls Tryd.prog 37 #[u, v] w fun e w' => e = .returned (.bool true) ∧ Below w.heap.size w w' := by
  obtain ⟨a, cap, rfl, h1, h2, h3⟩ := hu
  obtain ⟨a', cap', rfl, h1', h2', h3'⟩ := hv
  have H3 := Lib.hid h3
  have H3' := Lib.hid h3'
  clear h3 h3'
  unfold maxLen at h2 h2'
  generalize ts.length = n at *
  go_enter Tryd.func37, Tryd.ntmps37
  go_wp2
  go_loopw [5] (fun i wr => ∃ k m : Nat, k ≤ n ∧ i = .int .i64 k ∧ wr = w.drewN m) (fun i _ => n - (intOf i).toNat)
  case atStart => exact ⟨0, 0, by omega, rfl, rfl⟩
  case round =>
    obtain ⟨k, m, hk, rfl, rfl⟩ := hrel
    by_cases hlt : k < n
    · obtain ⟨b, o, rfl, hc⟩ := H3.out (by omega)
      obtain ⟨b', o', rfl, hc'⟩ := H3'.out (by omega)
      have c0 := hc k (by omega)
      have c1 := hc' k (by omega)
      unfold tc at c0 c1
      clear hc hc'
      generalize ts.getD k ByteArray.empty = s at *
      go_wp2
      go_quiet (fail)
      go_wp2
      go_roundw
      case rel => exact ⟨k + 1, _, by omega, by go_num, rfl⟩
      case measure => simp [intOf]; omega
    · go_wp2
      go_ret
      exact ⟨rfl, below_drewN (Below.refl _ _) m⟩

theorem made_one (z : Value) (hz : z.cells = #[z]) (n : Nat) : ∀ j, j < n * 1 → (madeCells z.cells (n * 1))[j]? = some z := by
  intro j hj
  rw [hz, ← Array.getElem?_toList, toList_madeCells_one, List.getElem?_replicate, if_pos hj]
theorem info9 : (Tryd.prog.info? 9).map (fun i => (i.zero, i.size, i.bytes)) = some (some (.string ByteArray.empty), 1, 16) := by kernel_rfl

set_option maxRecDepth 100000 in
set_option maxHeartbeats 800000 in
theorem toStringS (w : World) (v : Value) (ts : List ByteArray) (h : Sl w 1 v ts.length (tc ts)) (hn : ts.length ≤ 1048576) :
    Calls Tryd.prog 36 #[v] w fun e w' => ∃ r, e = .returned r ∧ Own w' w.heap.size 1 r ts.length (tc ts) ∧ Below w.heap.size w w' := by
  obtain ⟨a, cap, rfl, h1, h2, h3⟩ := h
  have H3 := Lib.hid h3
  clear h3
  unfold maxLen at h2
  generalize ts.length = n at *
  obtain ⟨g, o, w1, hmk, hown, hbel⟩ := made (P := Tryd.prog) w 36 9 1 (.string ByteArray.empty) 16 Tryd.underlying36 info9 n (by omega) (by unfold maxLen; omega) (fun _ => .string ByteArray.empty) (made_one _ rfl n)
  have HO := Lib.hid hown
  have HB := Lib.hid hbel
  clear hown hbel
  go_enter Tryd.func36, Tryd.ntmps36
  go_wp2
  go_loopw [4] (fun i wr => ∃ k : Nat, k ≤ n ∧ i = .int .i64 k ∧ Hid (Own wr w.heap.size 1 (.slice (some ⟨g, o, none⟩) n n) n (fun j => if j < k then tc ts j else .string ByteArray.empty) ∧ Below w.heap.size w wr)) (fun i _ => n - (intOf i).toNat)
  case atStart => exact ⟨0, by omega, rfl, Lib.hid ⟨HO.out.congr (fun j _ => by rw [if_neg (by omega)]), HB.out⟩⟩
  case round =>
    rename_i wr
    obtain ⟨k, hk, rfl, HX⟩ := hrel
    by_cases hlt : k < n
    · obtain ⟨b, o2, rfl, hc⟩ := H3.out (by omega)
      have c0 := hc k (by omega)
      have c1 : wr.cell? ⟨b, o2 + k, none⟩ = some (tc ts k) := (HX.out.2.cell (World.block_lt_of_cell? w _ c0)).trans c0
      obtain ⟨b', o', e', hb', hc'⟩ := HX.out.1.at (by omega)
      obtain ⟨rfl, rfl⟩ : g = b' ∧ o = o' := by simpa using e'
      obtain ⟨c2, f2⟩ := hc' k (by omega)
      have HG := Lib.hid hb'
      unfold tc at c1
      rw [if_neg (by omega)] at c2
      have HT := Lib.hid (show tc ts k = .string (ts.getD k ByteArray.empty) from rfl)
      clear hc hc' c0 hb' e'
      generalize ts.getD k ByteArray.empty = s at *
      go_wp2
      go_roundw
      case rel =>
        refine ⟨k + 1, by omega, by go_num, Lib.hid ⟨(HX.out.1.set k (by omega) _).congr (fun j hj => ?_), HX.out.2.setCell HG.out _⟩⟩
        show (if j = k then _ else if j < k then _ else _) = if j < k + 1 then _ else _
        by_cases ej : j = k
        · rw [if_pos ej, if_pos (by omega), ej, HT.out]
        · rw [if_neg ej]
          by_cases h5 : j < k
          · rw [if_pos h5, if_pos (by omega)]
          · rw [if_neg h5, if_neg (by omega)]
      case measure => simp [intOf]; omega
    · have hk2 := Lib.hid (show k = n by omega)
      go_wp2
      go_ret
      exact ⟨_, rfl, HX.out.1.congr (fun j hj => by rw [if_pos (by rw [hk2.out]; omega)]), HX.out.2⟩
end Go.Proofs.YtemlmffoehclhaaDoor.LawS
