/-
  What is proved: the laws' functions on slices of blocks, slices of such slices and trees: copied into new memory, marked and found marked (contracts for the walks).
-/
import Derived.Test.YtealdpkgfmokpaaRows
import Derived.Test.YtealdpkgfmokpaaLawO
import Derived.Test.YtealdpkgfmokpaaHeldN
namespace Go.Proofs.Ytealdpkgfmokpaa.LawO2
open Go.ChangeShapes Go.WideShapes Go.ChangeAt Go.RowKit
open Sl (Sl Own Off)
open OpenSl (tc nc pc)
open Dev Orm LawO
open LawN (mi)
set_option linter.unusedVariables false

theorem infoB : (Try.prog.info? 110).map (fun i => (i.zero, i.size, i.bytes)) = some (some (.agg #[.int .i64 0, .int .i64 0, .int .i64 0]), 3, 24) := by kernel_rfl
theorem infoBS : (Try.prog.info? 28).map (fun i => (i.zero, i.size, i.bytes)) = some (some (.slice none 0 0), 1, 24) := by kernel_rfl
theorem made_three (n : Nat) : ∀ j, j < n * 3 → (madeCells (Value.agg #[.int .i64 0, .int .i64 0, .int .i64 0]).cells (n * 3))[j]? = some (.int .i64 0) := by
  intro j hj
  show ((Array.range (n * 3)).map _)[j]? = _
  rw [Array.getElem?_map, Array.getElem?_range, if_pos hj]
  show some ((#[Value.int .i64 0, Value.int .i64 0, Value.int .i64 0] : Array Value)[j % 3]!) = _
  have h : j % 3 = 0 ∨ j % 3 = 1 ∨ j % 3 = 2 := by omega
  rcases h with h | h | h <;> rw [h] <;> rfl

set_option maxRecDepth 100000 in
set_option maxHeartbeats 800000 in
theorem toBlockS (w : World) (v : Value) (xs : List Bk) (h : Sl w 3 v xs.length (bc xs)) (hn : xs.length ≤ 1048576) :
    Calls Try.prog 62 #[v] w fun e w' => ∃ r, e = .returned r ∧ Own w' w.heap.size 3 r xs.length (bc xs) ∧ Below w.heap.size w w' := by
  obtain ⟨a, cap, rfl, h1, h2, h3⟩ := h
  have H3 := Lib.hid h3
  clear h3
  unfold maxLen at h2
  generalize xs.length = n at *
  obtain ⟨g, o, w1, hmk, hown, hbel⟩ := made (P := Try.prog) w 28 110 3 (.agg #[.int .i64 0, .int .i64 0, .int .i64 0]) 24 Try.underlying28 infoB n (by omega) (by unfold maxLen; omega) (fun _ => .int .i64 0) (made_three n)
  have HO := Lib.hid hown
  have HB := Lib.hid hbel
  clear hown hbel
  go_enter Try.func62, Try.ntmps62
  go_wp2
  go_loopw [4] (fun i wr => ∃ k : Nat, k ≤ n ∧ i = .int .i64 k ∧ Hid (Own wr w.heap.size 3 (.slice (some ⟨g, o, none⟩) n n) n (fun j => if j < k * 3 then bc xs j else .int .i64 0) ∧ Below w.heap.size w wr)) (fun i _ => n - (intOf i).toNat)
  case atStart => exact ⟨0, by omega, rfl, Lib.hid ⟨HO.out.congr (fun j _ => by rw [if_neg (by omega)]), HB.out⟩⟩
  case round =>
    rename_i wr
    obtain ⟨k, hk, rfl, HX⟩ := hrel
    by_cases hlt : k < n
    · obtain ⟨b, o2, rfl, hc⟩ := H3.out (by omega)
      have c0 := hc (k * 3) (by omega)
      have c1 := hc (k * 3 + 1) (by omega)
      have c2 := hc (k * 3 + 2) (by omega)
      rw [← HX.out.2.cell (World.block_lt_of_cell? w _ c0), bc0] at c0
      rw [← HX.out.2.cell (World.block_lt_of_cell? w _ c1), bc1, ← Nat.add_assoc] at c1
      rw [← HX.out.2.cell (World.block_lt_of_cell? w _ c2), bc2, ← Nat.add_assoc] at c2
      have HT0 := Lib.hid (bc0 xs k)
      have HT1 := Lib.hid (bc1 xs k)
      have HT2 := Lib.hid (bc2 xs k)
      clear hc
      generalize xs.getD k (0, 0, 0) = y at *
      obtain ⟨y0, y1, y2⟩ := y
      simp only at c0 c1 c2
      go_wp2_with fail
      refine (toBlock y0 y1 y2 wr).mono ?_
      rintro e w2 ⟨rfl, hb⟩
      have HX2 := Lib.hid (show Own w2 w.heap.size 3 (.slice (some ⟨g, o, none⟩) n n) n (fun j => if j < k * 3 then bc xs j else .int .i64 0) ∧ Below w.heap.size w w2 from ⟨HX.out.1.below hb, HX.out.2.trans (hb.mono HX.out.2.size)⟩)
      clear hb c0 c1 c2
      obtain ⟨b', o', e', hb', hc'⟩ := HX2.out.1.at (by omega)
      obtain ⟨rfl, rfl⟩ : g = b' ∧ o = o' := by simpa using e'
      obtain ⟨c3, f3⟩ := hc' (k * 3) (by omega)
      obtain ⟨c4, f4⟩ := hc' (k * 3 + 1) (by omega)
      obtain ⟨c5, f5⟩ := hc' (k * 3 + 2) (by omega)
      have HG := Lib.hid hb'
      rw [← Nat.add_assoc] at c4 f4 c5 f5
      clear hc' hb' e'
      go_wp2
      go_roundw
      case rel =>
        refine ⟨k + 1, by omega, by go_num, Lib.hid ⟨(((HX2.out.1.set (k * 3) (by omega) _).set (k * 3 + 1) (by omega) _).set (k * 3 + 2) (by omega) _).congr (fun j hj => ?_), ((HX2.out.2.setCell HG.out _).setCell HG.out _).setCell HG.out _⟩⟩
        show (if j = k * 3 + 2 then _ else if j = k * 3 + 1 then _ else if j = k * 3 then _ else if j < k * 3 then _ else _) = if j < (k + 1) * 3 then _ else _
        by_cases ej3 : j = k * 3 + 2
        · rw [if_pos ej3, if_pos (by omega), ej3, HT2.out]
        · rw [if_neg ej3]
          by_cases ej : j = k * 3 + 1
          · rw [if_pos ej, if_pos (by omega), ej, HT1.out]
          · rw [if_neg ej]
            by_cases ej2 : j = k * 3
            · rw [if_pos ej2, if_pos (by omega), ej2, HT0.out]
            · rw [if_neg ej2]
              by_cases h5 : j < k * 3
              · rw [if_pos h5, if_pos (by omega)]
              · rw [if_neg h5, if_neg (by omega)]
      case measure => simp [intOf]; omega
    · have hk2 := Lib.hid (show k = n by omega)
      go_wp2
      go_ret
      exact ⟨_, rfl, HX.out.1.congr (fun j hj => by rw [if_pos (by rw [hk2.out]; omega)]), HX.out.2⟩

/-- A slice of slices of the call's own, of which the first k are laid. -/
structure Part (w : World) (base g o n : Nat) (bss : List (List Bk)) (vs : Nat → Value) (k : Nat) : Prop where
  out : Own w base 1 (.slice (some ⟨g, o, none⟩) n n) n (fun j => if j < k then vs j else .slice none 0 0)
  inn : ∀ j, j < k → Own w base 3 (vs j) (bss.getD j []).length (bc (bss.getD j []))
  off : ∀ j, j < k → Apart (.slice (some ⟨g, o, none⟩) n n) (vs j)
  each : ∀ i j, i < k → j < k → i ≠ j → Apart (vs i) (vs j)
theorem part_step {wr w2 : World} {base g o n : Nat} {bss : List (List Bk)} {vs : Nat → Value} {k : Nat} {r : Value} (h : Part wr base g o n bss vs k) (hk : k < n) (hb : Below wr.heap.size wr w2) (hB : base ≤ wr.heap.size) (ho : Own w2 wr.heap.size 3 r (bss.getD k []).length (bc (bss.getD k []))) :
    Part (w2.setCell ⟨g, o + k, none⟩ r) base g o n bss (fun j => if j = k then r else vs j) (k + 1) := by
  have hg : g < wr.heap.size := by
    obtain ⟨b, o', e, _, hc⟩ := h.out.at (by omega)
    obtain ⟨rfl, rfl⟩ : g = b ∧ o = o' := by simpa using e
    exact World.block_lt_of_cell? wr _ (hc 0 (by omega)).1
  have hr : Off r g := own_low ho g hg
  refine ⟨((h.out.below hb).set k (by omega) r).congr fun j hj => ?_, fun j hj => ?_, fun j hj => ?_, fun i j hi hj hn => ?_⟩
  · show (if j = k then r else if j < k then vs j else _) = if j < k + 1 then (if j = k then r else vs j) else _
    by_cases e : j = k
    · rw [if_pos e, if_pos (by omega), if_pos e]
    · rw [if_neg e, if_neg e]
      by_cases h5 : j < k
      · rw [if_pos h5, if_pos (by omega)]
      · rw [if_neg h5, if_neg (by omega)]
  · show Own _ _ _ (if j = k then r else vs j) _ _
    by_cases e : j = k
    · rw [if_pos e, e]
      exact own_set_off (ho.base hB) hr _ _
    · rw [if_neg e]
      exact own_set_off ((h.inn j (by omega)).below hb) (h.off j (by omega) _ _ _ rfl (by omega)) _ _
  · show Apart _ (if j = k then r else vs j)
    by_cases e : j = k
    · rw [if_pos e]
      exact apart_of h.out.sl (by omega) ho (Nat.le_refl _)
    · rw [if_neg e]
      exact h.off j (by omega)
  · show Apart (if i = k then r else vs i) (if j = k then r else vs j)
    by_cases e : i = k
    · rw [if_pos e, if_neg (by omega)]
      exact (apart_of (h.inn j (by omega)).sl (by omega) ho (Nat.le_refl _)).symm
    · rw [if_neg e]
      by_cases e2 : j = k
      · rw [if_pos e2]
        exact apart_of (h.inn i (by omega)).sl (by omega) ho (Nat.le_refl _)
      · rw [if_neg e2]
        exact h.each i j (by omega) (by omega) hn

set_option maxRecDepth 100000 in
set_option maxHeartbeats 800000 in
theorem toBlockSS (w : World) (v : Value) (bss : List (List Bk)) (h : Ns w v bss) (hn : bss.length ≤ 1048576) (hs : ∀ j, j < bss.length → (bss.getD j []).length ≤ 1048576) :
    Calls Try.prog 63 #[v] w fun e w' => ∃ r vs, e = .returned r ∧ NsO w' w.heap.size r bss vs ∧ Below w.heap.size w w' := by
  obtain ⟨us, ⟨a, cap, rfl, h1, h2, h3⟩, hin⟩ := h
  have H3 := Lib.hid h3
  have HI := Lib.hid hin
  have HS := Lib.hid hs
  clear h3 hin hs
  unfold maxLen at h2
  generalize en : bss.length = n at *
  have EN := Lib.hid en
  clear en
  obtain ⟨g, o, w1, hmk, hown, hbel⟩ := made (P := Try.prog) w 29 28 1 (.slice none 0 0) 24 Try.underlying29 infoBS n (by omega) (by unfold maxLen; omega) (fun _ => .slice none 0 0) (LawS.made_one _ rfl n)
  have HO := Lib.hid hown
  have HB := Lib.hid hbel
  clear hown hbel
  go_enter Try.func63, Try.ntmps63
  go_wp2
  go_loopw [4] (fun i wr => ∃ k : Nat, k ≤ n ∧ i = .int .i64 k ∧ Hid ((∃ vs, Part wr w.heap.size g o n bss vs k) ∧ Below w.heap.size w wr)) (fun i _ => n - (intOf i).toNat)
  case atStart => exact ⟨0, by omega, rfl, Lib.hid ⟨⟨fun _ => .slice none 0 0, HO.out.congr (fun j _ => by rw [if_neg (by omega)]), fun j hj => by omega, fun j hj => by omega, fun i j hi => by omega⟩, HB.out⟩⟩
  case round =>
    rename_i wr
    obtain ⟨k, hk, rfl, HX⟩ := hrel
    by_cases hlt : k < n
    · obtain ⟨b, o2, rfl, hc⟩ := H3.out (by omega)
      have c0 := hc k (by omega)
      rw [← HX.out.2.cell (World.block_lt_of_cell? w _ c0)] at c0
      have HU := Lib.hid ((HI.out k hlt).below HX.out.2)
      have HL := Lib.hid (HS.out k hlt)
      have HST := Lib.hid (fun (vs : Nat → Value) (w2 : World) (r : Value) (hp : Part wr w.heap.size g o n bss vs k) (hb : Below wr.heap.size wr w2) (ho : Own w2 wr.heap.size 3 r (bss.getD k []).length (bc (bss.getD k []))) => part_step hp hlt hb HX.out.2.size ho)
      clear hc
      generalize bss.getD k [] = xs at *
      obtain ⟨a2, cap2, e2, _, _⟩ := HU.out.form
      rw [e2] at c0 HU
      go_wp2_with fail
      refine (toBlockS wr _ xs HU.out HL.out).mono ?_
      rintro e w2 ⟨r, rfl, ho, hb⟩
      have HB2 := Lib.hid (HX.out.2.trans (hb.mono HX.out.2.size))
      have HP := Lib.hid (show ∃ vs, Part (w2.setCell ⟨g, o + k, none⟩ r) w.heap.size g o n bss vs (k + 1) from by
        obtain ⟨vs, hp⟩ := HX.out.1
        exact ⟨_, HST.out vs w2 r hp hb ho⟩)
      obtain ⟨b', o', e', hb', hc'⟩ := (show ∃ b' o', (some ⟨g, o, none⟩ : Option Addr) = some ⟨b', o', none⟩ ∧ w.heap.size ≤ b' ∧ ∀ j, j < n * 1 → (∃ u, w2.cell? ⟨b', o' + j, none⟩ = some u) ∧ w2.frozen? ⟨b', o' + j, none⟩ = false from by
        obtain ⟨vs, hp⟩ := HX.out.1
        obtain ⟨b', o', e', hb', hc'⟩ := (hp.out.below hb).at (by omega)
        exact ⟨b', o', e', hb', fun j hj => ⟨⟨_, (hc' j hj).1⟩, (hc' j hj).2⟩⟩)
      obtain ⟨rfl, rfl⟩ : g = b' ∧ o = o' := by simpa using e'
      obtain ⟨⟨u0, c3⟩, f3⟩ := hc' k (by omega)
      have HG := Lib.hid hb'
      obtain ⟨a4, cap4, rfl, _, _⟩ := ho.sl.form
      clear hc' hb' e' ho hb c0
      go_wp2
      go_roundw
      case rel => exact ⟨k + 1, by omega, by go_num, Lib.hid ⟨HP.out, HB2.out.setCell HG.out _⟩⟩
      case measure => simp [intOf]; omega
    · have hk2 := Lib.hid (show k = n by omega)
      go_wp2
      go_ret
      obtain ⟨vs, hp⟩ := HX.out.1
      rw [hk2.out] at hp
      refine ⟨_, vs, rfl, ?_, HX.out.2⟩
      refine ⟨?_, ?_, ?_, ?_⟩ <;> rw [EN.out]
      · exact hp.out.congr (fun j hj => by rw [if_pos (by omega)])
      · exact hp.inn
      · exact hp.off
      · exact hp.each

set_option maxRecDepth 100000 in
set_option maxHeartbeats 800000 in
theorem markBlockS (w : World) (base : Nat) (v : Value) (n : Nat) (c : Nat → Value) (h : Own w base 3 v n c) (k : Nat) (hk : k + n * 3 ≤ 10000000) :
    Calls Try.prog 72 #[v, .int .i64 k] w fun e w' => e = .returned (.int .i64 ((k + n * 3 : Nat) : Int)) ∧ Own w' base 3 v n (mi k) ∧ Turns [v] w w' := by
  obtain ⟨a, cap, rfl, h1, h2, h3⟩ := h
  have HO := Lib.hid (show Own w base 3 (.slice a n cap) n c from ⟨a, cap, rfl, h1, h2, h3⟩)
  clear h3
  unfold maxLen at h2
  go_enter Try.func72, Try.ntmps72
  go_wp2
  go_loopw [1, 5] (fun q i wr => ∃ j m : Nat, j ≤ n ∧ q = .int .i64 m ∧ i = .int .i64 j ∧ Hid (m = k + j * 3 ∧ Own wr base 3 (.slice a n cap) n (fun l => if l < j * 3 then mi k l else c l) ∧ Turns [.slice a n cap] w wr)) (fun q i _ => n - (intOf i).toNat)
  case atStart => exact ⟨0, k, by omega, rfl, rfl, Lib.hid ⟨rfl, HO.out.congr (fun j _ => by rw [if_neg (by omega)]), Turns.refl _ _⟩⟩
  case round =>
    rename_i wr
    obtain ⟨j, m, hj, rfl, rfl, HX⟩ := hrel
    by_cases hlt : j < n
    · have hm : m ≤ 10000000 := by have := HX.out.1; omega
      obtain ⟨b, o, rfl, hb', hc'⟩ := HX.out.2.1.at (by omega)
      obtain ⟨c0, f0⟩ := hc' (j * 3) (by omega)
      obtain ⟨c1, f1⟩ := hc' (j * 3 + 1) (by omega)
      obtain ⟨c2, f2⟩ := hc' (j * 3 + 2) (by omega)
      rw [← Nat.add_assoc] at c1 f1 c2 f2
      have HE0 := Lib.hid (show mi k (j * 3) = .int .i64 (m : Int) by unfold mi; rw [HX.out.1])
      have HE1 := Lib.hid (show mi k (j * 3 + 1) = .int .i64 ((m : Int) + 1) by unfold mi; rw [HX.out.1]; congr 1)
      have HE2 := Lib.hid (show mi k (j * 3 + 2) = .int .i64 ((m : Int) + 1 + 1) by unfold mi; rw [HX.out.1]; congr 1)
      generalize (if j * 3 < j * 3 then mi k (j * 3) else c (j * 3)) = d0 at *
      generalize (if j * 3 + 1 < j * 3 then mi k (j * 3 + 1) else c (j * 3 + 1)) = d1 at *
      generalize (if j * 3 + 2 < j * 3 then mi k (j * 3 + 2) else c (j * 3 + 2)) = d2 at *
      clear hc' hb'
      go_wp2
      go_roundw
      case rel =>
        refine ⟨j + 1, m + 3, by omega, by first | go_num | (congr 1; omega), by go_num, Lib.hid ⟨by have := HX.out.1; omega, (((HX.out.2.1.set (j * 3) (by omega) _).set (j * 3 + 1) (by omega) _).set (j * 3 + 2) (by omega) _).congr (fun l hl => ?_), ((HX.out.2.2.set (o := o) (n := n) (cap := cap) (by simp) (by omega) _ _).set (o := o) (n := n) (cap := cap) (by simp) (by omega) _ _).set (o := o) (n := n) (cap := cap) (by simp) (by omega) _ _⟩⟩
        show (if l = j * 3 + 2 then _ else if l = j * 3 + 1 then _ else if l = j * 3 then _ else if l < j * 3 then _ else _) = if l < (j + 1) * 3 then _ else _
        by_cases ej3 : l = j * 3 + 2
        · rw [if_pos ej3, if_pos (by omega), ej3, HE2.out]
        · rw [if_neg ej3]
          by_cases ej : l = j * 3 + 1
          · rw [if_pos ej, if_pos (by omega), ej, HE1.out]
          · rw [if_neg ej]
            by_cases ej2 : l = j * 3
            · rw [if_pos ej2, if_pos (by omega), ej2, HE0.out]
            · rw [if_neg ej2]
              by_cases h5 : l < j * 3
              · rw [if_pos h5, if_pos (by omega)]
              · rw [if_neg h5, if_neg (by omega)]
      case measure => simp [intOf]; omega
    · have hj2 := Lib.hid (show j = n by omega)
      go_wp2
      go_ret
      refine ⟨?_, HX.out.2.1.congr (fun l hl => by rw [if_pos (by rw [hj2.out]; omega)]), HX.out.2.2⟩
      show Ending.returned (Value.int .i64 (m : Int)) = _
      rw [HX.out.1, hj2.out]

set_option maxRecDepth 100000 in
set_option maxHeartbeats 800000 in
theorem heldBlockS (w : World) (v : Value) (n : Nat) (k : Nat) (h : Sl w 3 v n (mi k)) (hk : k + n * 3 ≤ 10000000) :
    Calls Try.prog 75 #[v, .int .i64 k] w fun e w' => e = .returned (.int .i64 ((k + n * 3 : Nat) : Int)) ∧ w' = w := by
  obtain ⟨a, cap, rfl, h1, h2, h3⟩ := h
  have H3 := Lib.hid h3
  clear h3
  unfold maxLen at h2
  go_enter Try.func75, Try.ntmps75
  go_wp2
  go_loopw [1, 5] (fun q i wr => ∃ j m : Nat, j ≤ n ∧ q = .int .i64 m ∧ i = .int .i64 j ∧ w = wr ∧ Hid (m = k + j * 3)) (fun q i _ => n - (intOf i).toNat)
  case atStart => exact ⟨0, k, by omega, rfl, rfl, rfl, Lib.hid rfl⟩
  case round =>
    obtain ⟨j, m, hj, rfl, rfl, rfl, HX⟩ := hrel
    by_cases hlt : j < n
    · have hm : m ≤ 10000000 := by have := HX.out; omega
      obtain ⟨b, o, rfl, hc⟩ := H3.out (by omega)
      have c0 := hc (j * 3) (by omega)
      have c1 := hc (j * 3 + 1) (by omega)
      have c2 := hc (j * 3 + 2) (by omega)
      rw [show mi k (j * 3) = .int .i64 (m : Int) by unfold mi; rw [HX.out]] at c0
      rw [show mi k (j * 3 + 1) = .int .i64 ((m : Int) + 1) by unfold mi; rw [HX.out]; congr 1, ← Nat.add_assoc] at c1
      rw [show mi k (j * 3 + 2) = .int .i64 ((m : Int) + 1 + 1) by unfold mi; rw [HX.out]; congr 1, ← Nat.add_assoc] at c2
      clear hc
      have i1 : (j : Int) < (n : Int) := by omega
      have i3 : (0 : Int) ≤ (j : Int) := by omega
      go_wp2
      go_roundw
      case rel => exact ⟨j + 1, m + 3, by omega, by first | go_num | (congr 1; omega), by go_num, by trivial, Lib.hid (by have := HX.out; omega)⟩
      case measure => simp [intOf]; omega
    · have hj2 := Lib.hid (show j = n by omega)
      go_wp2
      go_ret
      refine ⟨?_, rfl⟩
      show Ending.returned (Value.int .i64 (m : Int)) = _
      rw [HX.out, hj2.out]
end Go.Proofs.Ytealdpkgfmokpaa.LawO2
