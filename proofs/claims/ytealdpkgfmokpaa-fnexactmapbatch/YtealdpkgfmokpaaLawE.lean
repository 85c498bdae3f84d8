/-
  What is proved: entries (pairs of numbers): how a slice of them that comes in is read, and the laws' functions on such slices: their size counted, copied, compared, marked (contracts for the walks).
-/
import Derived.Test.YtealdpkgfmokpaaRows
import Derived.Test.YtealdpkgfmokpaaOrm
import Derived.Test.YtealdpkgfmokpaaLawN
import Derived.Deep.RegionHeld3
import Derived.Deep.RegionWith
namespace Go.Proofs.Ytealdpkgfmokpaa.LawE
open Go.ChangeShapes Go.WideShapes Go.ChangeAt Go.RowKit Go.Joins Go.Deep
open Sl (Sl Own Off)
open OpenSl (tc nc pc)
open Dev Orm
open LawN (mi)
set_option linter.unusedVariables false

/-- An entry: its key, its value; entries' cells. -/
abbrev En := Int × Int
def ev (x : En) : Value := .agg #[.int .i64 x.1, .int .i64 x.2]
def ec (xs : List En) (j : Nat) : Value := .int .i64 (if j % 2 = 0 then (xs.getD (j / 2) (0, 0)).1 else (xs.getD (j / 2) (0, 0)).2)
theorem ec0 (xs : List En) (k : Nat) : ec xs (k * 2) = .int .i64 (xs.getD k (0, 0)).1 := by
  unfold ec; rw [if_pos (by omega), show k * 2 / 2 = k by omega]
theorem ec1 (xs : List En) (k : Nat) : ec xs (k * 2 + 1) = .int .i64 (xs.getD k (0, 0)).2 := by
  unfold ec; rw [if_neg (by omega), show (k * 2 + 1) / 2 = k by omega]
theorem ec_one (xs : List En) (j : Nat) : (ec xs j).oneCell' = true := rfl
theorem ec_ext {xs ys : List En} {j n : Nat} (hj : j < n * 2) (h : ∀ k, k < n → xs.getD k (0, 0) = ys.getD k (0, 0)) : ec xs j = ec ys j := by
  unfold ec; rw [h (j / 2) (by omega)]

section
variable {H : Type} {enc : TypeId × Value → H} {P : Program} {w : World} {base : Nat} {spare : Nat → Bool} {held : Bool}
theorem couples {t e : TypeId} {f0 f1 : Field} {fuel : Nat} {v : Value} {x : DataW H × List MemPlace} (ht : P.underlying t = some (.slice e)) (he : P.underlying e = some (.struct #[f0, f1])) (hone : oneCellFields P #[f0, f1] = true) (hC : P.cellsOf e = 2)
    (h0 : P.underlying f0.type = some (.int .i64)) (h1 : P.underlying f1.type = some (.int .i64)) (h : DataW.trod enc P w base spare held fuel t [v] = some x) :
    ∃ xs : List En, Sl w 2 v xs.length (ec xs) ∧ ∀ y ∈ xs, (Lit.int .i64 y.1).wf = true ∧ (Lit.int .i64 y.2).wf = true := by
  rcases open_slice ht h with ⟨hcs, _⟩ | ⟨a, len, cap, m, n, D, Pl, hcs, hb, hl, hm, hmm, _, hi⟩
  · obtain rfl : v = .slice none 0 0 := by simpa using hcs
    exact ⟨[], ⟨none, 0, rfl, Nat.le_refl _, by unfold maxLen; omega, fun h => by simp at h⟩, fun s hs => by simp at hs⟩
  · obtain rfl : v = .slice (some a) len cap := by simpa using hcs
    have hlm : len ≤ m := by rw [hmm]; split <;> omega
    have each : ∀ i, ∃ y : En, i < len → w.cell? (a.add (i * 2)) = some (.int .i64 y.1) ∧ w.cell? ((a.add (i * 2)).add 1) = some (.int .i64 y.2) ∧ (Lit.int .i64 y.1).wf = true ∧ (Lit.int .i64 y.2).wf = true := by
      intro i
      by_cases hlt : i < len
      · obtain ⟨cs', hc, ht'⟩ := hi i (by omega)
        rw [hC] at hc
        obtain ⟨y0, y1, n', _, _, k0, k1⟩ := trod_struct2 he ht'
        obtain ⟨o0, c0⟩ := hone_of hone 0 f0 rfl
        obtain ⟨o1, c1⟩ := hone_of hone 1 f1 rfl
        obtain ⟨_, hcl, hat⟩ := World.cells?_some hc
        match cs', hcl, hat, k0, k1 with
        | [u0, u1], _, hat, k0, k1 =>
          rw [o0, c0] at k0
          rw [o1, c1] at k1
          obtain ⟨z0, e0, _, w0⟩ := DataW.trod_int h0 (show DataW.trod enc P w base spare held n' f0.type [u0] = _ from k0)
          obtain ⟨z1, e1, _, w1⟩ := DataW.trod_int h1 (show DataW.trod enc P w base spare held n' f1.type [u1] = _ from k1)
          have q0 := hat 0 (by omega)
          have q1 := hat 1 (by omega)
          obtain rfl : u0 = .int .i64 z0 := by simpa using e0
          obtain rfl : u1 = .int .i64 z1 := by simpa using e1
          exact ⟨(z0, z1), fun _ => ⟨by simpa [Addr.add] using q0, by simpa using q1, w0, w1⟩⟩
      · exact ⟨(0, 0), fun h => absurd h hlt⟩
    obtain ⟨f, hf⟩ := Classical.axiomOfChoice each
    have hlen : ((List.range len).map f).length = len := by simp
    refine ⟨(List.range len).map f, ?_, fun y hy => ?_⟩
    · rw [hlen]
      refine ⟨some a, cap, rfl, hl, hm, fun hn => ?_⟩
      obtain ⟨b, o, rfl⟩ := OpenSl.spot_none (by simpa [Addr.add] using (hf 0 hn).1)
      refine ⟨b, o, rfl, fun j hj => ?_⟩
      have hj2 : j / 2 < len := by omega
      have hg : ((List.range len).map f).getD (j / 2) (0, 0) = f (j / 2) := by simp [List.getD_eq_getElem?_getD, hj2]
      unfold ec
      rw [hg]
      obtain ⟨g0, g1, _, _⟩ := hf (j / 2) hj2
      rw [OpenSl.add_none, OpenSl.add_none] at g1
      rw [OpenSl.add_none] at g0
      by_cases hp : j % 2 = 0
      · rw [if_pos hp, show o + j = o + j / 2 * 2 by omega]
        exact g0
      · rw [if_neg hp, show o + j = o + j / 2 * 2 + 1 by omega]
        exact g1
    · obtain ⟨i, hi2, rfl⟩ := List.mem_map.1 hy
      obtain ⟨_, _, g2, g3⟩ := hf i (by simpa using hi2)
      exact ⟨g2, g3⟩
end
theorem cellsE : Try.prog.cellsOf 119 = 2 := by kernel_rfl
set_option maxRecDepth 100000 in
/-- A map's entries that come in. -/
theorem open_map {H : Type} {enc : TypeId × Value → H} {W : World} {base : Nat} {spare : Nat → Bool} {held : Bool} {v : Value} {d : DataW H} {p : List MemPlace}
    (h : DataW.Trod enc Try.prog W base spare held 41 v d p) (hform : ∃ a n cap, v = .slice a n cap) : ∃ xs : List En, Sl W 2 v xs.length (ec xs) ∧ ∀ y ∈ xs, (Lit.int .i64 y.1).wf = true ∧ (Lit.int .i64 y.2).wf = true := by
  obtain ⟨a, n, cap, rfl⟩ := hform
  obtain ⟨fuel, hf⟩ := h
  exact couples Try.underlying41 Try.underlying119 (by kernel_rfl) cellsE Try.underlying3 Try.underlying3 hf

theorem szEntryS (w : World) (v : Value) (xs : List En) (h : Sl w 2 v xs.length (ec xs)) (L : Nat) (hL : L ≤ 1048576) :
    Calls Try.prog 19 #[v, .int .i64 L] w fun e w' => (∃ r : Int, e = .returned (.int .i64 r) ∧ (r = -1 ∨ ∃ R : Nat, r = R ∧ R + xs.length = L)) ∧ w' = w := by
  obtain ⟨a, cap, rfl, h1, h2, h3⟩ := h
  clear h3
  unfold maxLen at h2
  by_cases hlt : L < xs.length
  · go_enter Try.func19, Try.ntmps19
    go_wp2
    go_ret
    exact ⟨⟨_, rfl, .inl rfl⟩, rfl⟩
  · obtain ⟨R, eR⟩ : ∃ R, L - xs.length = R := ⟨_, rfl⟩
    have hR : R + xs.length = L := by omega
    have e1 : (L : Int) - (xs.length : Int) = (R : Int) := by omega
    have HR := Lib.hid hR
    go_enter Try.func19, Try.ntmps19
    go_wp2
    go_ret
    exact ⟨⟨_, rfl, .inr ⟨R, rfl, HR.out⟩⟩, rfl⟩


theorem eqEntry (x y : Int) (w : World) :
    Calls Try.prog 89 #[.agg #[.int .i64 x, .int .i64 y], .agg #[.int .i64 x, .int .i64 y]] w fun e w' => e = .returned (.bool true) ∧ Below w.heap.size w w' := by
  go_enter Try.func89, Try.ntmps89
  go_wp2
  go_ret
  exact ⟨rfl, ((Below.refl _ _).alloc (Nat.le_refl _) _).alloc (by simp) _⟩
theorem toEntry (x y : Int) (w : World) :
    Calls Try.prog 82 #[.agg #[.int .i64 x, .int .i64 y]] w fun e w' => e = .returned (.agg #[.int .i64 x, .int .i64 y]) ∧ Below w.heap.size w w' := by
  go_enter Try.func82, Try.ntmps82
  go_wp2
  refine bodyPost_ret (v := .agg #[.int .i64 x, .int .i64 y]) (by simp [results, Try.results82, go_sem]) rfl ⟨rfl, ?_⟩
  repeat (first | exact Below.refl _ _ | refine Below.alloc ?_ (by simp; try omega) _ | refine Below.setCell ?_ (by simp; try omega) _)

set_option maxRecDepth 100000 in
set_option maxHeartbeats 800000 in
theorem eqEntryS (w : World) (u v : Value) (xs : List En) (hu : Sl w 2 u xs.length (ec xs)) (hv : Sl w 2 v xs.length (ec xs)) :
    Calls Try.prog 25 #[u, v] w fun e w' => e = .returned (.bool true) ∧ Below w.heap.size w w' := by
  obtain ⟨a, cap, rfl, h1, h2, h3⟩ := hu
  obtain ⟨a', cap', rfl, h1', h2', h3'⟩ := hv
  have H3 := Lib.hid h3
  have H3' := Lib.hid h3'
  clear h3 h3'
  unfold maxLen at h2 h2'
  generalize xs.length = n at *
  go_enter Try.func25, Try.ntmps25
  go_wp2
  go_loopw [5] (fun i wr => ∃ k : Nat, k ≤ n ∧ i = .int .i64 k ∧ Hid (Below w.heap.size w wr)) (fun i _ => n - (intOf i).toNat)
  case atStart => exact ⟨0, by omega, rfl, Lib.hid (Below.refl _ _)⟩
  case round =>
    rename_i wr
    obtain ⟨k, hk, rfl, HB⟩ := hrel
    by_cases hlt : k < n
    · obtain ⟨b, o, rfl, hc⟩ := H3.out (by omega)
      obtain ⟨b', o', rfl, hc'⟩ := H3'.out (by omega)
      have c0 := hc (k * 2) (by omega)
      have c1 := hc (k * 2 + 1) (by omega)
      have d0 := hc' (k * 2) (by omega)
      have d1 := hc' (k * 2 + 1) (by omega)
      rw [← HB.out.cell (World.block_lt_of_cell? w _ c0)] at c0
      rw [← HB.out.cell (World.block_lt_of_cell? w _ c1)] at c1
      rw [← HB.out.cell (World.block_lt_of_cell? w _ d0)] at d0
      rw [← HB.out.cell (World.block_lt_of_cell? w _ d1)] at d1
      rw [ec0] at c0 d0
      rw [ec1] at c1 d1
      clear hc hc'
      generalize xs.getD k _ = y at *
      obtain ⟨y0, y1⟩ := y
      simp only at c0 c1 d0 d1
      rw [← Nat.add_assoc] at c1 d1
      have i1 : (k : Int) < (n : Int) := by omega
      have i3 : (0 : Int) ≤ (k : Int) := by omega
      go_wp2
      go_region_with ((go_at_call 89; refine (eqEntry y0 y1 _).mono ?_; rintro e u1 ⟨rfl, hb⟩))
      all_goals
        have HB2 := Lib.hid ((below_drewN HB.out _).trans (hb.mono HB.out.size))
        clear hb
        go_wp2
        go_roundw
        case rel => exact ⟨k + 1, by omega, by go_num, HB2⟩
        case measure => simp [intOf]; omega
    · go_wp2
      go_ret
      exact ⟨rfl, HB.out⟩


theorem infoB : (Try.prog.info? 117).map (fun i => (i.zero, i.size, i.bytes)) = some (some (.agg #[.int .i64 0, .int .i64 0]), 2, 16) := by kernel_rfl
theorem made_two (n : Nat) : ∀ j, j < n * 2 → (madeCells (Value.agg #[.int .i64 0, .int .i64 0]).cells (n * 2))[j]? = some (.int .i64 0) := by
  intro j hj
  show ((Array.range (n * 2)).map _)[j]? = _
  rw [Array.getElem?_map, Array.getElem?_range, if_pos hj]
  show some ((#[Value.int .i64 0, Value.int .i64 0] : Array Value)[j % 2]!) = _
  have h : j % 2 = 0 ∨ j % 2 = 1 := by omega
  rcases h with h | h <;> rw [h] <;> rfl

set_option maxRecDepth 100000 in
set_option maxHeartbeats 800000 in
theorem toEntryS (w : World) (v : Value) (xs : List En) (h : Sl w 2 v xs.length (ec xs)) (hn : xs.length ≤ 1048576) :
    Calls Try.prog 22 #[v] w fun e w' => ∃ r, e = .returned r ∧ Own w' w.heap.size 2 r xs.length (ec xs) ∧ Below w.heap.size w w' := by
  obtain ⟨a, cap, rfl, h1, h2, h3⟩ := h
  have H3 := Lib.hid h3
  clear h3
  unfold maxLen at h2
  generalize xs.length = n at *
  obtain ⟨g, o, w1, hmk, hown, hbel⟩ := made (P := Try.prog) w 47 117 2 (.agg #[.int .i64 0, .int .i64 0]) 16 Try.underlying47 infoB n (by omega) (by unfold maxLen; omega) (fun _ => .int .i64 0) (made_two n)
  have HO := Lib.hid hown
  have HB := Lib.hid hbel
  clear hown hbel
  go_enter Try.func22, Try.ntmps22
  go_wp2
  go_loopw [4] (fun i wr => ∃ k : Nat, k ≤ n ∧ i = .int .i64 k ∧ Hid (Own wr w.heap.size 2 (.slice (some ⟨g, o, none⟩) n n) n (fun j => if j < k * 2 then ec xs j else .int .i64 0) ∧ Below w.heap.size w wr)) (fun i _ => n - (intOf i).toNat)
  case atStart => exact ⟨0, by omega, rfl, Lib.hid ⟨HO.out.congr (fun j _ => by rw [if_neg (by omega)]), HB.out⟩⟩
  case round =>
    rename_i wr
    obtain ⟨k, hk, rfl, HX⟩ := hrel
    by_cases hlt : k < n
    · obtain ⟨b, o2, rfl, hc⟩ := H3.out (by omega)
      have c0 := hc (k * 2) (by omega)
      have c1 := hc (k * 2 + 1) (by omega)
      rw [← HX.out.2.cell (World.block_lt_of_cell? w _ c0), ec0] at c0
      rw [← HX.out.2.cell (World.block_lt_of_cell? w _ c1), ec1, ← Nat.add_assoc] at c1
      have HT0 := Lib.hid (ec0 xs k)
      have HT1 := Lib.hid (ec1 xs k)
      clear hc
      generalize xs.getD k (0, 0) = y at *
      obtain ⟨y0, y1⟩ := y
      simp only at c0 c1
      go_wp2_with fail
      refine (toEntry y0 y1 wr).mono ?_
      rintro e w2 ⟨rfl, hb⟩
      have HX2 := Lib.hid (show Own w2 w.heap.size 2 (.slice (some ⟨g, o, none⟩) n n) n (fun j => if j < k * 2 then ec xs j else .int .i64 0) ∧ Below w.heap.size w w2 from ⟨HX.out.1.below hb, HX.out.2.trans (hb.mono HX.out.2.size)⟩)
      clear hb c0 c1
      obtain ⟨b', o', e', hb', hc'⟩ := HX2.out.1.at (by omega)
      obtain ⟨rfl, rfl⟩ : g = b' ∧ o = o' := by simpa using e'
      obtain ⟨c3, f3⟩ := hc' (k * 2) (by omega)
      obtain ⟨c4, f4⟩ := hc' (k * 2 + 1) (by omega)
      have HG := Lib.hid hb'
      rw [← Nat.add_assoc] at c4 f4
      clear hc' hb' e'
      go_wp2
      go_roundw
      case rel =>
        refine ⟨k + 1, by omega, by go_num, Lib.hid ⟨((HX2.out.1.set (k * 2) (by omega) _).set (k * 2 + 1) (by omega) _).congr (fun j hj => ?_), (HX2.out.2.setCell HG.out _).setCell HG.out _⟩⟩
        show (if j = k * 2 + 1 then _ else if j = k * 2 then _ else if j < k * 2 then _ else _) = if j < (k + 1) * 2 then _ else _
        by_cases ej : j = k * 2 + 1
        · rw [if_pos ej, if_pos (by omega), ej, HT1.out]
        · rw [if_neg ej]
          by_cases ej2 : j = k * 2
          · rw [if_pos ej2, if_pos (by omega), ej2, HT0.out]
          · rw [if_neg ej2]
            by_cases h5 : j < k * 2
            · rw [if_pos h5, if_pos (by omega)]
            · rw [if_neg h5, if_neg (by omega)]
      case measure => simp [intOf]; omega
    · have hk2 := Lib.hid (show k = n by omega)
      go_wp2
      go_ret
      exact ⟨_, rfl, HX.out.1.congr (fun j hj => by rw [if_pos (by rw [hk2.out]; omega)]), HX.out.2⟩


set_option maxRecDepth 100000 in
set_option maxHeartbeats 800000 in
theorem markEntryS (w : World) (base : Nat) (v : Value) (n : Nat) (c : Nat → Value) (h : Own w base 2 v n c) (k : Nat) (hk : k + n * 2 ≤ 10000000) :
    Calls Try.prog 28 #[v, .int .i64 k] w fun e w' => e = .returned (.int .i64 ((k + n * 2 : Nat) : Int)) ∧ Own w' base 2 v n (mi k) ∧ Turns [v] w w' := by
  obtain ⟨a, cap, rfl, h1, h2, h3⟩ := h
  have HO := Lib.hid (show Own w base 2 (.slice a n cap) n c from ⟨a, cap, rfl, h1, h2, h3⟩)
  clear h3
  unfold maxLen at h2
  go_enter Try.func28, Try.ntmps28
  go_wp2
  go_loopw [1, 5] (fun q i wr => ∃ j m : Nat, j ≤ n ∧ q = .int .i64 m ∧ i = .int .i64 j ∧ Hid (m = k + j * 2 ∧ Own wr base 2 (.slice a n cap) n (fun l => if l < j * 2 then mi k l else c l) ∧ Turns [.slice a n cap] w wr)) (fun q i _ => n - (intOf i).toNat)
  case atStart => exact ⟨0, k, by omega, rfl, rfl, Lib.hid ⟨rfl, HO.out.congr (fun j _ => by rw [if_neg (by omega)]), Turns.refl _ _⟩⟩
  case round =>
    rename_i wr
    obtain ⟨j, m, hj, rfl, rfl, HX⟩ := hrel
    by_cases hlt : j < n
    · have hm : m ≤ 10000000 := by have := HX.out.1; omega
      obtain ⟨b, o, rfl, hb', hc'⟩ := HX.out.2.1.at (by omega)
      obtain ⟨c0, f0⟩ := hc' (j * 2) (by omega)
      obtain ⟨c1, f1⟩ := hc' (j * 2 + 1) (by omega)
      rw [← Nat.add_assoc] at c1 f1
      have HE0 := Lib.hid (show mi k (j * 2) = .int .i64 (m : Int) by unfold mi; rw [HX.out.1])
      have HE1 := Lib.hid (show mi k (j * 2 + 1) = .int .i64 ((m : Int) + 1) by unfold mi; rw [HX.out.1]; congr 1)
      generalize (if j * 2 < j * 2 then mi k (j * 2) else c (j * 2)) = d0 at *
      generalize (if j * 2 + 1 < j * 2 then mi k (j * 2 + 1) else c (j * 2 + 1)) = d1 at *
      clear hc' hb'
      go_wp2
      go_roundw
      case rel =>
        refine ⟨j + 1, m + 2, by omega, by first | go_num | (congr 1; omega), by go_num, Lib.hid ⟨by have := HX.out.1; omega, ((HX.out.2.1.set (j * 2) (by omega) _).set (j * 2 + 1) (by omega) _).congr (fun l hl => ?_), (HX.out.2.2.set (o := o) (n := n) (cap := cap) (by simp) (by omega) _ _).set (o := o) (n := n) (cap := cap) (by simp) (by omega) _ _⟩⟩
        show (if l = j * 2 + 1 then _ else if l = j * 2 then _ else if l < j * 2 then _ else _) = if l < (j + 1) * 2 then _ else _
        by_cases ej : l = j * 2 + 1
        · rw [if_pos ej, if_pos (by omega), ej, HE1.out]
        · rw [if_neg ej]
          by_cases ej2 : l = j * 2
          · rw [if_pos ej2, if_pos (by omega), ej2, HE0.out]
          · rw [if_neg ej2]
            by_cases h5 : l < j * 2
            · rw [if_pos h5, if_pos (by omega)]
            · rw [if_neg h5, if_neg (by omega)]
      case measure => simp [intOf]; omega
    · have hj2 := Lib.hid (show j = n by omega)
      go_wp2
      go_ret
      refine ⟨?_, HX.out.2.1.congr (fun l hl => by rw [if_pos (by rw [hj2.out]; omega)]), HX.out.2.2⟩
      show Ending.returned (Value.int .i64 (m : Int)) = _
      rw [HX.out.1, hj2.out]


set_option maxRecDepth 100000 in
set_option maxHeartbeats 800000 in
theorem heldEntryS (w : World) (v : Value) (n : Nat) (k : Nat) (h : Sl w 2 v n (mi k)) (hk : k + n * 2 ≤ 10000000) :
    Calls Try.prog 31 #[v, .int .i64 k] w fun e w' => e = .returned (.int .i64 ((k + n * 2 : Nat) : Int)) ∧ w' = w := by
  obtain ⟨a, cap, rfl, h1, h2, h3⟩ := h
  have H3 := Lib.hid h3
  clear h3
  unfold maxLen at h2
  go_enter Try.func31, Try.ntmps31
  go_wp2
  go_loopw [1, 5] (fun q i wr => ∃ j m : Nat, j ≤ n ∧ q = .int .i64 m ∧ i = .int .i64 j ∧ w = wr ∧ Hid (m = k + j * 2)) (fun q i _ => n - (intOf i).toNat)
  case atStart => exact ⟨0, k, by omega, rfl, rfl, rfl, Lib.hid rfl⟩
  case round =>
    obtain ⟨j, m, hj, rfl, rfl, rfl, HX⟩ := hrel
    by_cases hlt : j < n
    · have hm : m ≤ 10000000 := by have := HX.out; omega
      obtain ⟨b, o, rfl, hc⟩ := H3.out (by omega)
      have c0 := hc (j * 2) (by omega)
      have c1 := hc (j * 2 + 1) (by omega)
      rw [show mi k (j * 2) = .int .i64 (m : Int) by unfold mi; rw [HX.out]] at c0
      rw [show mi k (j * 2 + 1) = .int .i64 ((m : Int) + 1) by unfold mi; rw [HX.out]; congr 1, ← Nat.add_assoc] at c1
      clear hc
      have i1 : (j : Int) < (n : Int) := by omega
      have i3 : (0 : Int) ≤ (j : Int) := by omega
      go_wp2
      go_roundw
      case rel => exact ⟨j + 1, m + 2, by omega, by first | go_num | (congr 1; omega), by go_num, by trivial, Lib.hid (by have := HX.out; omega)⟩
      case measure => simp [intOf]; omega
    · have hj2 := Lib.hid (show j = n by omega)
      go_wp2
      go_ret
      refine ⟨?_, rfl⟩
      show Ending.returned (Value.int .i64 (m : Int)) = _
      rw [HX.out, hj2.out]

end Go.Proofs.Ytealdpkgfmokpaa.LawE
