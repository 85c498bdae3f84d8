/-
  What is proved: plain facts on slices that share no block, on what a call leaves that turns some slices' blocks alone, and on a device's two slices (laws for the walks). Nothing of the program.
-/
import Derived.Test.YtealdpkgfmokpaaRows
import Derived.Test.YtealdpkgfmokpaaSl
import Derived.Test.YtealdpkgfmokpaaOpenSl
import Derived.Laws.OwnMore
import Derived.Laws.MakeOwn
namespace Go.Proofs.Ytealdpkgfmokpaa.Dev
open Go.ChangeShapes Go.WideShapes Go.ChangeAt Go.RowKit
open Sl (Sl Own Off)
open OpenSl (tc nc pc)
set_option linter.unusedVariables false

/-- No block holds cells of both. -/
def Apart (u v : Value) : Prop := ∀ a n cap, u = .slice (some a) n cap → 0 < n → Off v a.block
theorem Apart.symm {u v : Value} (h : Apart u v) : Apart v u := fun a n cap e hn a' n' cap' e' hn' he => h a' n' cap' e' hn' a n cap e hn he.symm
/-- Nothing but the blocks of the slices vs has turned. -/
structure Turns (vs : List Value) (w w' : World) : Prop where
  os : w'.os = w.os
  tape : w'.tape = w.tape
  output : w'.output = w.output
  size : w.heap.size ≤ w'.heap.size
  block : ∀ k, k < w.heap.size → (∀ v ∈ vs, Off v k) → w'.heap[k]? = w.heap[k]?
theorem Turns.refl (vs : List Value) (w : World) : Turns vs w w := ⟨rfl, rfl, rfl, Nat.le_refl _, fun _ _ _ => rfl⟩
theorem Turns.trans {vs : List Value} {a b c : World} (h : Turns vs a b) (k : Turns vs b c) : Turns vs a c :=
  ⟨k.os.trans h.os, k.tape.trans h.tape, k.output.trans h.output, Nat.le_trans h.size k.size, fun i hi hv => (k.block i (Nat.lt_of_lt_of_le hi h.size) hv).trans (h.block i hi hv)⟩
theorem Turns.more {vs us : List Value} {a b : World} (h : Turns vs a b) (hs : ∀ v ∈ vs, v ∈ us) : Turns us a b := ⟨h.os, h.tape, h.output, h.size, fun i hi hv => h.block i hi fun v hm => hv v (hs v hm)⟩
theorem Turns.of_below {vs : List Value} {a b : World} (h : Below a.heap.size a b) : Turns vs a b := ⟨h.os, h.tape, h.output, h.size, fun i hi _ => h.block i hi⟩
theorem Turns.below {vs : List Value} {a b : World} {B : Nat} (h : Turns vs a b) (hB : B ≤ a.heap.size) (hv : ∀ v ∈ vs, ∀ k, k < B → Off v k) : Below B a b :=
  ⟨h.os, h.tape, h.output, h.size, fun i hi => h.block i (by omega) fun v hm => hv v hm i hi⟩
theorem Turns.set {vs : List Value} {a b : World} (h : Turns vs a b) {g o n cap : Nat} (hm : Value.slice (some ⟨g, o, none⟩) n cap ∈ vs) (hn : 0 < n) (j : Nat) (x : Value) : Turns vs a (b.setCell ⟨g, j, none⟩ x) :=
  h.trans ⟨rfl, rfl, rfl, by simp [World.setCell], fun i hi hv => Below.heap_setCell _ _ _ _ (fun e => hv _ hm ⟨g, o, none⟩ n cap rfl hn e.symm)⟩
theorem Turns.drew {vs : List Value} {a b : World} (h : Turns vs a b) : Turns vs a b.drew := ⟨h.os, h.tape, h.output, h.size, h.block⟩
theorem Turns.drewN {vs : List Value} {a b : World} (h : Turns vs a b) (n : Nat) : Turns vs a (b.drewN n) := ⟨h.os, h.tape, h.output, h.size, h.block⟩

theorem sl_turns {w w' : World} {sz : Nat} {v : Value} {n : Nat} {c : Nat → Value} {vs : List Value} (h : Sl w sz v n c) (hg : Turns vs w w') (hoff : ∀ u ∈ vs, Apart v u) : Sl w' sz v n c := by
  obtain ⟨a, cap, rfl, h1, h2, h3⟩ := h
  refine ⟨a, cap, rfl, h1, h2, fun hn => ?_⟩
  obtain ⟨b, o, rfl, hc⟩ := h3 hn
  refine ⟨b, o, rfl, fun j hj => ?_⟩
  have hlt := World.block_lt_of_cell? w _ (hc j hj)
  exact (World.cell?_of_block (w := w) (hg.block b hlt fun u hu => hoff u hu _ _ _ rfl hn)).trans (hc j hj)
theorem own_turns {w w' : World} {base sz : Nat} {v : Value} {n : Nat} {c : Nat → Value} {vs : List Value} (h : Own w base sz v n c) (hg : Turns vs w w') (hoff : ∀ u ∈ vs, Apart v u) : Own w' base sz v n c := by
  obtain ⟨a, cap, rfl, h1, h2, h3⟩ := h
  refine ⟨a, cap, rfl, h1, h2, fun hn => ?_⟩
  obtain ⟨b, o, rfl, hbb, hc⟩ := h3 hn
  refine ⟨b, o, rfl, hbb, fun j hj => ?_⟩
  have hlt := World.block_lt_of_cell? w _ (hc j hj).1
  have hbk := hg.block b hlt fun u hu => hoff u hu _ _ _ rfl hn
  exact ⟨(World.cell?_of_block (w := w) hbk).trans (hc j hj).1, (World.frozen?_of_block (w := w) hbk).trans (hc j hj).2⟩
theorem own_low {w : World} {base sz : Nat} {v : Value} {n : Nat} {c : Nat → Value} (h : Own w base sz v n c) (k : Nat) (hk : k < base) : Off v k := by
  obtain ⟨a, cap, rfl, h1, h2, h3⟩ := h
  intro a' n' cap' e hn
  obtain ⟨rfl, rfl, rfl⟩ : a = some a' ∧ n = n' ∧ cap = cap' := by simpa using e
  obtain ⟨b, o, ha, hb, _⟩ := h3 hn
  obtain rfl := Option.some.inj ha
  show b ≠ k
  omega
/-- A slice of one time shares no block with one that was made later. -/
theorem apart_of {w w' : World} {base sz sz' : Nat} {u v : Value} {n n' : Nat} {c c' : Nat → Value} (h : Sl w sz u n c) (hsz : 0 < sz) (h' : Own w' base sz' v n' c') (hb : w.heap.size ≤ base) : Apart u v := by
  obtain ⟨a, cap, rfl, h1, h2, h3⟩ := h
  intro a' m cap' e hn
  obtain ⟨rfl, rfl, rfl⟩ : a = some a' ∧ n = m ∧ cap = cap' := by simpa using e
  obtain ⟨b, o, ha, hc⟩ := h3 hn
  obtain rfl := Option.some.inj ha
  have hlt : b < w.heap.size := World.block_lt_of_cell? w _ (hc 0 (Nat.mul_pos hn hsz))
  exact own_low h' b (by omega)
theorem apart_empty (u : Value) (a : Option Addr) (cap : Nat) : Apart u (.slice a 0 cap) := by
  intro a' n cap' _ _ a2 n2 cap2 e hn
  have : (0 : Nat) = n2 := by injection e
  omega

/-- A store into a block that is not its own. -/
theorem own_set_off {w : World} {base sz : Nat} {v : Value} {n : Nat} {c : Nat → Value} (h : Own w base sz v n c) {g : Nat} (hoff : Off v g) (o : Nat) (x : Value) : Own (w.setCell ⟨g, o, none⟩ x) base sz v n c := by
  obtain ⟨a, cap, rfl, h1, h2, h3⟩ := h
  refine ⟨a, cap, rfl, h1, h2, fun hn => ?_⟩
  obtain ⟨b, o', rfl, hbb, hc⟩ := h3 hn
  have hne : b ≠ g := hoff _ _ _ rfl hn
  refine ⟨b, o', rfl, hbb, fun j hj => ?_⟩
  have hbk := Below.heap_setCell w ⟨g, o, none⟩ x b hne
  exact ⟨(World.cell?_of_block (w := w) hbk).trans (hc j hj).1, (World.frozen?_of_block (w := w) hbk).trans (hc j hj).2⟩
/-- What an append or a make leaves, cell by cell. -/
theorem own_of_row {w : World} {base : Nat} {e : TypeId} {sz : Nat} {v : Value} {n : Nat} {xs : List Value} (h : w.ownsRow base e sz v n xs) (c : Nat → Value) (hc : ∀ j, j < n * sz → xs[j]? = some (c j)) : Own w base sz v n c := by
  obtain ⟨hl, h⟩ := h
  rcases h with ⟨rfl, rfl⟩ | ⟨g, cap, cur, rfl, hb, hg, hnc, hcm, hcs, ht⟩
  · exact ⟨none, 0, rfl, Nat.le_refl _, by unfold maxLen; omega, fun h => by omega⟩
  · refine ⟨_, cap, rfl, hnc, hcm, fun hn => ⟨g, 0, rfl, hb, fun j hj => ⟨?_, ?_⟩⟩⟩
    · rw [Nat.zero_add, cell_of_row _ g j cur e (0, 0) hg, ← hc j hj, ← ht, List.getElem?_take]
      simp [hj]
    · simp [World.frozen?, hg]
/-- 'make([]T, n)'. -/
theorem made {P : Program} (w : World) (t e : TypeId) (sz : Nat) (z : Value) (by_ : Nat) (ht : P.underlying t = some (.slice e)) (hi : (P.info? e).map (fun i => (i.zero, i.size, i.bytes)) = some (some z, sz, by_)) (n : Nat) (hb : by_ * n ≤ 281474976710656) (hn : n ≤ maxLen)
    (c : Nat → Value) (hc : ∀ j, j < n * sz → (madeCells z.cells (n * sz))[j]? = some (c j)) :
    ∃ g o w1, (Instr.makeSlice t (.int .i64 (n : Int)) (.int .i64 (n : Int))).run P w = .ok (.slice (some ⟨g, o, none⟩) n n) w1 ∧ Own w1 w.heap.size sz (.slice (some ⟨g, o, none⟩) n n) n c ∧ Below w.heap.size w w1 := by
  obtain ⟨i0, hi0, hz0, hz1, hz2⟩ := info_parts hi
  obtain ⟨w1, h1, h2, h3⟩ := run_make_full (P := P) w w.heap.size t e i0 z sz ht hi0 hz0 hz1 .i64 .i64 n (by rw [hz2]; exact hb) hn (Nat.le_refl _)
  refine ⟨_, _, w1, h1, own_of_row h2 c (fun j hj => ?_), (Below.refl _ _).grown h3 (Nat.le_refl _) (fun k hk => by cases hk)⟩
  rw [← hc j hj, Array.getElem?_toList]

/-- A device: its sure texts ts, its unsure writes xs. -/
def Dev (w : World) (v : Value) (ts : List ByteArray) (xs : List (Int × ByteArray)) : Prop := ∃ sv uv, v = .agg #[sv, uv] ∧ Sl w 1 sv ts.length (tc ts) ∧ Sl w 2 uv xs.length (pc xs)
/-- .. of the call's own. -/
def DevO (w : World) (base : Nat) (v : Value) (ts : List ByteArray) (xs : List (Int × ByteArray)) : Prop := ∃ sv uv, v = .agg #[sv, uv] ∧ Own w base 1 sv ts.length (tc ts) ∧ Own w base 2 uv xs.length (pc xs) ∧ Apart sv uv
theorem DevO.dev {w : World} {base : Nat} {v : Value} {ts : List ByteArray} {xs : List (Int × ByteArray)} (h : DevO w base v ts xs) : Dev w v ts xs := by
  obtain ⟨sv, uv, rfl, h1, h2, _⟩ := h
  exact ⟨sv, uv, rfl, h1.sl, h2.sl⟩
theorem Dev.below {w w' : World} {v : Value} {ts : List ByteArray} {xs : List (Int × ByteArray)} (h : Dev w v ts xs) (hb : Below w.heap.size w w') : Dev w' v ts xs := by
  obtain ⟨sv, uv, rfl, h1, h2⟩ := h
  exact ⟨sv, uv, rfl, h1.below hb, h2.below hb⟩
theorem DevO.below {w w' : World} {base : Nat} {v : Value} {ts : List ByteArray} {xs : List (Int × ByteArray)} (h : DevO w base v ts xs) (hb : Below w.heap.size w w') : DevO w' base v ts xs := by
  obtain ⟨sv, uv, rfl, h1, h2, h3⟩ := h
  exact ⟨sv, uv, rfl, h1.below hb, h2.below hb, h3⟩
theorem DevO.base {w : World} {base base' : Nat} {v : Value} {ts : List ByteArray} {xs : List (Int × ByteArray)} (h : DevO w base v ts xs) (hb : base' ≤ base) : DevO w base' v ts xs := by
  obtain ⟨sv, uv, rfl, h1, h2, h3⟩ := h
  exact ⟨sv, uv, rfl, h1.base hb, h2.base hb, h3⟩
end Go.Proofs.Ytealdpkgfmokpaa.Dev
