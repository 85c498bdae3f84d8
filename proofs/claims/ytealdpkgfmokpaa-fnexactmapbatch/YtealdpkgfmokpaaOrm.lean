/-
  What is proved: plain facts on trees of blocks as the program keeps them: slices of blocks, slices of such slices, what of them stays behind a call or a marking, and how an argument is read as one (laws for the walks). Nothing of the program.
-/
import Derived.Test.YtealdpkgfmokpaaRows
import Derived.Test.YtealdpkgfmokpaaDev
import Derived.Deep.Strs
namespace Go.Proofs.Ytealdpkgfmokpaa.Orm
open Go.ChangeShapes Go.WideShapes Go.ChangeAt Go.RowKit Go.Joins Go.Deep
open Sl (Sl Own Off)
open OpenSl (tc nc pc)
open Dev
set_option linter.unusedVariables false

/-- A block: its number, its leaf, its value; a block's cells. -/
abbrev Bk := Int × Int × Int
def bv (x : Bk) : Value := .agg #[.int .i64 x.1, .int .i64 x.2.1, .int .i64 x.2.2]
def bc (xs : List Bk) (j : Nat) : Value := .int .i64 (if j % 3 = 0 then (xs.getD (j / 3) (0, 0, 0)).1 else if j % 3 = 1 then (xs.getD (j / 3) (0, 0, 0)).2.1 else (xs.getD (j / 3) (0, 0, 0)).2.2)
theorem bc0 (xs : List Bk) (k : Nat) : bc xs (k * 3) = .int .i64 (xs.getD k (0, 0, 0)).1 := by
  unfold bc; rw [if_pos (by omega), show k * 3 / 3 = k by omega]
theorem bc1 (xs : List Bk) (k : Nat) : bc xs (k * 3 + 1) = .int .i64 (xs.getD k (0, 0, 0)).2.1 := by
  unfold bc; rw [if_neg (by omega), if_pos (by omega), show (k * 3 + 1) / 3 = k by omega]
theorem bc2 (xs : List Bk) (k : Nat) : bc xs (k * 3 + 2) = .int .i64 (xs.getD k (0, 0, 0)).2.2 := by
  unfold bc; rw [if_neg (by omega), if_neg (by omega), show (k * 3 + 2) / 3 = k by omega]
theorem bc_one (xs : List Bk) (j : Nat) : (bc xs j).oneCell' = true := rfl
theorem bc_ext {xs ys : List Bk} {j n : Nat} (hj : j < n * 3) (h : ∀ k, k < n → xs.getD k (0, 0, 0) = ys.getD k (0, 0, 0)) : bc xs j = bc ys j := by
  unfold bc; rw [h (j / 3) (by omega)]

/-- A slice of slices of blocks. -/
def Ns (w : World) (v : Value) (bss : List (List Bk)) : Prop := ∃ vs : Nat → Value, Sl w 1 v bss.length vs ∧ ∀ j, j < bss.length → Sl w 3 (vs j) (bss.getD j []).length (bc (bss.getD j []))
/-- A tree's reading: the leaves, the stash, the buckets. -/
structure Om where
  pos : List Int
  st : List Bk
  bk : List (List Bk)
def Rd (w : World) (v : Value) (o : Om) : Prop := ∃ p s b, v = .agg #[p, s, b] ∧ Sl w 1 p o.pos.length (nc o.pos) ∧ Sl w 3 s o.st.length (bc o.st) ∧ Ns w b o.bk
/-- How many elements there are in all. -/
def tot (o : Om) : Nat := o.pos.length + o.st.length + o.bk.length + (o.bk.map List.length).sum

theorem Ns.below {w w' : World} {v : Value} {bss : List (List Bk)} (h : Ns w v bss) (hb : Below w.heap.size w w') : Ns w' v bss := by
  obtain ⟨vs, h1, h2⟩ := h
  exact ⟨vs, h1.below hb, fun j hj => (h2 j hj).below hb⟩
theorem Rd.below {w w' : World} {v : Value} {o : Om} (h : Rd w v o) (hb : Below w.heap.size w w') : Rd w' v o := by
  obtain ⟨p, s, b, rfl, h1, h2, h3⟩ := h
  exact ⟨p, s, b, rfl, h1.below hb, h2.below hb, h3.below hb⟩

/-- A slice's cells lie in blocks from lo on, below hi. -/
def Lies (lo hi : Nat) (v : Value) : Prop := ∀ a n cap, v = .slice (some a) n cap → 0 < n → lo ≤ a.block ∧ a.block < hi
theorem lies_of {w : World} {base sz : Nat} {v : Value} {n : Nat} {c : Nat → Value} (h : Own w base sz v n c) (hsz : 0 < sz) : Lies base w.heap.size v := by
  obtain ⟨a, cap, rfl, h1, h2, h3⟩ := h
  intro a' n' cap' e hn
  obtain ⟨rfl, rfl, rfl⟩ : a = some a' ∧ n = n' ∧ cap = cap' := by simpa using e
  obtain ⟨b, o, ha, hb, hc⟩ := h3 hn
  obtain rfl := Option.some.inj ha
  exact ⟨hb, World.block_lt_of_cell? w _ (hc 0 (Nat.mul_pos hn hsz)).1⟩
theorem lies_sl {w : World} {sz : Nat} {v : Value} {n : Nat} {c : Nat → Value} (h : Sl w sz v n c) (hsz : 0 < sz) : Lies 0 w.heap.size v := by
  obtain ⟨a, cap, rfl, h1, h2, h3⟩ := h
  intro a' n' cap' e hn
  obtain ⟨rfl, rfl, rfl⟩ : a = some a' ∧ n = n' ∧ cap = cap' := by simpa using e
  obtain ⟨b, o, ha, hc⟩ := h3 hn
  obtain rfl := Option.some.inj ha
  exact ⟨Nat.zero_le _, World.block_lt_of_cell? w _ (hc 0 (Nat.mul_pos hn hsz))⟩
theorem Lies.mono {lo hi lo' hi' : Nat} {v : Value} (h : Lies lo hi v) (h1 : lo' ≤ lo) (h2 : hi ≤ hi') : Lies lo' hi' v := by
  intro a n cap e hn
  have := h a n cap e hn
  omega
theorem Lies.off {lo hi : Nat} {v : Value} (h : Lies lo hi v) {g : Nat} (hg : g < lo ∨ hi ≤ g) : Off v g := by
  intro a n cap e hn
  have := h a n cap e hn
  omega
theorem Lies.apart {lo hi lo' hi' : Nat} {u v : Value} (h : Lies lo hi u) (h' : Lies lo' hi' v) (hd : hi ≤ lo' ∨ hi' ≤ lo) : Apart u v := by
  intro a n cap e hn
  have := h a n cap e hn
  exact h'.off (by omega)
theorem lies_nil (lo hi : Nat) (a : Option Addr) (cap : Nat) : Lies lo hi (.slice a 0 cap) := by
  intro a' n cap' e hn
  have : (0 : Nat) = n := by injection e
  omega

/-- Nothing but blocks from lo on, below hi, has turned. -/
structure TurnsR (lo hi : Nat) (w w' : World) : Prop where
  os : w'.os = w.os
  tape : w'.tape = w.tape
  output : w'.output = w.output
  size : w.heap.size ≤ w'.heap.size
  block : ∀ k, k < w.heap.size → k < lo ∨ hi ≤ k → w'.heap[k]? = w.heap[k]?
theorem TurnsR.refl (lo hi : Nat) (w : World) : TurnsR lo hi w w := ⟨rfl, rfl, rfl, Nat.le_refl _, fun _ _ _ => rfl⟩
theorem TurnsR.trans {lo hi : Nat} {a b c : World} (h : TurnsR lo hi a b) (k : TurnsR lo hi b c) : TurnsR lo hi a c :=
  ⟨k.os.trans h.os, k.tape.trans h.tape, k.output.trans h.output, Nat.le_trans h.size k.size, fun i hi' hv => (k.block i (Nat.lt_of_lt_of_le hi' h.size) hv).trans (h.block i hi' hv)⟩
theorem TurnsR.of_below {lo hi : Nat} {a b : World} (h : Below a.heap.size a b) : TurnsR lo hi a b := ⟨h.os, h.tape, h.output, h.size, fun i hi' _ => h.block i hi'⟩
theorem TurnsR.of_turns {lo hi : Nat} {a b : World} {vs : List Value} (h : Turns vs a b) (hl : ∀ v ∈ vs, Lies lo hi v) : TurnsR lo hi a b :=
  ⟨h.os, h.tape, h.output, h.size, fun i hi' hv => h.block i hi' fun v hm => (hl v hm).off hv⟩
theorem TurnsR.below {lo hi : Nat} {a b : World} {B : Nat} (h : TurnsR lo hi a b) (hB : B ≤ lo) (hs : B ≤ a.heap.size) : Below B a b :=
  ⟨h.os, h.tape, h.output, h.size, fun i hi' => h.block i (by omega) (by omega)⟩
theorem sl_turnsR {w w' : World} {sz : Nat} {v : Value} {n : Nat} {c : Nat → Value} {lo hi lo' hi' : Nat} (h : Sl w sz v n c) (hg : TurnsR lo hi w w') (hl : Lies lo' hi' v) (hd : hi ≤ lo' ∨ hi' ≤ lo) : Sl w' sz v n c := by
  obtain ⟨a, cap, rfl, h1, h2, h3⟩ := h
  refine ⟨a, cap, rfl, h1, h2, fun hn => ?_⟩
  obtain ⟨b, o, rfl, hc⟩ := h3 hn
  refine ⟨b, o, rfl, fun j hj => ?_⟩
  have hlt := World.block_lt_of_cell? w _ (hc j hj)
  have := hl _ _ _ rfl hn
  simp only at this
  exact (World.cell?_of_block (w := w) (hg.block b hlt (by omega))).trans (hc j hj)
theorem own_turnsR {w w' : World} {base sz : Nat} {v : Value} {n : Nat} {c : Nat → Value} {lo hi lo' hi' : Nat} (h : Own w base sz v n c) (hg : TurnsR lo hi w w') (hl : Lies lo' hi' v) (hd : hi ≤ lo' ∨ hi' ≤ lo) : Own w' base sz v n c := by
  obtain ⟨a, cap, rfl, h1, h2, h3⟩ := h
  refine ⟨a, cap, rfl, h1, h2, fun hn => ?_⟩
  obtain ⟨b, o, rfl, hbb, hc⟩ := h3 hn
  refine ⟨b, o, rfl, hbb, fun j hj => ?_⟩
  have hlt := World.block_lt_of_cell? w _ (hc j hj).1
  have := hl _ _ _ rfl hn
  simp only at this
  have hbk := hg.block b hlt (by omega)
  exact ⟨(World.cell?_of_block (w := w) hbk).trans (hc j hj).1, (World.frozen?_of_block (w := w) hbk).trans (hc j hj).2⟩

/-- A slice of slices of the call's own, no two in one block. -/
structure NsO (w : World) (lo : Nat) (v : Value) (bss : List (List Bk)) (vs : Nat → Value) : Prop where
  out : Own w lo 1 v bss.length vs
  inn : ∀ j, j < bss.length → Own w lo 3 (vs j) (bss.getD j []).length (bc (bss.getD j []))
  off : ∀ j, j < bss.length → Apart v (vs j)
  each : ∀ i j, i < bss.length → j < bss.length → i ≠ j → Apart (vs i) (vs j)
theorem NsO.ns {w : World} {lo : Nat} {v : Value} {bss : List (List Bk)} {vs : Nat → Value} (h : NsO w lo v bss vs) : Ns w v bss := ⟨vs, h.out.sl, fun j hj => (h.inn j hj).sl⟩
theorem NsO.base {w : World} {lo lo' : Nat} {v : Value} {bss : List (List Bk)} {vs : Nat → Value} (h : NsO w lo v bss vs) (hb : lo' ≤ lo) : NsO w lo' v bss vs := ⟨h.out.base hb, fun j hj => (h.inn j hj).base hb, h.off, h.each⟩
theorem NsO.below {w w' : World} {lo : Nat} {v : Value} {bss : List (List Bk)} {vs : Nat → Value} (h : NsO w lo v bss vs) (hb : Below w.heap.size w w') : NsO w' lo v bss vs := ⟨h.out.below hb, fun j hj => (h.inn j hj).below hb, h.off, h.each⟩
/-- A tree of the call's own, in blocks from lo on, below hi. -/
def RdO (w : World) (lo hi : Nat) (v : Value) (o : Om) : Prop := ∃ p s b vs, v = .agg #[p, s, b] ∧ Own w lo 1 p o.pos.length (nc o.pos) ∧ Own w lo 3 s o.st.length (bc o.st) ∧ NsO w lo b o.bk vs ∧
  (Apart p s ∧ Apart p b ∧ Apart s b ∧ (∀ j, j < o.bk.length → Apart p (vs j)) ∧ ∀ j, j < o.bk.length → Apart s (vs j)) ∧
  (Lies lo hi p ∧ Lies lo hi s ∧ Lies lo hi b ∧ ∀ j, j < o.bk.length → Lies lo hi (vs j))
theorem RdO.rd {w : World} {lo hi : Nat} {v : Value} {o : Om} (h : RdO w lo hi v o) : Rd w v o := by
  obtain ⟨p, s, b, vs, rfl, h1, h2, h3, _⟩ := h
  exact ⟨p, s, b, rfl, h1.sl, h2.sl, h3.ns⟩
theorem RdO.below {w w' : World} {lo hi : Nat} {v : Value} {o : Om} (h : RdO w lo hi v o) (hb : Below w.heap.size w w') : RdO w' lo hi v o := by
  obtain ⟨p, s, b, vs, rfl, h1, h2, h3, h4⟩ := h
  exact ⟨p, s, b, vs, rfl, h1.below hb, h2.below hb, h3.below hb, h4⟩
/-- .. behind what turned other blocks alone. -/
theorem RdO.turns {w w' : World} {lo hi lo' hi' : Nat} {v : Value} {o : Om} (h : RdO w lo hi v o) (hg : TurnsR lo' hi' w w') (hd : hi' ≤ lo ∨ hi ≤ lo') : RdO w' lo hi v o := by
  obtain ⟨p, s, b, vs, rfl, h1, h2, h3, h4, h5, h6, h7, h8⟩ := h
  exact ⟨p, s, b, vs, rfl, own_turnsR h1 hg h5 hd, own_turnsR h2 hg h6 hd, ⟨own_turnsR h3.out hg h7 hd, fun j hj => own_turnsR (h3.inn j hj) hg (h8 j hj) hd, h3.off, h3.each⟩, h4, h5, h6, h7, h8⟩
theorem RdO.wide {w : World} {lo hi lo' hi' : Nat} {v : Value} {o : Om} (h : RdO w lo hi v o) (h1 : lo' ≤ lo) (h2 : hi ≤ hi') : RdO w lo' hi' v o := by
  obtain ⟨p, s, b, vs, rfl, k1, k2, k3, k4, k5, k6, k7, k8⟩ := h
  exact ⟨p, s, b, vs, rfl, k1.base h1, k2.base h1, k3.base h1, k4, k5.mono h1 h2, k6.mono h1 h2, k7.mono h1 h2, fun j hj => (k8 j hj).mono h1 h2⟩
theorem form {w : World} {v : Value} {o : Om} (h : Rd w v o) : ∃ a cap a' cap' a2 cap2, v = .agg #[.slice a o.pos.length cap, .slice a' o.st.length cap', .slice a2 o.bk.length cap2] := by
  obtain ⟨p, s, b, rfl, h1, h2, vs, h3, _⟩ := h
  obtain ⟨a, cap, rfl, _, _⟩ := h1.form
  obtain ⟨a', cap', rfl, _, _⟩ := h2.form
  obtain ⟨a2, cap2, rfl, _, _⟩ := h3.form
  exact ⟨_, _, _, _, _, _, rfl⟩

section
variable {H : Type} {enc : TypeId × Value → H} {P : Program} {w : World} {base : Nat} {spare : Nat → Bool} {held : Bool}
theorem triples {t e : TypeId} {f0 f1 f2 : Field} {fuel : Nat} {v : Value} {x : DataW H × List MemPlace} (ht : P.underlying t = some (.slice e)) (he : P.underlying e = some (.struct #[f0, f1, f2])) (hone : oneCellFields P #[f0, f1, f2] = true) (hC : P.cellsOf e = 3)
    (h0 : P.underlying f0.type = some (.int .i64)) (h1 : P.underlying f1.type = some (.int .i64)) (h2 : P.underlying f2.type = some (.int .i64)) (h : DataW.trod enc P w base spare held fuel t [v] = some x) :
    ∃ xs : List Bk, Sl w 3 v xs.length (bc xs) := by
  rcases open_slice ht h with ⟨hcs, _⟩ | ⟨a, len, cap, m, n, D, Pl, hcs, hb, hl, hm, hmm, _, hi⟩
  · obtain rfl : v = .slice none 0 0 := by simpa using hcs
    exact ⟨[], ⟨none, 0, rfl, Nat.le_refl _, by unfold maxLen; omega, fun h => by simp at h⟩⟩
  · obtain rfl : v = .slice (some a) len cap := by simpa using hcs
    have hlm : len ≤ m := by rw [hmm]; split <;> omega
    have each : ∀ i, ∃ y : Bk, i < len → w.cell? (a.add (i * 3)) = some (.int .i64 y.1) ∧ w.cell? ((a.add (i * 3)).add 1) = some (.int .i64 y.2.1) ∧ w.cell? ((a.add (i * 3)).add 2) = some (.int .i64 y.2.2) := by
      intro i
      by_cases hlt : i < len
      · obtain ⟨cs', hc, ht'⟩ := hi i (by omega)
        rw [hC] at hc
        obtain ⟨y0, y1, y2, n', _, _, k0, k1, k2⟩ := trod_struct3 he ht'
        obtain ⟨o0, c0⟩ := hone_of hone 0 f0 rfl
        obtain ⟨o1, c1⟩ := hone_of hone 1 f1 rfl
        obtain ⟨o2, c2⟩ := hone_of hone 2 f2 rfl
        obtain ⟨_, hcl, hat⟩ := World.cells?_some hc
        match cs', hcl, hat, k0, k1, k2 with
        | [u0, u1, u2], _, hat, k0, k1, k2 =>
          rw [o0, c0] at k0
          rw [o1, c1] at k1
          rw [o2, c2] at k2
          obtain ⟨z0, e0, _, _⟩ := DataW.trod_int h0 (show DataW.trod enc P w base spare held n' f0.type [u0] = _ from k0)
          obtain ⟨z1, e1, _, _⟩ := DataW.trod_int h1 (show DataW.trod enc P w base spare held n' f1.type [u1] = _ from k1)
          obtain ⟨z2, e2, _, _⟩ := DataW.trod_int h2 (show DataW.trod enc P w base spare held n' f2.type [u2] = _ from k2)
          have q0 := hat 0 (by omega)
          have q1 := hat 1 (by omega)
          have q2 := hat 2 (by omega)
          obtain rfl : u0 = .int .i64 z0 := by simpa using e0
          obtain rfl : u1 = .int .i64 z1 := by simpa using e1
          obtain rfl : u2 = .int .i64 z2 := by simpa using e2
          exact ⟨(z0, z1, z2), fun _ => ⟨by simpa [Addr.add] using q0, by simpa using q1, by simpa using q2⟩⟩
      · exact ⟨(0, 0, 0), fun h => absurd h hlt⟩
    obtain ⟨f, hf⟩ := Classical.axiomOfChoice each
    have hlen : ((List.range len).map f).length = len := by simp
    refine ⟨(List.range len).map f, ?_⟩
    rw [hlen]
    refine ⟨some a, cap, rfl, hl, hm, fun hn => ?_⟩
    obtain ⟨b, o, rfl⟩ := OpenSl.spot_none (by simpa [Addr.add] using (hf 0 hn).1)
    refine ⟨b, o, rfl, fun j hj => ?_⟩
    have hj2 : j / 3 < len := by omega
    have hg : ((List.range len).map f).getD (j / 3) (0, 0, 0) = f (j / 3) := by simp [List.getD_eq_getElem?_getD, hj2]
    unfold bc
    rw [hg]
    obtain ⟨g0, g1, g2⟩ := hf (j / 3) hj2
    rw [OpenSl.add_none, OpenSl.add_none] at g1 g2
    rw [OpenSl.add_none] at g0
    by_cases hp : j % 3 = 0
    · rw [if_pos hp, show o + j = o + j / 3 * 3 by omega]
      exact g0
    · rw [if_neg hp]
      by_cases hp1 : j % 3 = 1
      · rw [if_pos hp1, show o + j = o + j / 3 * 3 + 1 by omega]
        exact g1
      · rw [if_neg hp1, show o + j = o + j / 3 * 3 + 2 by omega]
        exact g2
theorem nested {T t e : TypeId} {f0 f1 f2 : Field} {fuel : Nat} {v : Value} {x : DataW H × List MemPlace} (hT : P.underlying T = some (.slice t)) (hc : P.cellsOf t = 1) (ht : P.underlying t = some (.slice e)) (he : P.underlying e = some (.struct #[f0, f1, f2])) (hone : oneCellFields P #[f0, f1, f2] = true) (hC : P.cellsOf e = 3)
    (h0 : P.underlying f0.type = some (.int .i64)) (h1 : P.underlying f1.type = some (.int .i64)) (h2 : P.underlying f2.type = some (.int .i64)) (h : DataW.trod enc P w base spare held fuel T [v] = some x) :
    ∃ bss : List (List Bk), Ns w v bss := by
  rcases open_slice hT h with ⟨hcs, _⟩ | ⟨a, len, cap, m, n, D, Pl, hcs, hb, hl, hm, hmm, _, hi⟩
  · obtain rfl : v = .slice none 0 0 := by simpa using hcs
    exact ⟨[], fun _ => .slice none 0 0, ⟨none, 0, rfl, Nat.le_refl _, by unfold maxLen; omega, fun h => by simp at h⟩, fun j hj => by simp at hj⟩
  · obtain rfl : v = .slice (some a) len cap := by simpa using hcs
    have hlm : len ≤ m := by rw [hmm]; split <;> omega
    have each : ∀ i, ∃ y : Value × List Bk, i < len → w.cell? (a.add i) = some y.1 ∧ Sl w 3 y.1 y.2.length (bc y.2) := by
      intro i
      by_cases hlt : i < len
      · obtain ⟨cs', hcc, ht'⟩ := hi i (by omega)
        rw [hc] at hcc
        obtain ⟨_, hcl, hat⟩ := World.cells?_some hcc
        match cs', hcl, hat, ht' with
        | [u0], _, hat, ht' =>
          obtain ⟨xs, hx⟩ := triples ht he hone hC h0 h1 h2 ht'
          have q0 := hat 0 (by omega)
          exact ⟨(u0, xs), fun _ => ⟨by simpa [Addr.add] using q0, hx⟩⟩
      · exact ⟨(.bool false, []), fun h => absurd h hlt⟩
    obtain ⟨f, hf⟩ := Classical.axiomOfChoice each
    have hlen : ((List.range len).map fun i => (f i).2).length = len := by simp
    refine ⟨(List.range len).map fun i => (f i).2, fun i => (f i).1, ?_, fun j hj => ?_⟩
    · rw [hlen]
      refine ⟨some a, cap, rfl, hl, hm, fun hn => ?_⟩
      obtain ⟨b, o, rfl⟩ := OpenSl.spot_none (hf 0 hn).1
      refine ⟨b, o, by simp, fun j hj => ?_⟩
      have := (hf j (by omega)).1
      rwa [OpenSl.add_none] at this
    · rw [hlen] at hj
      have hg : ((List.range len).map fun i => (f i).2).getD j [] = (f j).2 := by simp [List.getD_eq_getElem?_getD, hj]
      rw [hg]
      exact (hf j hj).2
end
theorem cellsO : Try.prog.cellsOf 26 = 3 := by kernel_rfl
theorem cellsI : Try.prog.cellsOf 22 = 1 := by kernel_rfl
theorem cellsN : Try.prog.cellsOf 3 = 1 := by kernel_rfl
theorem cellsB : Try.prog.cellsOf 23 = 1 := by kernel_rfl
theorem cellsBB : Try.prog.cellsOf 24 = 1 := by kernel_rfl
theorem cellsK : Try.prog.cellsOf 146 = 3 := by kernel_rfl
theorem array3 {cs : Array Value} (h : cs.size = 3) : ∃ c0 c1 c2, cs = #[c0, c1, c2] := by
  rcases cs with ⟨l⟩
  match l, h with
  | [c0, c1, c2], _ => exact ⟨c0, c1, c2, rfl⟩
set_option maxRecDepth 100000 in
/-- A tree by value that comes in. -/
theorem open_oram {H : Type} {enc : TypeId × Value → H} {W : World} {base b0 : Nat} {spare : Nat → Bool} {held : Bool} {v : Value} {d : DataW H} {p : List MemPlace}
    (o : Value.okWide Try.prog W .any b0 26 v) (h : DataW.Trod enc Try.prog W base spare held 26 v d p) : ∃ r, Rd W v r := by
  obtain ⟨cs, rfl, hsz⟩ := okWide_struct Try.underlying26 o
  obtain ⟨c0, c1, c2, rfl⟩ := array3 (hsz.trans cellsO)
  obtain ⟨fuel, hf⟩ := h
  obtain ⟨y0, y1, y2, m, _, _, h0, h1, h2⟩ := trod_struct3 Try.underlying26 hf
  simp only [Value.cells, cellsI, cellsB, cellsBB, List.drop_zero, List.drop_succ_cons, List.take_succ_cons, List.take_zero] at h0 h1 h2
  obtain ⟨zs, k1, _⟩ := OpenSl.numbers Try.underlying22 Try.underlying3 cellsN h0
  obtain ⟨xs, k2⟩ := triples Try.underlying23 Try.underlying146 (by kernel_rfl) cellsK Try.underlying3 Try.underlying3 Try.underlying3 h1
  obtain ⟨bss, k3⟩ := nested Try.underlying24 cellsB Try.underlying23 Try.underlying146 (by kernel_rfl) cellsK Try.underlying3 Try.underlying3 Try.underlying3 h2
  exact ⟨⟨zs, xs, bss⟩, c0, c1, c2, rfl, k1, k2, k3⟩
end Go.Proofs.Ytealdpkgfmokpaa.Orm
