/-
  What is proved: plain facts on hidden maps as the program keeps them (keys and a tree): what of them stays behind a call or a marking, a block of four cells, and how an argument is read as one (laws for the walks). Nothing of the program.
-/
import Derived.Test.YtealdpkgfmokpaaRows
import Derived.Test.YtealdpkgfmokpaaLawO4
namespace Go.Proofs.Ytealdpkgfmokpaa.EncP
open Go.ChangeShapes Go.WideShapes Go.ChangeAt Go.RowKit Go.Joins Go.Deep
open Sl (Sl Own Off)
open OpenSl (tc nc pc)
open Dev Orm LawO LawO2 Box3 LawO3 LawO4
open LawN (mi)
set_option linter.unusedVariables false

/-- A hidden map's reading: the keys, the tree. -/
structure Em where
  ks : List Int
  o : Om
def RdE (w : World) (v : Value) (e : Em) : Prop := ∃ k p s b, v = .agg #[k, p, s, b] ∧ Sl w 1 k e.ks.length (nc e.ks) ∧ Rd w (.agg #[p, s, b]) e.o
def totE (e : Em) : Nat := e.ks.length + tot e.o
theorem RdE.below {w w' : World} {v : Value} {e : Em} (h : RdE w v e) (hb : Below w.heap.size w w') : RdE w' v e := by
  obtain ⟨k, p, s, b, rfl, h1, h2⟩ := h
  exact ⟨k, p, s, b, rfl, h1.below hb, h2.below hb⟩
theorem RdE.form {w : World} {v : Value} {e : Em} (h : RdE w v e) : ∃ a c a0 c0 a1 c1 a2 c2, v = .agg #[.slice a e.ks.length c, .slice a0 e.o.pos.length c0, .slice a1 e.o.st.length c1, .slice a2 e.o.bk.length c2] := by
  obtain ⟨k, p, s, b, rfl, h1, h2⟩ := h
  obtain ⟨a, c, rfl, _, _⟩ := h1.form
  obtain ⟨a0, c0, a1, c1, a2, c2, e⟩ := Orm.form h2
  have e' : (#[p, s, b] : Array Value) = #[.slice a0 _ c0, .slice a1 _ c1, .slice a2 _ c2] := Value.agg.inj e
  have e'' := congrArg Array.toList e'
  simp only [List.cons.injEq] at e''
  obtain ⟨rfl, rfl, rfl, _⟩ := e''
  exact ⟨_, _, _, _, _, _, _, _, rfl⟩

/-- All slices that a tree of the call's own is made of. -/
def sls (p s b : Value) (n : Nat) (vs : Nat → Value) : List Value := p :: s :: b :: (List.range n).map vs
theorem mem_sls {p s b : Value} {n : Nat} {vs : Nat → Value} {v : Value} (h : v ∈ sls p s b n vs) : v = p ∨ v = s ∨ v = b ∨ ∃ j, j < n ∧ v = vs j := by
  rcases List.mem_cons.1 h with h | h
  · exact .inl h
  rcases List.mem_cons.1 h with h | h
  · exact .inr (.inl h)
  rcases List.mem_cons.1 h with h | h
  · exact .inr (.inr (.inl h))
  obtain ⟨j, hj, rfl⟩ := List.mem_map.1 h
  exact .inr (.inr (.inr ⟨j, List.mem_range.1 hj, rfl⟩))
theorem off_sls {X p s b : Value} {n : Nat} {vs : Nat → Value} (h0 : Apart X p) (h1 : Apart X s) (h2 : Apart X b) (h3 : ∀ j, j < n → Apart X (vs j)) : ∀ v ∈ sls p s b n vs, Apart X v := by
  intro v hv
  rcases mem_sls hv with rfl | rfl | rfl | ⟨j, hj, rfl⟩
  · exact h0
  · exact h1
  · exact h2
  · exact h3 j hj
/-- A hidden map of the call's own, in blocks from lo on, below hi. -/
def EO (w : World) (lo hi : Nat) (v : Value) (e : Em) : Prop := ∃ k p s b vs, v = .agg #[k, p, s, b] ∧ (Own w lo 1 k e.ks.length (nc e.ks) ∧ Lies lo hi k) ∧
  (Own w lo 1 p e.o.pos.length (nc e.o.pos) ∧ Own w lo 3 s e.o.st.length (bc e.o.st) ∧ NsO w lo b e.o.bk vs ∧
  (Apart p s ∧ Apart p b ∧ Apart s b ∧ (∀ j, j < e.o.bk.length → Apart p (vs j)) ∧ ∀ j, j < e.o.bk.length → Apart s (vs j)) ∧
  (Lies lo hi p ∧ Lies lo hi s ∧ Lies lo hi b ∧ ∀ j, j < e.o.bk.length → Lies lo hi (vs j))) ∧
  (Apart k p ∧ Apart k s ∧ Apart k b ∧ ∀ j, j < e.o.bk.length → Apart k (vs j))
theorem EO.rd {w : World} {lo hi : Nat} {v : Value} {e : Em} (h : EO w lo hi v e) : RdE w v e := by
  obtain ⟨k, p, s, b, vs, rfl, ⟨h0, _⟩, ⟨h1, h2, h3, _⟩, _⟩ := h
  exact ⟨k, p, s, b, rfl, h0.sl, p, s, b, rfl, h1.sl, h2.sl, h3.ns⟩
theorem EO.below {w w' : World} {lo hi : Nat} {v : Value} {e : Em} (h : EO w lo hi v e) (hb : Below w.heap.size w w') : EO w' lo hi v e := by
  obtain ⟨k, p, s, b, vs, rfl, ⟨h0, l0⟩, ⟨h1, h2, h3, h4⟩, h5⟩ := h
  exact ⟨k, p, s, b, vs, rfl, ⟨h0.below hb, l0⟩, ⟨h1.below hb, h2.below hb, h3.below hb, h4⟩, h5⟩
theorem EO.turns {w w' : World} {lo hi lo' hi' : Nat} {v : Value} {e : Em} (h : EO w lo hi v e) (hg : TurnsR lo' hi' w w') (hd : hi' ≤ lo ∨ hi ≤ lo') : EO w' lo hi v e := by
  obtain ⟨k, p, s, b, vs, rfl, ⟨h0, l0⟩, ⟨h1, h2, h3, h4, h5, h6, h7, h8⟩, h9⟩ := h
  exact ⟨k, p, s, b, vs, rfl, ⟨own_turnsR h0 hg l0 hd, l0⟩, ⟨own_turnsR h1 hg h5 hd, own_turnsR h2 hg h6 hd, ⟨own_turnsR h3.out hg h7 hd, fun j hj => own_turnsR (h3.inn j hj) hg (h8 j hj) hd, h3.off, h3.each⟩, h4, h5, h6, h7, h8⟩, h9⟩
theorem EO.wide {w : World} {lo hi lo' hi' : Nat} {v : Value} {e : Em} (h : EO w lo hi v e) (h1 : lo' ≤ lo) (h2 : hi ≤ hi') : EO w lo' hi' v e := by
  obtain ⟨k, p, s, b, vs, rfl, ⟨k0, l0⟩, ⟨k1, k2, k3, k4, k5, k6, k7, k8⟩, k9⟩ := h
  exact ⟨k, p, s, b, vs, rfl, ⟨k0.base h1, l0.mono h1 h2⟩, ⟨k1.base h1, k2.base h1, k3.base h1, k4, k5.mono h1 h2, k6.mono h1 h2, k7.mono h1 h2, fun j hj => (k8 j hj).mono h1 h2⟩, k9⟩
/-- Keys and a tree that lie in blocks of their own make one. -/
theorem EO.of {w : World} {lo m hi : Nat} {k : Value} {t : Value} {e : Em} (h : Own w lo 1 k e.ks.length (nc e.ks)) (l : Lies lo m k) (ht : RdO w m hi t e.o) (h1 : lo ≤ m) (h2 : m ≤ hi) : ∃ p s b, t = .agg #[p, s, b] ∧ EO w lo hi (.agg #[k, p, s, b]) e := by
  obtain ⟨p, s, b, vs, rfl, k1, k2, k3, k4, k5, k6, k7, k8⟩ := ht
  exact ⟨p, s, b, rfl, k, p, s, b, vs, rfl, ⟨h, l.mono (Nat.le_refl _) h2⟩, ⟨k1.base h1, k2.base h1, k3.base h1, k4, k5.mono h1 (Nat.le_refl _), k6.mono h1 (Nat.le_refl _), k7.mono h1 (Nat.le_refl _), fun j hj => (k8 j hj).mono h1 (Nat.le_refl _)⟩,
    l.apart k5 (.inl (Nat.le_refl _)), l.apart k6 (.inl (Nat.le_refl _)), l.apart k7 (.inl (Nat.le_refl _)), fun j hj => l.apart (k8 j hj) (.inl (Nat.le_refl _))⟩
/-- .. the tree ahead of the keys. -/
theorem EO.of' {w : World} {lo m hi : Nat} {k : Value} {t : Value} {e : Em} (h : Own w m 1 k e.ks.length (nc e.ks)) (l : Lies m hi k) (ht : RdO w lo m t e.o) (h1 : lo ≤ m) (h2 : m ≤ hi) : ∃ p s b, t = .agg #[p, s, b] ∧ EO w lo hi (.agg #[k, p, s, b]) e := by
  obtain ⟨p, s, b, vs, rfl, k1, k2, k3, k4, k5, k6, k7, k8⟩ := ht
  exact ⟨p, s, b, rfl, k, p, s, b, vs, rfl, ⟨h.base h1, l.mono h1 (Nat.le_refl _)⟩, ⟨k1, k2, k3, k4, k5.mono (Nat.le_refl _) h2, k6.mono (Nat.le_refl _) h2, k7.mono (Nat.le_refl _) h2, fun j hj => (k8 j hj).mono (Nat.le_refl _) h2⟩,
    l.apart k5 (.inr (Nat.le_refl _)), l.apart k6 (.inr (Nat.le_refl _)), l.apart k7 (.inr (Nat.le_refl _)), fun j hj => l.apart (k8 j hj) (.inr (Nat.le_refl _))⟩

theorem agg3 {a b c a' b' c' : Value} (h : Value.agg #[a, b, c] = .agg #[a', b', c']) : a = a' ∧ b = b' ∧ c = c' := by
  have e := congrArg Array.toList (Value.agg.inj h)
  simp only [List.cons.injEq] at e
  exact ⟨e.1, e.2.1, e.2.2.1⟩
theorem EO.mk {w : World} {lo m hi : Nat} {k p s b : Value} {e : Em} (h : Own w lo 1 k e.ks.length (nc e.ks)) (l : Lies lo m k) (ht : RdO w m hi (.agg #[p, s, b]) e.o) (h1 : lo ≤ m) (h2 : m ≤ hi) : EO w lo hi (.agg #[k, p, s, b]) e := by
  obtain ⟨p', s', b', e1, h3⟩ := EO.of h l ht h1 h2
  obtain ⟨rfl, rfl, rfl⟩ := agg3 e1
  exact h3
theorem EO.mk' {w : World} {lo m hi : Nat} {k p s b : Value} {e : Em} (h : Own w m 1 k e.ks.length (nc e.ks)) (l : Lies m hi k) (ht : RdO w lo m (.agg #[p, s, b]) e.o) (h1 : lo ≤ m) (h2 : m ≤ hi) : EO w lo hi (.agg #[k, p, s, b]) e := by
  obtain ⟨p', s', b', e1, h3⟩ := EO.of' h l ht h1 h2
  obtain ⟨rfl, rfl, rfl⟩ := agg3 e1
  exact h3
def wtE (e : Em) : Nat := e.ks.length + wt e.o
/-- A hidden map that is marked from k on. -/
def MkE (w : World) (k : Nat) (v : Value) (e : Em) : Prop := ∃ q p s b, v = .agg #[q, p, s, b] ∧ Sl w 1 q e.ks.length (mi k) ∧ Mk w (k + e.ks.length) (.agg #[p, s, b]) e.o
theorem MkE.below {w w' : World} {k : Nat} {v : Value} {e : Em} (h : MkE w k v e) (hb : Below w.heap.size w w') : MkE w' k v e := by
  obtain ⟨q, p, s, b, rfl, h1, h2⟩ := h
  exact ⟨q, p, s, b, rfl, h1.below hb, h2.below hb⟩

/-- Block g holds the four values, none frozen. -/
structure B4 (w : World) (g : Nat) (a b c d : Value) : Prop where
  c0 : w.cell? ⟨g, 0, none⟩ = some a
  c1 : w.cell? ⟨g, 1, none⟩ = some b
  c2 : w.cell? ⟨g, 2, none⟩ = some c
  c3 : w.cell? ⟨g, 3, none⟩ = some d
  f0 : w.frozen? ⟨g, 0, none⟩ = false
  f1 : w.frozen? ⟨g, 1, none⟩ = false
  f2 : w.frozen? ⟨g, 2, none⟩ = false
  f3 : w.frozen? ⟨g, 3, none⟩ = false
theorem B4.lt {w : World} {g : Nat} {a b c d : Value} (h : B4 w g a b c d) : g < w.heap.size := World.block_lt_of_cell? w _ h.c0
theorem B4.block {w w' : World} {g : Nat} {a b c d : Value} (h : B4 w g a b c d) (e : w'.heap[g]? = w.heap[g]?) : B4 w' g a b c d :=
  ⟨(World.cell?_of_block (w := w) e).trans h.c0, (World.cell?_of_block (w := w) e).trans h.c1, (World.cell?_of_block (w := w) e).trans h.c2, (World.cell?_of_block (w := w) e).trans h.c3, (World.frozen?_of_block (w := w) e).trans h.f0, (World.frozen?_of_block (w := w) e).trans h.f1, (World.frozen?_of_block (w := w) e).trans h.f2, (World.frozen?_of_block (w := w) e).trans h.f3⟩
theorem B4.below {w w' : World} {g : Nat} {a b c d : Value} (h : B4 w g a b c d) (hb : Below w.heap.size w w') : B4 w' g a b c d := h.block (hb.block g h.lt)
theorem B4.turnsR {w w' : World} {g lo hi : Nat} {a b c d : Value} (h : B4 w g a b c d) (ht : TurnsR lo hi w w') (hg : g < lo ∨ hi ≤ g) : B4 w' g a b c d := h.block (ht.block g h.lt hg)
theorem B4.turns {w w' : World} {g : Nat} {a b c d : Value} {vs : List Value} (h : B4 w g a b c d) (ht : Turns vs w w') (hg : ∀ v ∈ vs, Off v g) : B4 w' g a b c d := h.block (ht.block g h.lt hg)
theorem B4.other {w : World} {g : Nat} {a b c d : Value} (h : B4 w g a b c d) {g' : Nat} (hne : g ≠ g') (j : Nat) (v : Value) : B4 (w.setCell ⟨g', j, none⟩ v) g a b c d := h.block (Below.heap_setCell w _ v g hne)
theorem B4.set0 {w : World} {g : Nat} {a b c d : Value} (h : B4 w g a b c d) (v : Value) : B4 (w.setCell ⟨g, 0, none⟩ v) g v b c d :=
  ⟨World.cell?_setCell_same _ _ _ h.c0, by rw [World.cell?_setCell_other _ _ _ _ (by simp)]; exact h.c1, by rw [World.cell?_setCell_other _ _ _ _ (by simp)]; exact h.c2, by rw [World.cell?_setCell_other _ _ _ _ (by simp)]; exact h.c3, by rw [Sl.frozen_set]; exact h.f0, by rw [Sl.frozen_set]; exact h.f1, by rw [Sl.frozen_set]; exact h.f2, by rw [Sl.frozen_set]; exact h.f3⟩
theorem B4.set1 {w : World} {g : Nat} {a b c d : Value} (h : B4 w g a b c d) (v : Value) : B4 (w.setCell ⟨g, 1, none⟩ v) g a v c d :=
  ⟨by rw [World.cell?_setCell_other _ _ _ _ (by simp)]; exact h.c0, World.cell?_setCell_same _ _ _ h.c1, by rw [World.cell?_setCell_other _ _ _ _ (by simp)]; exact h.c2, by rw [World.cell?_setCell_other _ _ _ _ (by simp)]; exact h.c3, by rw [Sl.frozen_set]; exact h.f0, by rw [Sl.frozen_set]; exact h.f1, by rw [Sl.frozen_set]; exact h.f2, by rw [Sl.frozen_set]; exact h.f3⟩
theorem B4.set2 {w : World} {g : Nat} {a b c d : Value} (h : B4 w g a b c d) (v : Value) : B4 (w.setCell ⟨g, 2, none⟩ v) g a b v d :=
  ⟨by rw [World.cell?_setCell_other _ _ _ _ (by simp)]; exact h.c0, by rw [World.cell?_setCell_other _ _ _ _ (by simp)]; exact h.c1, World.cell?_setCell_same _ _ _ h.c2, by rw [World.cell?_setCell_other _ _ _ _ (by simp)]; exact h.c3, by rw [Sl.frozen_set]; exact h.f0, by rw [Sl.frozen_set]; exact h.f1, by rw [Sl.frozen_set]; exact h.f2, by rw [Sl.frozen_set]; exact h.f3⟩
theorem B4.set3 {w : World} {g : Nat} {a b c d : Value} (h : B4 w g a b c d) (v : Value) : B4 (w.setCell ⟨g, 3, none⟩ v) g a b c v :=
  ⟨by rw [World.cell?_setCell_other _ _ _ _ (by simp)]; exact h.c0, by rw [World.cell?_setCell_other _ _ _ _ (by simp)]; exact h.c1, by rw [World.cell?_setCell_other _ _ _ _ (by simp)]; exact h.c2, World.cell?_setCell_same _ _ _ h.c3, by rw [Sl.frozen_set]; exact h.f0, by rw [Sl.frozen_set]; exact h.f1, by rw [Sl.frozen_set]; exact h.f2, by rw [Sl.frozen_set]; exact h.f3⟩
/-- Four values are boxed. -/
theorem box4 (u : World) (t : TypeId) (a b c d : Value) : ∃ U, u.alloc (.cells #[a, b, c, d] t) = U ∧ Below u.heap.size u U ∧ U.heap.size = u.heap.size + 1 ∧ B4 U u.heap.size a b c d :=
  ⟨_, rfl, (Below.refl _ u).alloc (Nat.le_refl _) _, by simp, ⟨by go_simp, by go_simp, by go_simp, by go_simp, by go_simp, by go_simp, by go_simp, by go_simp⟩⟩
theorem eO_set_off {w : World} {lo hi : Nat} {v : Value} {e : Em} (h : EO w lo hi v e) {g : Nat} (hg : g < lo ∨ hi ≤ g) (j : Nat) (x : Value) : EO (w.setCell ⟨g, j, none⟩ x) lo hi v e :=
  h.turns (lo' := g) (hi' := g + 1) ⟨rfl, rfl, rfl, by simp [World.setCell], fun k hk hh => Below.heap_setCell _ _ _ _ (fun e => by simp only at e; omega)⟩ (by omega)

/-- A hidden map is stored into a place that is none of its own. -/
theorem put_enc {u : World} {lo hi : Nat} {a b c d : Value} {m : Em} (h : EO u lo hi (.agg #[a, b, c, d]) m) {g : Nat} (hg : g < lo ∨ hi ≤ g) {x y z t : Value} (X : B4 u g x y z t) :
    ∃ F, (((u.setCell ⟨g, 0, none⟩ a).setCell ⟨g, 1, none⟩ b).setCell ⟨g, 2, none⟩ c).setCell ⟨g, 3, none⟩ d = F ∧ EO F lo hi (.agg #[a, b, c, d]) m ∧ B4 F g a b c d ∧ F.heap.size = u.heap.size ∧ ∀ B, B ≤ g → Below B u F :=
  ⟨_, rfl, eO_set_off (eO_set_off (eO_set_off (eO_set_off h hg 0 a) hg 1 b) hg 2 c) hg 3 d, (((X.set0 a).set1 b).set2 c).set3 d, by simp, fun B hB => ((((Below.refl B u).setCell (p := ⟨g, 0, none⟩) hB a).setCell (p := ⟨g, 1, none⟩) hB b).setCell (p := ⟨g, 2, none⟩) hB c).setCell (p := ⟨g, 3, none⟩) hB d⟩
/-- A tree is stored into three of a block's four cells. -/
theorem put_tree {u : World} {g : Nat} {k x y z : Value} (X : B4 u g k x y z) (a b c : Value) :
    ∃ F, ((u.setCell ⟨g, 1, none⟩ a).setCell ⟨g, 2, none⟩ b).setCell ⟨g, 3, none⟩ c = F ∧ B4 F g k a b c ∧ F.heap.size = u.heap.size ∧ (∀ B, B ≤ g → Below B u F) ∧ ∀ g', g' ≠ g → F.heap[g']? = u.heap[g']? :=
  ⟨_, rfl, ((X.set1 a).set2 b).set3 c, by simp, fun B hB => (((Below.refl B u).setCell (p := ⟨g, 1, none⟩) hB a).setCell (p := ⟨g, 2, none⟩) hB b).setCell (p := ⟨g, 3, none⟩) hB c,
    fun g' hne => (Below.heap_setCell _ _ _ g' hne).trans ((Below.heap_setCell _ _ _ g' hne).trans (Below.heap_setCell _ _ _ g' hne))⟩

theorem cellsE : Try.prog.cellsOf 87 = 4 := by kernel_rfl
theorem array4 {cs : Array Value} (h : cs.size = 4) : ∃ c0 c1 c2 c3, cs = #[c0, c1, c2, c3] := by
  rcases cs with ⟨l⟩
  match l, h with
  | [c0, c1, c2, c3], _ => exact ⟨c0, c1, c2, c3, rfl⟩
set_option maxRecDepth 100000 in
/-- A hidden map by value that comes in. -/
theorem open_enc {H : Type} {enc : TypeId × Value → H} {W : World} {base b0 : Nat} {spare : Nat → Bool} {held : Bool} {v : Value} {d : DataW H} {p : List MemPlace}
    (o : Value.okWide Try.prog W .any b0 87 v) (h : DataW.Trod enc Try.prog W base spare held 87 v d p) : ∃ r, RdE W v r := by
  obtain ⟨cs, rfl, hsz⟩ := okWide_struct Try.underlying87 o
  obtain ⟨c0, c1, c2, c3, rfl⟩ := array4 (hsz.trans cellsE)
  obtain ⟨fuel, hf⟩ := h
  obtain ⟨y0, y1, m, _, _, h0, h1⟩ := trod_struct2 Try.underlying87 hf
  simp only [Value.cells, cellsI, cellsO, List.drop_zero, List.drop_succ_cons, List.take_succ_cons, List.take_zero] at h0 h1
  obtain ⟨zs, k1, _⟩ := OpenSl.numbers Try.underlying22 Try.underlying3 cellsN h0
  obtain ⟨z0, z1, z2, m2, _, _, g0, g1, g2⟩ := trod_struct3 Try.underlying26 h1
  simp only [cellsI, cellsB, cellsBB, List.drop_zero, List.drop_succ_cons, List.take_succ_cons, List.take_zero] at g0 g1 g2
  obtain ⟨ps, q1, _⟩ := OpenSl.numbers Try.underlying22 Try.underlying3 cellsN g0
  obtain ⟨xs, q2⟩ := triples Try.underlying23 Try.underlying146 (by kernel_rfl) cellsK Try.underlying3 Try.underlying3 Try.underlying3 g1
  obtain ⟨bss, q3⟩ := nested Try.underlying24 cellsB Try.underlying23 Try.underlying146 (by kernel_rfl) cellsK Try.underlying3 Try.underlying3 Try.underlying3 g2
  exact ⟨⟨zs, ps, xs, bss⟩, c0, c1, c2, c3, rfl, k1, c1, c2, c3, rfl, q1, q2, q3⟩
end Go.Proofs.Ytealdpkgfmokpaa.EncP
