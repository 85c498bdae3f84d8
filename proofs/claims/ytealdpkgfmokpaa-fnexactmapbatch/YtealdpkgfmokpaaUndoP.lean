/-
  What is proved: the library's slices.Backward over what is remembered: its iterator gives the elements from the last one on, for every loop body that keeps the cells (a contract for the walks).
-/
import Derived.RangeFuncWrites
import Derived.RangeFuncLeaves
import Derived.Shelf.Abstract
import Derived.WalkKit
import Derived.OwnWalkIn
import Derived.TacticsInMore
import Derived.LoopNIn
import Derived.LoopIn
import Derived.Maps.OwnIn
import Derived.Test.YtealdpkgfmokpaaRows
import Derived.Test.YtealdpkgfmokpaaMapI
import Derived.Test.YtealdpkgfmokpaaMapU
namespace Go.Proofs.Ytealdpkgfmokpaa.UndoP
open Go.ChangeShapes Go.WideShapes Go.ChangeAt Go.RowKit Go.Maps
open Dev Orm LawE MapP OtB MapW MapD MapI MapU
set_option linter.unusedVariables false
attribute [local go_sem] Oper.semAt_some

/-- Whatever is cells lies as it lay. -/
def KC (W W' : World) : Prop := ∀ (k : Nat) (o : Obj), W.heap[k]? = some o → o.isCells = true → W'.heap[k]? = some o
theorem KC.refl (W : World) : KC W W := fun _ _ h _ => h
theorem KC.trans {A B C : World} (h : KC A B) (k : KC B C) : KC A C := fun i o ho hc => k i o (h i o ho hc) hc
theorem KC.cell {A B : World} (h : KC A B) {p : Addr} {v : Value} (hc : A.cell? p = some v) : B.cell? p = some v := by
  obtain ⟨o, ho, hcc⟩ := cells_of_cell hc
  exact (World.cell?_of_block (w := A) ((h _ o ho hcc).trans ho.symm)).trans hc
theorem KC.putObj {W : World} {l : Nat} {o : Obj} (o' : Obj) (hl : W.heap[l]? = some o) (ho : o.isCells = false) : KC W (W.putObj l o') := fun k x hk hc => by
  by_cases e : k = l
  · subst e; rw [hl] at hk; cases hk; rw [ho] at hc; cases hc
  · exact (World.putObj_heap_other e).trans hk
theorem KC.grown {A B : World} {q : Nat} {o : Obj} (h : A.grownBy B (some q)) (ho : A.heap[q]? = some o) (hc : o.isCells = false) : KC A B := fun k x hk hx => by
  by_cases e : k = q
  · subst e; rw [ho] at hk; cases hk; rw [hc] at hx; cases hx
  · exact (h.block k (Array.getElem?_eq_some_iff.1 hk).1 (fun e2 => e (Option.some.inj e2))).trans hk
theorem KC.below {A B : World} (h : Below A.heap.size A B) : KC A B := fun k o hk _ => (h.block k (Array.getElem?_eq_some_iff.1 hk).1).trans hk

/-- What is remembered is made of numbers that an int holds. -/
def Rx (p : Pc) : Prop := (Lit.int .i64 p.1).wf = true ∧ (Lit.int .i64 p.2.1).wf = true
def pz : Pc := (0, 0, false)
theorem rx_get {ps : List Pc} (h : ∀ p ∈ ps, Rx p) (k : Nat) : Rx (ps.getD k pz) := by
  rw [List.getD_eq_getElem?_getD]
  by_cases hk : k < ps.length
  · rw [List.getElem?_eq_getElem hk]; exact h _ (List.getElem_mem hk)
  · rw [List.getElem?_eq_none (by omega)]; exact ⟨by decide, by decide⟩
abbrev Al := Nat × { p : Pc // Rx p }
def encs (x : Al) : Array Value := #[.int .i64 (x.1 : Int), .agg #[.int .i64 x.2.1.1, .int .i64 x.2.1.2.1, .bool x.2.1.2.2]]
/-- The k-th from behind. -/
def fk (ps : List Pc) (h : ∀ p ∈ ps, Rx p) (k : Nat) : Al := (ps.length - 1 - k, ⟨ps.getD (ps.length - 1 - k) pz, rx_get h _⟩)
def downK (ps : List Pc) (h : ∀ p ∈ ps, Rx p) (k : Nat) : List Al := (List.range k).map (fk ps h)
theorem downK_succ (ps : List Pc) (h : ∀ p ∈ ps, Rx p) (k : Nat) : downK ps h (k + 1) = downK ps h k ++ [fk ps h k] := by simp [downK, List.range_succ]
theorem downK_length (ps : List Pc) (h : ∀ p ∈ ps, Rx p) (k : Nat) : (downK ps h k).length = k := by simp [downK]
theorem pcs_at : ∀ (ps : List Pc) (k : Nat), k < ps.length → (pcs ps)[k * 3]? = some (.int .i64 (ps.getD k pz).1) ∧ (pcs ps)[k * 3 + 1]? = some (.int .i64 (ps.getD k pz).2.1) ∧ (pcs ps)[k * 3 + 2]? = some (.bool (ps.getD k pz).2.2)
  | [], k, h => by simp at h
  | p :: r, 0, _ => ⟨rfl, rfl, rfl⟩
  | p :: r, k + 1, h => by
    have e : pcs (p :: r) = pcl p ++ pcs r := rfl
    have hl : (pcl p).length = 3 := rfl
    obtain ⟨h1, h2, h3⟩ := pcs_at r k (by simpa using h)
    have hg : (p :: r).getD (k + 1) pz = r.getD k pz := rfl
    rw [e, hg, List.getElem?_append_right (by rw [hl]; omega), List.getElem?_append_right (by rw [hl]; omega), List.getElem?_append_right (by rw [hl]; omega), hl,
      show (k + 1) * 3 - 3 = k * 3 by omega, show (k + 1) * 3 + 1 - 3 = k * 3 + 1 by omega, show (k + 1) * 3 + 2 - 3 = k * 3 + 2 by omega]
    exact ⟨h1, h2, h3⟩
/-- Three cells of block b hold element k. -/
def PC (W : World) (b k : Nat) (p : Pc) : Prop := W.cell? ⟨b, k * 3, none⟩ = some (.int .i64 p.1) ∧ W.cell? ⟨b, k * 3 + 1, none⟩ = some (.int .i64 p.2.1) ∧ W.cell? ⟨b, k * 3 + 2, none⟩ = some (.bool p.2.2)
theorem PC.keep {A B : World} (h : KC A B) {b k : Nat} {p : Pc} (hp : PC A b k p) : PC B b k p := ⟨h.cell hp.1, h.cell hp.2.1, h.cell hp.2.2⟩

set_option maxRecDepth 100000 in
set_option maxHeartbeats 2000000 in
theorem back1_in (n : Nat) (hn : 1 ≤ n) (l Bs b cap : Nat) (ps : List Pc) (hps : ps.length ≤ 16) (hw : ∀ p ∈ ps, Rx p) (J Jx : List Al → World → Prop)
    (hY : ∀ pre x W, J pre W → pre.length < ps.length → YieldAt Fence.wide (n - 1) Try.prog l (encs x) W fun e W' =>
      (e = .returned (.bool true) ∧ J (pre ++ [x]) W' ∧ KC W W') ∨ (e = .returned (.bool false) ∧ Jx (pre ++ [x]) W'))
    (W : World) (hBs : W.cell? ⟨Bs, 0, none⟩ = some (.slice (some ⟨b, 0, none⟩) ps.length cap)) (hcs : ∀ k, k < ps.length → PC W b k (ps.getD k pz)) (h0 : J [] W) :
    CallsIn Fence.wide n Try.prog 159 #[.func (.yield l) #[] #[], .pointer (some ⟨Bs, 0, none⟩)] W fun e W' => (∃ v, e = .returned v) ∧
      ((∃ ys, ys = downK ps hw ps.length ∧ J ys W') ∨ (∃ pre, True ∧ Jx pre W')) := by
  have HB := Lib.hid hBs
  have HC := Lib.hid hcs
  have HY := Lib.hid hY
  have HL := Lib.hid (downK_length ps hw)
  have HS := Lib.hid (downK_succ ps hw)
  have HF := Lib.hid (show ∀ k m : Nat, m = ps.length - 1 - k → (fk ps hw k).1 = m ∧ (fk ps hw k).2.1 = ps.getD m pz from fun k m e => by subst e; exact ⟨rfl, rfl⟩)
  have H0 := Lib.hid h0
  clear hcs hY h0
  generalize fk ps hw = f at *
  generalize downK ps hw = D at *
  have hD0 : D 0 = [] := List.length_eq_zero_iff.1 (HL.out 0)
  have HD0 := Lib.hid hD0
  clear hD0
  generalize ps.length = len at *
  refine callsIn_of_wp Try.func159 rfl trivial ?_ rfl
  simp only [Try.ntmps159, List.size_toArray, List.length_cons, List.length_nil, Nat.reduceAdd, Nat.reduceSub, Array.replicate_succ, Array.replicate_zero, List.push_toArray, List.append_toArray, List.nil_append, List.cons_append]
  gi_wp2
  gi_loopw [3] (fun i wr => ∃ (k : Nat) (z : Int), k ≤ len ∧ i = .int .i64 z ∧ -1 ≤ z ∧ z ≤ 15 ∧ Hid (z = len - 1 - k ∧ J (D k) wr ∧ KC W wr))
    (fun i _ => (Go.RowKit.intOf i + 1).toNat)
  case atStart => exact ⟨0, _, Nat.zero_le _, rfl, by omega, by omega, Lib.hid ⟨by omega, by rw [HD0.out]; exact H0.out, KC.refl _⟩⟩
  case round =>
    obtain ⟨k, z, hk, rfl, hz0, hz1, HJ⟩ := hrel
    have c0 := HJ.out.2.2.cell HB.out
    by_cases hz : 0 ≤ z
    · obtain ⟨m, rfl⟩ : ∃ m : Nat, z = m := ⟨z.toNat, by omega⟩
      have hkl : k < len := by have := HJ.out.1; omega
      have hm : m < len := by have := HJ.out.1; omega
      obtain ⟨hx1, hx2⟩ := HF.out k m (by have := HJ.out.1; omega)
      obtain ⟨d0, d1, d2⟩ := (HC.out m hm).keep HJ.out.2.2
      rw [← hx2] at d0 d1 d2
      have HN := Lib.hid (HS.out k)
      obtain ⟨fn, tmps, assign, body, hy, hR⟩ := HY.out _ (f k) wr HJ.out.2.1 (by rw [HL.out]; exact hkl)
      clear hx2
      generalize f k = x at *
      obtain ⟨xi, ⟨⟨y0, y1, y2⟩, hxx⟩⟩ := x
      simp only [encs] at hy
      simp only at hx1 d0 d1 d2
      subst hx1
      clear hkl
      gi_wp2
      refine hR.mono ?_
      rintro e W3 (⟨rfl, hJ3, hk3⟩ | ⟨rfl, hJx3⟩)
      · have HJ3 := Lib.hid (show J (D (k + 1)) W3 ∧ KC W W3 from ⟨by rw [HN.out]; exact hJ3, HJ.out.2.2.trans hk3⟩)
        have HK3 := Lib.hid (show k + 1 ≤ len by have := HJ.out.1; omega)
        have HZ3 := Lib.hid HJ.out.1
        clear hJ3 hk3 hR hy
        gi_wp2
        go_roundw
        case rel => exact ⟨k + 1, _, HK3.out, rfl, by omega, by omega, Lib.hid ⟨by have := HZ3.out; omega, HJ3.out.1, HJ3.out.2⟩⟩
        case measure => simp [Go.RowKit.intOf]
      · gi_wp2
        refine bodyPost_ret (results_none rfl _ _ _) rfl ?_
        exact ⟨⟨_, rfl⟩, .inr ⟨_, trivial, hJx3⟩⟩
    · have HE := Lib.hid (show k = len by have := HJ.out.1; omega)
      gi_wp2
      go_end0
      have HJD := HJ.out.2.1
      rw [HE.out] at HJD
      first | exact ⟨⟨_, rfl⟩, .inl ⟨_, rfl, HJD⟩⟩ | exact ⟨⟨_, rfl⟩, .inl HJD⟩ | exact .inl HJD
end Go.Proofs.Ytealdpkgfmokpaa.UndoP
