/-
  What is proved: plain facts on a block with a frozen range, and on worlds in which one block alone has turned (laws for the walks).
-/
import Derived.Test.YtifkihjjkomfiaaDoorRows
import Derived.Test.YtifkihjjkomfiaaDoorArr
import Derived.Test.YtifkihjjkomfiaaDoorWord
import Derived.WalkSpells
import Derived.Test.YtifkihjjkomfiaaDoorBytes
import Derived.Lib.ConvBytes
namespace Go.Proofs.YtifkihjjkomfiaaDoor.Flat
open Go.ChangeShapes Go.WideShapes Go.ChangeAt Go.RowKit
set_option linter.unusedVariables false

/-- Nothing but block g has turned. -/
structure Only (g : Nat) (w w' : World) : Prop where
  os : w'.os = w.os
  tape : w'.tape = w.tape
  output : w'.output = w.output
  size : w'.heap.size = w.heap.size
  block : ∀ k, k ≠ g → w'.heap[k]? = w.heap[k]?
theorem Only.refl (g : Nat) (w : World) : Only g w w := ⟨rfl, rfl, rfl, rfl, fun _ _ => rfl⟩
theorem Only.set {g : Nat} {w w' : World} (h : Only g w w') (o : Nat) (v : Value) : Only g w (w'.setCell ⟨g, o, none⟩ v) :=
  ⟨h.os, h.tape, h.output, (by simp [World.setCell]; exact h.size), fun k hk => (Below.heap_setCell w' ⟨g, o, none⟩ v k hk).trans (h.block k hk)⟩
theorem Only.drew {g : Nat} {w w' : World} (h : Only g w w') : Only g w w'.drew := ⟨h.os, h.tape, h.output, h.size, h.block⟩
theorem Only.below {g B : Nat} {w w' : World} (h : Only g w w') (hB : B ≤ g) : Below B w w' := ⟨h.os, h.tape, h.output, Nat.le_of_eq h.size.symm, fun k hk => h.block k (by omega)⟩
theorem Only.cell {g : Nat} {w w' : World} (h : Only g w w') (b o : Nat) (hb : b ≠ g) : w'.cell? ⟨b, o, none⟩ = w.cell? ⟨b, o, none⟩ := World.cell?_of_block (w := w) (h.block b hb)
theorem Only.frozen {g : Nat} {w w' : World} (h : Only g w w') (b o : Nat) (hb : b ≠ g) : w'.frozen? ⟨b, o, none⟩ = w.frozen? ⟨b, o, none⟩ := World.frozen?_of_block (w := w) (h.block b hb)

/-- Block g, whole, with its frozen range. -/
def RowF (w : World) (g : Nat) (t : TypeId) (fr : Nat × Nat) (xs : List Value) : Prop := w.heap[g]? = some (.cells xs.toArray t fr)
theorem RowF.cell {w : World} {g : Nat} {t : TypeId} {fr : Nat × Nat} {xs : List Value} (h : RowF w g t fr xs) (j : Nat) : w.cell? ⟨g, j, none⟩ = xs[j]? := by
  rw [cell_of_row w g j _ t _ h]; simp
theorem RowF.frozen {w : World} {g : Nat} {t : TypeId} {fr : Nat × Nat} {xs : List Value} (h : RowF w g t fr xs) (j : Nat) (hj : j < fr.1 ∨ fr.2 ≤ j) : w.frozen? ⟨g, j, none⟩ = false := by
  unfold RowF at h
  simp [World.frozen?, h]
  omega
theorem RowF.set {w : World} {g : Nat} {t : TypeId} {fr : Nat × Nat} {xs : List Value} (h : RowF w g t fr xs) (i : Nat) (v : Value) : RowF (w.setCell ⟨g, i, none⟩ v) g t fr (xs.set i v) := by
  unfold RowF at h ⊢
  have hl : g < w.heap.size := (Array.getElem?_eq_some_iff.1 h).1
  have hq : w.heap[g] = .cells xs.toArray t fr := (Array.getElem?_eq_some_iff.1 h).2
  simp [World.setCell, hl]
  rw [Array.getElem_modify_self]
  simp [hq]
theorem RowF.drew {w : World} {g : Nat} {t : TypeId} {fr : Nat × Nat} {xs : List Value} (h : RowF w g t fr xs) : RowF w.drew g t fr xs := h

theorem u8_xor (x y : Nat) (hx : x < 256) (hy : y < 256) : bits .xor .u8 (x : Int) (y : Int) = ((x ^^^ y : Nat) : Int) := by
  exact u8_xor_nat x y hx hy

open Word (bN bN_lt bN_at)
theorem bytes_at (w : World) (s : ByteArray) (j : Nat) (hj : j < s.size) : (Lib.bytesCells w 5 s).toList[j]? = some (.int .u8 (bN s j : Int)) := by
  have h1 := Lib.bytesWorld_cell w 5 s j hj
  have h2 := cell_of_row _ w.heap.size j _ _ _ (Lib.bytesWorld_at_new w 5 s)
  rw [h2] at h1
  rw [Array.getElem?_toList, h1]
  rfl
theorem bytes_size (w : World) (s : ByteArray) : s.size ≤ (Lib.bytesCells w 5 s).size := by
  simp [Lib.bytesCells]
theorem bytes_below (w : World) (s : ByteArray) : Below w.heap.size w (Lib.bytesWorld w 5 s) :=
  ⟨rfl, rfl, rfl, by rw [Lib.bytesWorld_size]; omega, fun k hk => Lib.bytesWorld_at_old w 5 s k hk⟩
/-- The block that '[]byte(s)' lays. -/
theorem bytes_row (w : World) (s : ByteArray) : ∃ (fr : Nat × Nat) (xs : List Value), RowF (Lib.bytesWorld w 5 s) w.heap.size 5 fr xs ∧ s.size ≤ fr.1 ∧ (∀ j, j < s.size → xs[j]? = some (.int .u8 (bN s j : Int))) ∧ Below w.heap.size w (Lib.bytesWorld w 5 s) ∧ (Lib.bytesWorld w 5 s).heap.size = w.heap.size + 1 :=
  ⟨((Lib.bytesCells w 5 s).size, (Lib.bytesCells w 5 s).size + 1), (Lib.bytesCells w 5 s).toList, Lib.bytesWorld_at_new w 5 s, bytes_size w s, bytes_at w s, bytes_below w s, Lib.bytesWorld_size w 5 s⟩
theorem bN_extract (s : ByteArray) (a b j : Nat) (hb : b ≤ s.size) (hj : a + j < b) : bN (s.extract a b) j = bN s (a + j) := by
  have h1 : j < (s.extract a b).size := by rw [ByteArray.size_extract]; omega
  rw [← bN_at _ _ h1, ← bN_at s (a + j) (by omega)]
  congr 1
  exact ByteArray.getElem_extract h1
theorem below_set {B g : Nat} {w w' : World} (h : Below B w w') (hg : B ≤ g) (o : Nat) (v : Value) : Below B w (w'.setCell ⟨g, o, none⟩ v) := h.setCell hg v
/-- 'string(v)' of a slice of the call's own. -/
theorem back (w : World) (g cap n : Nat) (bs : List UInt8) (hn : bs.length = n) (h : ∀ j (hj : j < bs.length), w.cell? ⟨g, j, none⟩ = some (.int .u8 (bs[j].toNat : Int))) :
    (convert 58 9 (.slice (some ⟨g, 0, none⟩) n cap)).run Tryd.prog w = .ok (.string ⟨bs.toArray⟩) w := by
  subst hn
  refine run_convert_bytes_back (P := Tryd.prog) w 58 9 5 ⟨g, 0, none⟩ cap bs Tryd.underlying58 Tryd.underlying5 Tryd.underlying9 ?_
  intro j hj
  have hadd : (⟨g, 0, none⟩ : Addr).add j = ⟨g, j, none⟩ := by unfold Addr.add; split <;> simp_all
  rw [hadd]
  exact h j hj
end Go.Proofs.YtifkihjjkomfiaaDoor.Flat
