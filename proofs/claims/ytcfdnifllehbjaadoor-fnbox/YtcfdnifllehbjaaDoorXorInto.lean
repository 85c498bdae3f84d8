/-
  What is proved: xoring bytes into a slice of the caller's own turns those bytes and nothing else (contract for the walks).
-/
import Derived.Test.YtcfdnifllehbjaaDoorRows
import Derived.Test.YtcfdnifllehbjaaDoorArr
import Derived.Test.YtcfdnifllehbjaaDoorWord
import Derived.WalkSpells
namespace Go.Proofs.YtcfdnifllehbjaaDoor.XorInto
open Go.ChangeShapes Go.WideShapes Go.ChangeAt Go.RowKit
set_option linter.unusedVariables false

/-- Nothing but block g has turned. -/
structure Only (g : Nat) (w w' : World) : Prop where
  os : w'.os = w.os
  tape : w'.tape = w.tape
  output : w'.output = w.output
  size : w'.heap.size = w.heap.size
  block : ∀ k, k ≠ g → w'.heap[k]? = w.heap[k]?
theorem Only.refl (g : Nat) (w : World) : Only g w w := ⟨rfl, rfl, rfl, rfl, fun _ _ => rfl⟩
theorem Only.set {g : Nat} {w w' : World} (h : Only g w w') (o : Nat) (v : Value) : Only g w (w'.setCell ⟨g, o, none⟩ v) :=
  ⟨h.os, h.tape, h.output, (by simp [World.setCell]; exact h.size), fun k hk => (Below.heap_setCell w' ⟨g, o, none⟩ v k hk).trans (h.block k hk)⟩
theorem Only.drew {g : Nat} {w w' : World} (h : Only g w w') : Only g w w'.drew := ⟨h.os, h.tape, h.output, h.size, h.block⟩
theorem Only.below {g B : Nat} {w w' : World} (h : Only g w w') (hB : B ≤ g) : Below B w w' := ⟨h.os, h.tape, h.output, Nat.le_of_eq h.size.symm, fun k hk => h.block k (by omega)⟩
theorem Only.cell {g : Nat} {w w' : World} (h : Only g w w') (b o : Nat) (hb : b ≠ g) : w'.cell? ⟨b, o, none⟩ = w.cell? ⟨b, o, none⟩ := World.cell?_of_block (w := w) (h.block b hb)
theorem Only.frozen {g : Nat} {w w' : World} (h : Only g w w') (b o : Nat) (hb : b ≠ g) : w'.frozen? ⟨b, o, none⟩ = w.frozen? ⟨b, o, none⟩ := World.frozen?_of_block (w := w) (h.block b hb)

/-- Block g, whole, with its frozen range. -/
def RowF (w : World) (g : Nat) (t : TypeId) (fr : Nat × Nat) (xs : List Value) : Prop := w.heap[g]? = some (.cells xs.toArray t fr)
theorem RowF.cell {w : World} {g : Nat} {t : TypeId} {fr : Nat × Nat} {xs : List Value} (h : RowF w g t fr xs) (j : Nat) : w.cell? ⟨g, j, none⟩ = xs[j]? := by
  rw [cell_of_row w g j _ t _ h]; simp
theorem RowF.frozen {w : World} {g : Nat} {t : TypeId} {fr : Nat × Nat} {xs : List Value} (h : RowF w g t fr xs) (j : Nat) (hj : j < fr.1 ∨ fr.2 ≤ j) : w.frozen? ⟨g, j, none⟩ = false := by
  unfold RowF at h
  simp [World.frozen?, h]
  omega
theorem RowF.set {w : World} {g : Nat} {t : TypeId} {fr : Nat × Nat} {xs : List Value} (h : RowF w g t fr xs) (i : Nat) (v : Value) : RowF (w.setCell ⟨g, i, none⟩ v) g t fr (xs.set i v) := by
  unfold RowF at h ⊢
  have hl : g < w.heap.size := (Array.getElem?_eq_some_iff.1 h).1
  have hq : w.heap[g] = .cells xs.toArray t fr := (Array.getElem?_eq_some_iff.1 h).2
  simp [World.setCell, hl]
  rw [Array.getElem_modify_self]
  simp [hq]
theorem RowF.drew {w : World} {g : Nat} {t : TypeId} {fr : Nat × Nat} {xs : List Value} (h : RowF w g t fr xs) : RowF w.drew g t fr xs := h

theorem u8_xor (x y : Nat) (hx : x < 256) (hy : y < 256) : bits .xor .u8 (x : Int) (y : Int) = ((x ^^^ y : Nat) : Int) := by
  exact u8_xor_nat x y hx hy

set_option maxRecDepth 100000 in
set_option maxHeartbeats 1600000 in
theorem xorInto (g o n cap g2 o2 n2 cap2 : Nat) (t : TypeId) (fr : Nat × Nat) (xs : List Value) (a b : Nat → Nat) (hg : g2 ≠ g) (hn : n ≤ n2) (hm : n2 ≤ 1000000) (w : World)
    (hr : RowF w g t fr xs) (hfr : o + n ≤ fr.1 ∨ fr.2 ≤ 0) (ha : ∀ j, j < n → xs[o + j]? = some (.int .u8 (a j : Int))) (ha2 : ∀ j, a j < 256)
    (hb : ∀ j, j < n → w.cell? ⟨g2, o2 + j, none⟩ = some (.int .u8 (b j : Int))) (hb2 : ∀ j, b j < 256) :
    Calls Tryd.prog 36 #[.slice (some ⟨g, o, none⟩) n cap, .slice (some ⟨g2, o2, none⟩) n2 cap2] w fun e' w' => e' = .returned (.tuple #[]) ∧
      Hid (Only g w w' ∧ ∃ ys, RowF w' g t fr ys ∧ ys.length = xs.length ∧ (∀ j, j < n → ys[o + j]? = some (.int .u8 ((a j ^^^ b j : Nat) : Int))) ∧ ∀ j, (j < o ∨ o + n ≤ j) → ys[j]? = xs[j]?) := by
  have HR := Lib.hid hr
  have HFR := Lib.hid hfr
  have HA := Lib.hid ha
  have HA2 := Lib.hid ha2
  have HB := Lib.hid hb
  have HB2 := Lib.hid hb2
  clear hr hfr ha ha2 hb hb2
  go_enter Tryd.func36, Tryd.ntmps36
  go_wp2
  go_loopw [7] (fun i wr => ∃ (k : Nat) (ys : List Value), k ≤ n ∧ i = .int .i64 k ∧ Hid (Only g w wr ∧ RowF wr g t fr ys ∧ ys.length = xs.length ∧ (∀ j, j < k → ys[o + j]? = some (.int .u8 ((a j ^^^ b j : Nat) : Int))) ∧ ∀ j, (j < o ∨ o + k ≤ j) → ys[j]? = xs[j]?)) (fun i _ => n - (intOf i).toNat)
  case atStart => exact ⟨0, xs, by omega, rfl, Lib.hid ⟨Only.refl _ _, HR.out, rfl, fun j h => by omega, fun j _ => rfl⟩⟩
  case round =>
    rename_i wr
    obtain ⟨k, ys, hk, rfl, HX⟩ := hrel
    by_cases hlt : k < n
    · obtain ⟨h1, h2, h3, h4, h5⟩ := HX.out
      have c0 := h2.cell (o + k)
      rw [h5 (o + k) (by omega), HA.out k hlt] at c0
      have c1 := (h1.cell g2 (o2 + k) hg).trans (HB.out k hlt)
      have f0 := h2.frozen (o + k) (by have := HFR.out; omega)
      have x0 := HA2.out k
      have y0 := HB2.out k
      have HXR := Lib.hid (u8_xor (a k) (b k) x0 y0)
      have hlen := Lib.hid (show o + k < xs.length from (List.getElem?_eq_some_iff.1 (HA.out k hlt)).1)
      clear h1 h2 h3 h4 h5 x0 y0
      generalize hak : a k = ak at *
      generalize hbk : b k = bk at *
      have HAK := Lib.hid hak
      have HBK := Lib.hid hbk
      clear hak hbk
      have q0 : ∀ k', (World.mk wr.heap wr.tape k' wr.os wr.output).cell? ⟨g, o + k, none⟩ = some (.int .u8 (ak : Int)) := fun _ => c0
      have q1 : ∀ k', (World.mk wr.heap wr.tape k' wr.os wr.output).cell? ⟨g2, o2 + k, none⟩ = some (.int .u8 (bk : Int)) := fun _ => c1
      have i1 : (k : Int) < (n : Int) := by omega
      have i2 : (k : Int) < (n2 : Int) := by omega
      have i3 : (0 : Int) ≤ (k : Int) := by omega
      go_wp2
      go_still_tail 10, (by kernel_rfl)
      clear q0 q1
      change wpList _ _ _ _ _ wr.drew
      go_wp2
      rw [HXR.out]
      go_roundw
      case rel =>
        obtain ⟨h1, h2, h3, h4, h5⟩ := HX.out
        refine ⟨k + 1, ys.set (o + k) (.int .u8 ((ak ^^^ bk : Nat) : Int)), by omega, by go_num, Lib.hid ⟨(h1.set _ _).drew, (h2.set _ _).drew, by simp [h3], fun j hj => ?_, fun j hj => ?_⟩⟩
        · by_cases e : j = k
          · rw [e, List.getElem?_set_self (by have := hlen.out; omega), HAK.out, HBK.out]
          · rw [List.getElem?_set_ne (by omega)]; exact h4 j (by omega)
        · rw [List.getElem?_set_ne (by omega)]; exact h5 j (by omega)
      case measure => simp [intOf]; omega
    · have hk2 := Lib.hid (show k = n by omega)
      go_wp2
      go_end0
      obtain ⟨h1, h2, h3, h4, h5⟩ := HX.out
      rw [hk2.out] at h4 h5
      exact ⟨rfl, Lib.hid ⟨h1, ys, h2, h3, h4, h5⟩⟩
end Go.Proofs.YtcfdnifllehbjaaDoor.XorInto
