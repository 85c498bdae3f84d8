/-
  What is proved: plain facts on slices of bytes that a call makes for itself: how they are made, appended to and turned into a text (laws for the walks).
-/
import Derived.Test.YtealdpkgfmokpaaRows
import Derived.WalkKit
import Derived.WalkLawsBesides
import Derived.ProofKit
import Derived.Outline
import Derived.Lib.Hide
import Derived.Below
import Derived.Deep.RegionHeld3
import Derived.Deep.AppendLies
import Derived.Deep.QuietTactic
import Derived.BigQuiet
import Derived.Laws.BytesString
import Derived.Laws.IdiomStrings
import Derived.Laws.BitsAllLaws
namespace Go.Proofs.Ytealdpkgfmokpaa.Bytes
open Go.ChangeShapes Go.WideShapes Go.ChangeAt Go.RowKit

/-- Bytes as the cells of a row. -/
def BV (bs : List UInt8) : List Value := bs.map fun b => .int .u8 (b.toNat : Int)
theorem BV_append (a b : List UInt8) : BV (a ++ b) = BV a ++ BV b := by simp [BV]
theorem BV_length (a : List UInt8) : (BV a).length = a.length := by simp [BV]
theorem BV_one (a : List UInt8) : ∀ u ∈ BV a, u.oneCell' = true := by
  intro u hu
  simp only [BV, List.mem_map] at hu
  obtain ⟨b, _, rfl⟩ := hu
  rfl

/-- The slice v, of the call's own, holds the bytes bs. -/
def Owns (w : World) (base : Nat) (v : Value) (bs : List UInt8) : Prop := w.ownsRow base 5 1 v bs.length (BV bs)

theorem info5 : (Try.prog.info? 5).map (fun i => (i.zero, i.size, i.bytes)) = some (some (.int .u8 0), 1, 1) := by kernel_rfl

theorem Owns.drew {w : World} {base : Nat} {v : Value} {bs : List UInt8} (h : Owns w base v bs) : Owns w.drew base v bs := h
theorem Owns.alloc {w : World} {base : Nat} {v : Value} {bs : List UInt8} (h : Owns w base v bs) (o : Obj) : Owns (w.alloc o) base v bs := World.ownsRow.alloc h o
theorem Owns.length {w : World} {base : Nat} {v : Value} {bs : List UInt8} (h : Owns w base v bs) : ∃ a cap, v = .slice a bs.length cap := by
  obtain ⟨hl, h⟩ := h
  rcases h with ⟨rfl, hn⟩ | ⟨g, cap, cur, rfl, _⟩
  · exact ⟨none, 0, by rw [hn]⟩
  · exact ⟨_, _, rfl⟩
theorem Owns.block {w : World} {base : Nat} {v : Value} {bs : List UInt8} (h : Owns w base v bs) : ∀ k, v.ownBlock = some k → base ≤ k := fun k hk => (World.ownsRow.lt h k hk).1

/-- The empty row that 'make([]byte, 0, c)' lays. -/
theorem owns_made (w : World) (base cap : Nat) (cur : Array Value) (hb : base ≤ w.heap.size) (hm : cap ≤ maxLen) (hs : cur.size = cap) :
    Owns (w.alloc (.cells cur 5)) base (.slice (some ⟨w.heap.size, 0, none⟩) 0 cap) [] :=
  World.ownsRow_made w cur cap hb hm (by omega)
theorem owns_lit (w : World) (base : Nat) (bs : List UInt8) (hb : base ≤ w.heap.size) (hm : bs.length ≤ maxLen) :
    Owns (w.alloc (.cells (BV bs).toArray 5)) base (.slice (some ⟨w.heap.size, 0, none⟩) bs.length bs.length) bs := by
  have := World.ownsRow_lit (base := base) (e := 5) (size := 1) w (BV bs).toArray bs.length hb hm (by simp [BV])
  simpa [Owns] using this

/-- What stands behind an append of the call's own: the value, its bytes, and that nothing old has turned. -/
theorem owns_grown {w1 : World} {base g cap n : Nat} {bs news : List UInt8} (h : w1.ownsRow base 5 1 (.slice (some ⟨g, 0, none⟩) (bs.length + n) cap) (bs.length + n) (BV bs ++ BV news)) (hn : news.length = n) :
    Owns w1 base (.slice (some ⟨g, 0, none⟩) (bs.length + n) cap) (bs ++ news) := by
  unfold Owns
  rw [BV_append, List.length_append, hn]
  exact h
end Go.Proofs.Ytealdpkgfmokpaa.Bytes
