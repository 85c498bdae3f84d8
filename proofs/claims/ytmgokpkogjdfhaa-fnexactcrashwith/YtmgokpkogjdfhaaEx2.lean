/-
  What is proved: plain facts for the walk of the exact law on crashes: what stays behind the marking of one slice (laws for the walks). Nothing of the program.
-/
import Derived.Test.YtmgokpkogjdfhaaRows
import Derived.Test.YtmgokpkogjdfhaaEx
namespace Go.Proofs.Ytmgokpkogjdfhaa.Ex2
open Go.ChangeShapes Go.WideShapes Go.ChangeAt Go.RowKit
open Sl (Sl Own Off)
open OpenSl (tc nc pc)
open Dev Ex
set_option linter.unusedVariables false

theorem box_turn1 {u u' : World} {x : Value} (ht : Turns [x] u u') {lo hi : Nat} (hl : Lies lo hi x) {g : Nat} (hg : g < lo ∨ hi ≤ g) {a b : Value} (c0 : u.cell? ⟨g, 0, none⟩ = some a) (c1 : u.cell? ⟨g, 1, none⟩ = some b) : u'.cell? ⟨g, 0, none⟩ = some a ∧ u'.cell? ⟨g, 1, none⟩ = some b := by
  have hbk : u'.heap[g]? = u.heap[g]? := ht.block g (World.block_lt_of_cell? u _ c0) (fun v hv => by
    simp at hv
    subst hv
    exact hl.off hg)
  exact ⟨(World.cell?_of_block (w := u) hbk).trans c0, (World.cell?_of_block (w := u) hbk).trans c1⟩
theorem dev_turn1 {u u' : World} {x : Value} (ht : Turns [x] u u') {lo hi lo' hi' : Nat} (hl : Lies lo hi x) {v : Value} {ts : List ByteArray} {xs : List (Int × ByteArray)} (hl' : LiesD lo' hi' v) (hd : hi ≤ lo' ∨ hi' ≤ lo) (h : Dev u v ts xs) : Dev u' v ts xs := by
  obtain ⟨s2, v2, rfl, m1, m2⟩ := hl'
  obtain ⟨s3, v3, e3, h1, h2⟩ := h
  obtain ⟨rfl, rfl⟩ : s2 = s3 ∧ v2 = v3 := by simpa using e3
  refine ⟨_, _, rfl, sl_turns h1 ht (fun v hv => ?_), sl_turns h2 ht (fun v hv => ?_)⟩
  · simp at hv
    subst hv
    exact m1.apart hl (by omega)
  · simp at hv
    subst hv
    exact m2.apart hl (by omega)
theorem devO_turn1 {u u' : World} {x : Value} (ht : Turns [x] u u') {lo hi lo' hi' : Nat} (hl : Lies lo hi x) {v : Value} {base : Nat} {ts : List ByteArray} {xs : List (Int × ByteArray)} (hl' : LiesD lo' hi' v) (hd : hi ≤ lo' ∨ hi' ≤ lo) (h : DevO u base v ts xs) : DevO u' base v ts xs := by
  obtain ⟨s2, v2, rfl, m1, m2⟩ := hl'
  obtain ⟨s3, v3, e3, h1, h2, h4⟩ := h
  obtain ⟨rfl, rfl⟩ : s2 = s3 ∧ v2 = v3 := by simpa using e3
  refine ⟨_, _, rfl, own_turns h1 ht (fun v hv => ?_), own_turns h2 ht (fun v hv => ?_), h4⟩
  · simp at hv
    subst hv
    exact m1.apart hl (by omega)
  · simp at hv
    subst hv
    exact m2.apart hl (by omega)
theorem below_turn1 {u u' : World} {x : Value} (ht : Turns [x] u u') {lo hi : Nat} (hl : Lies lo hi x) {B : Nat} (hB : B ≤ lo) (hu : B ≤ u.heap.size) : Below B u u' := by
  refine ht.below hu (fun v hv k hk => ?_)
  simp at hv
  subst hv
  exact hl.off (by omega)
theorem sl_turn1 {u u' : World} {x : Value} (ht : Turns [x] u u') {lo hi lo' hi' : Nat} (hl : Lies lo hi x) {sz n : Nat} {v : Value} {c : Nat → Value} (hl' : Lies lo' hi' v) (hd : hi ≤ lo' ∨ hi' ≤ lo) (h : Sl u sz v n c) : Sl u' sz v n c :=
  sl_turns h ht (fun v hv => by simp at hv; subst hv; exact hl'.apart hl (by omega))
theorem sl_turn2 {u u' : World} {sv uv : Value} (ht : Turns [sv, uv] u u') {lo hi lo' hi' : Nat} (hl : LiesD lo hi (.agg #[sv, uv])) {sz n : Nat} {v : Value} {c : Nat → Value} (hl' : Lies lo' hi' v) (hd : hi ≤ lo' ∨ hi' ≤ lo) (h : Sl u sz v n c) : Sl u' sz v n c := by
  obtain ⟨s', v', e, l1, l2⟩ := hl
  obtain ⟨rfl, rfl⟩ : sv = s' ∧ uv = v' := by simpa using e
  refine sl_turns h ht (fun v hv => ?_)
  simp at hv
  rcases hv with rfl | rfl
  · exact hl'.apart l1 (by omega)
  · exact hl'.apart l2 (by omega)
theorem own_turn2 {u u' : World} {sv uv : Value} (ht : Turns [sv, uv] u u') {lo hi lo' hi' : Nat} (hl : LiesD lo hi (.agg #[sv, uv])) {base sz n : Nat} {v : Value} {c : Nat → Value} (hl' : Lies lo' hi' v) (hd : hi ≤ lo' ∨ hi' ≤ lo) (h : Own u base sz v n c) : Own u' base sz v n c := by
  obtain ⟨s', v', e, l1, l2⟩ := hl
  obtain ⟨rfl, rfl⟩ : sv = s' ∧ uv = v' := by simpa using e
  refine own_turns h ht (fun v hv => ?_)
  simp at hv
  rcases hv with rfl | rfl
  · exact hl'.apart l1 (by omega)
  · exact hl'.apart l2 (by omega)
end Go.Proofs.Ytmgokpkogjdfhaa.Ex2
