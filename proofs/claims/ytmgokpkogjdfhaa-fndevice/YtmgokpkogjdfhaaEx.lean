/-
  What is proved: plain facts for the walks of the exact laws on devices: where a device's slices lie, what of boxes and devices stays behind a call or a marking, and how a device that comes in is opened.
-/
import Derived.Test.YtmgokpkogjdfhaaRows
import Derived.Test.YtmgokpkogjdfhaaLawD
import Derived.OpenShut
import Derived.Lib.SmallJoins
namespace Go.Proofs.Ytmgokpkogjdfhaa.Ex
open Go.ChangeShapes Go.WideShapes Go.ChangeAt Go.RowKit Go.Joins Go.Deep
open Sl (Sl Own Off)
open OpenSl (tc nc pc)
open Dev
open Marks (mc mp)
open LawD (Fits)
set_option linter.unusedVariables false

/-- A slice's cells lie in blocks from lo on, below hi. -/
def Lies (lo hi : Nat) (v : Value) : Prop := ∀ a n cap, v = .slice (some a) n cap → 0 < n → lo ≤ a.block ∧ a.block < hi
theorem lies_of {w : World} {base sz : Nat} {v : Value} {n : Nat} {c : Nat → Value} (h : Own w base sz v n c) (hsz : 0 < sz) : Lies base w.heap.size v := by
  obtain ⟨a, cap, rfl, h1, h2, h3⟩ := h
  intro a' n' cap' e hn
  obtain ⟨rfl, rfl, rfl⟩ : a = some a' ∧ n = n' ∧ cap = cap' := by simpa using e
  obtain ⟨b, o, ha, hb, hc⟩ := h3 hn
  obtain rfl := Option.some.inj ha
  exact ⟨hb, World.block_lt_of_cell? w _ (hc 0 (Nat.mul_pos hn hsz)).1⟩
theorem lies_sl {w : World} {sz : Nat} {v : Value} {n : Nat} {c : Nat → Value} (h : Sl w sz v n c) (hsz : 0 < sz) : Lies 0 w.heap.size v := by
  obtain ⟨a, cap, rfl, h1, h2, h3⟩ := h
  intro a' n' cap' e hn
  obtain ⟨rfl, rfl, rfl⟩ : a = some a' ∧ n = n' ∧ cap = cap' := by simpa using e
  obtain ⟨b, o, ha, hc⟩ := h3 hn
  obtain rfl := Option.some.inj ha
  exact ⟨Nat.zero_le _, World.block_lt_of_cell? w _ (hc 0 (Nat.mul_pos hn hsz))⟩
theorem Lies.off {lo hi : Nat} {v : Value} (h : Lies lo hi v) {g : Nat} (hg : g < lo ∨ hi ≤ g) : Off v g := by
  intro a n cap e hn
  have := h a n cap e hn
  omega
theorem Lies.apart {lo hi lo' hi' : Nat} {u v : Value} (h : Lies lo hi u) (h' : Lies lo' hi' v) (hd : hi ≤ lo' ∨ hi' ≤ lo) : Apart u v := by
  intro a n cap e hn
  have := h a n cap e hn
  exact h'.off (by omega)
/-- A device's two slices. -/
def LiesD (lo hi : Nat) (v : Value) : Prop := ∃ sv uv, v = .agg #[sv, uv] ∧ Lies lo hi sv ∧ Lies lo hi uv
theorem liesD {w : World} {base : Nat} {v : Value} {ts : List ByteArray} {xs : List (Int × ByteArray)} (h : DevO w base v ts xs) : LiesD base w.heap.size v := by
  obtain ⟨sv, uv, rfl, h1, h2, _⟩ := h
  exact ⟨sv, uv, rfl, lies_of h1 (by omega), lies_of h2 (by omega)⟩
theorem liesD' {w : World} {v : Value} {ts : List ByteArray} {xs : List (Int × ByteArray)} (h : Dev w v ts xs) : LiesD 0 w.heap.size v := by
  obtain ⟨sv, uv, rfl, h1, h2⟩ := h
  exact ⟨sv, uv, rfl, lies_sl h1 (by omega), lies_sl h2 (by omega)⟩

theorem box_below {u u' : World} (hb : Below u.heap.size u u') {g : Nat} {a b : Value} (c0 : u.cell? ⟨g, 0, none⟩ = some a) (c1 : u.cell? ⟨g, 1, none⟩ = some b) : u'.cell? ⟨g, 0, none⟩ = some a ∧ u'.cell? ⟨g, 1, none⟩ = some b :=
  ⟨(hb.cell (World.block_lt_of_cell? u _ c0)).trans c0, (hb.cell (World.block_lt_of_cell? u _ c1)).trans c1⟩
theorem box_turns {u u' : World} {sv uv : Value} (ht : Turns [sv, uv] u u') {lo hi : Nat} (hl : LiesD lo hi (.agg #[sv, uv])) {g : Nat} (hg : g < lo ∨ hi ≤ g) {a b : Value} (c0 : u.cell? ⟨g, 0, none⟩ = some a) (c1 : u.cell? ⟨g, 1, none⟩ = some b) : u'.cell? ⟨g, 0, none⟩ = some a ∧ u'.cell? ⟨g, 1, none⟩ = some b := by
  obtain ⟨s', v', e, l1, l2⟩ := hl
  obtain ⟨rfl, rfl⟩ : sv = s' ∧ uv = v' := by simpa using e
  have hbk : u'.heap[g]? = u.heap[g]? := ht.block g (World.block_lt_of_cell? u _ c0) (fun v hv => by
    simp at hv
    rcases hv with rfl | rfl
    · exact l1.off hg
    · exact l2.off hg)
  exact ⟨(World.cell?_of_block (w := u) hbk).trans c0, (World.cell?_of_block (w := u) hbk).trans c1⟩
theorem dev_turns {u u' : World} {sv uv : Value} (ht : Turns [sv, uv] u u') {lo hi lo' hi' : Nat} (hl : LiesD lo hi (.agg #[sv, uv])) {v : Value} {ts : List ByteArray} {xs : List (Int × ByteArray)} (hl' : LiesD lo' hi' v) (hd : hi ≤ lo' ∨ hi' ≤ lo) (h : Dev u v ts xs) : Dev u' v ts xs := by
  obtain ⟨s', v', e, l1, l2⟩ := hl
  obtain ⟨rfl, rfl⟩ : sv = s' ∧ uv = v' := by simpa using e
  obtain ⟨s2, v2, rfl, m1, m2⟩ := hl'
  obtain ⟨s3, v3, e3, h1, h2⟩ := h
  obtain ⟨rfl, rfl⟩ : s2 = s3 ∧ v2 = v3 := by simpa using e3
  refine ⟨_, _, rfl, sl_turns h1 ht (fun v hv => ?_), sl_turns h2 ht (fun v hv => ?_)⟩
  · simp at hv
    rcases hv with rfl | rfl
    · exact m1.apart l1 (by omega)
    · exact m1.apart l2 (by omega)
  · simp at hv
    rcases hv with rfl | rfl
    · exact m2.apart l1 (by omega)
    · exact m2.apart l2 (by omega)
theorem devO_turns {u u' : World} {sv uv : Value} (ht : Turns [sv, uv] u u') {lo hi lo' hi' : Nat} (hl : LiesD lo hi (.agg #[sv, uv])) {v : Value} {base : Nat} {ts : List ByteArray} {xs : List (Int × ByteArray)} (hl' : LiesD lo' hi' v) (hd : hi ≤ lo' ∨ hi' ≤ lo) (h : DevO u base v ts xs) : DevO u' base v ts xs := by
  obtain ⟨s', v', e, l1, l2⟩ := hl
  obtain ⟨rfl, rfl⟩ : sv = s' ∧ uv = v' := by simpa using e
  obtain ⟨s2, v2, rfl, m1, m2⟩ := hl'
  obtain ⟨s3, v3, e3, h1, h2, h4⟩ := h
  obtain ⟨rfl, rfl⟩ : s2 = s3 ∧ v2 = v3 := by simpa using e3
  refine ⟨_, _, rfl, own_turns h1 ht (fun v hv => ?_), own_turns h2 ht (fun v hv => ?_), h4⟩
  · simp at hv
    rcases hv with rfl | rfl
    · exact m1.apart l1 (by omega)
    · exact m1.apart l2 (by omega)
  · simp at hv
    rcases hv with rfl | rfl
    · exact m2.apart l1 (by omega)
    · exact m2.apart l2 (by omega)
theorem below_turns {u u' : World} {sv uv : Value} (ht : Turns [sv, uv] u u') {lo hi : Nat} (hl : LiesD lo hi (.agg #[sv, uv])) {B : Nat} (hB : B ≤ lo) (hu : B ≤ u.heap.size) : Below B u u' := by
  obtain ⟨s', v', e, l1, l2⟩ := hl
  obtain ⟨rfl, rfl⟩ : sv = s' ∧ uv = v' := by simpa using e
  refine ht.below hu (fun v hv k hk => ?_)
  simp at hv
  rcases hv with rfl | rfl
  · exact l1.off (by omega)
  · exact l2.off (by omega)
/-- A device is boxed. -/
theorem boxU (u : World) (t : TypeId) (a b : Value) : ∃ U, u.alloc (.cells #[a, b] t) = U ∧ Below u.heap.size u U ∧ U.heap.size = u.heap.size + 1 ∧ U.cell? ⟨u.heap.size, 0, none⟩ = some a ∧ U.cell? ⟨u.heap.size, 1, none⟩ = some b :=
  ⟨_, rfl, (Below.refl _ u).alloc (Nat.le_refl _) _, by simp, by go_simp, by go_simp⟩

theorem form {w : World} {v : Value} {ts : List ByteArray} {xs : List (Int × ByteArray)} (h : Dev w v ts xs) : ∃ a cap a' cap', v = .agg #[.slice a ts.length cap, .slice a' xs.length cap'] := by
  obtain ⟨sv, uv, rfl, h1, h2⟩ := h
  obtain ⟨a, cap, rfl, _, _⟩ := h1.form
  obtain ⟨a', cap', rfl, _, _⟩ := h2.form
  exact ⟨_, _, _, _, rfl⟩
theorem cells48 : Try.prog.cellsOf 48 = 2 := by kernel_rfl
theorem cells23 : Try.prog.cellsOf 23 = 1 := by kernel_rfl
theorem cells46 : Try.prog.cellsOf 46 = 1 := by kernel_rfl
theorem cells9 : Try.prog.cellsOf 9 = 1 := by kernel_rfl
theorem cells88 : Try.prog.cellsOf 88 = 2 := by kernel_rfl
theorem array2 {cs : Array Value} (h : cs.size = 2) : ∃ c0 c1, cs = #[c0, c1] := by
  rcases cs with ⟨l⟩
  match l, h with
  | [c0, c1], _ => exact ⟨c0, c1, rfl⟩
/-- A device by value that comes in. -/
theorem open_dev {H : Type} {enc : TypeId × Value → H} {W : World} {base b0 : Nat} {spare : Nat → Bool} {held : Bool} {v : Value} {d : DataW H} {p : List MemPlace}
    (o : Value.okWide Try.prog W .any b0 48 v) (h : DataW.Trod enc Try.prog W base spare held 48 v d p) :
    ∃ ts xs, Dev W v ts xs ∧ (∀ s ∈ ts, s.size ≤ maxLen) ∧ ∀ y ∈ xs, y.2.size ≤ maxLen := by
  obtain ⟨cs, rfl, hsz⟩ := okWide_struct Try.underlying48 o
  obtain ⟨c0, c1, rfl⟩ := array2 (hsz.trans cells48)
  obtain ⟨fuel, hf⟩ := h
  obtain ⟨y0, y1, m, _, _, h0, h1⟩ := trod_struct2 Try.underlying48 hf
  simp only [Value.cells, cells23, cells46, List.drop_zero, List.drop_succ_cons, List.take_succ_cons, List.take_zero] at h0 h1
  obtain ⟨ts, k1, k2⟩ := OpenSl.strings Try.underlying23 Try.underlying9 cells9 h0
  obtain ⟨xs, k3, k4⟩ := OpenSl.pairs Try.underlying46 Try.underlying88 (by kernel_rfl) cells88 Try.underlying3 Try.underlying9 h1
  exact ⟨ts, xs, ⟨c0, c1, rfl, k1, k3⟩, k2, fun y hy => (k4 y hy).1⟩
end Go.Proofs.Ytmgokpkogjdfhaa.Ex
