/-
  What is proved: the program joins the leaves as they come: behind all sixteen it has the root, and the digests beside a leaf's way (contract for the walks), where the package's table holds its words.
-/
import Derived.Test.YtemlmffoehclhaaDoorRows
import Derived.Test.YtemlmffoehclhaaDoorTree2
import Derived.Deep.LoopGhost
import Derived.WalkMore
namespace Go.Proofs.YtemlmffoehclhaaDoor.Tree4
open Go.ChangeShapes Go.WideShapes Go.ChangeAt Go.RowKit
open Sl (Sl Own Off)
open Arr (Row)
open MixBlock (Tab)
open Tree1 (leafT joinT leafT_size joinT_size)
open Tree2 (lv lv_size tx sc)
set_option linter.unusedVariables false

/-- Four texts as cells; one of them changed. -/
def sc4 (d : Nat → ByteArray) : List Value := [.string (d 0), .string (d 1), .string (d 2), .string (d 3)]
def upd (d : Nat → ByteArray) (k : Nat) (x : ByteArray) (j : Nat) : ByteArray := if j = k then x else d j
theorem upd_same (d : Nat → ByteArray) (k : Nat) (x : ByteArray) : upd d k x k = x := if_pos rfl
theorem upd_other (d : Nat → ByteArray) (k j : Nat) (x : ByteArray) (h : j ≠ k) : upd d k x j = d j := if_neg h
theorem sc4_set (d : Nat → ByteArray) (k : Nat) (hk : k < 4) (x : ByteArray) : (sc4 d).set k (.string x) = sc4 (upd d k x) := by
  obtain rfl | rfl | rfl | rfl : k = 0 ∨ k = 1 ∨ k = 2 ∨ k = 3 := by omega
  all_goals rfl
theorem sc4_get (d : Nat → ByteArray) (k : Nat) (hk : k < 4) : (sc4 d)[k]? = some (.string (d k)) := by
  obtain rfl | rfl | rfl | rfl : k = 0 ∨ k = 1 ∨ k = 2 ∨ k = 3 := by omega
  all_goals rfl

def T1 (n k j : Nat) : Prop := ((n + 1) % 2 ^ k = 0 ∧ (n / 2 ^ k) % 2 = 0 ∧ ((n + 1) / 2 ^ j) % 2 = 1 ∧ j ≠ k) → (n / 2 ^ j) % 2 = 1 ∧ (n + 1) / 2 ^ j - 1 = n / 2 ^ j - 1
instance (n k j : Nat) : Decidable (T1 n k j) := by unfold T1; infer_instance
theorem num1 : ∀ n, n < 16 → ∀ k, k < 4 → ∀ j, j < 4 → T1 n k j := by decide +kernel
theorem num2 : ∀ n, n < 16 → ∀ k, k < 4 → ∀ j, j < 4 → (n + 1) % 2 ^ k = 0 → (n / 2 ^ k) % 2 = 0 → (n + 1) / 2 ^ j = (if j ≤ k then (n + 1) / 2 ^ j else n / 2 ^ j) := by decide +kernel
theorem num3 : ∀ n, n < 16 → ∀ k, k < 4 → (n + 1) % 2 ^ k = 0 → (n / 2 ^ k) % 2 = 1 → (n + 1) % 2 ^ (k + 1) = 0 ∧ 2 * (n / 2 ^ (k + 1)) = n / 2 ^ k - 1 ∧ 2 * (n / 2 ^ (k + 1)) + 1 = n / 2 ^ k := by decide +kernel
theorem num4 : ∀ n, n < 16 → ∀ k, k < 4 → (n + 1) % 2 ^ k = 0 → (n + 1) / 2 ^ k = n / 2 ^ k + 1 := by decide +kernel
theorem num5 : ∀ q, q < 16 → ∀ p, p < 16 → (q ^^^ 1 = p ↔ p ^^^ 1 = q) := by decide +kernel
theorem num6 : ∀ n, n < 16 → ∀ k, k < 4 → (n + 1) % 2 ^ k = 0 → (n / 2 ^ k) % 2 = 0 → n + 1 < 16 := by decide +kernel
theorem num7 : ∀ n, n < 16 → (n + 1) % 2 ^ 4 = 0 → n = 15 ∧ n / 2 ^ 4 = 0 := by decide +kernel
theorem num8 : ∀ n, n < 16 → ∀ k, k < 4 → n / 2 ^ k < 16 := by decide +kernel
theorem num9 : ∀ n, n < 16 → ∀ k, k < 4 → (n / 2 ^ k) ^^^ 1 < 16 / 2 ^ k := by decide +kernel

/-- What waits and what stands beside the way of leaf a, ahead of leaf n. -/
def Outer (L : Nat → Nat → ByteArray) (a n : Nat) (W B : Nat → ByteArray) : Prop :=
  (∀ j, j < 4 → (n / 2 ^ j) % 2 = 1 → W j = L j (n / 2 ^ j - 1)) ∧ ∀ j, j < 4 → (a / 2 ^ j) ^^^ 1 < n / 2 ^ j → B j = L j ((a / 2 ^ j) ^^^ 1)
/-- .. at leaf n, ahead of level k; behind the look beside. -/
def Inner (L : Nat → Nat → ByteArray) (a n k : Nat) (W B : Nat → ByteArray) (D : ByteArray) : Prop :=
  D = L k (n / 2 ^ k) ∧ (n + 1) % 2 ^ k = 0 ∧ (∀ j, j < 4 → (n / 2 ^ j) % 2 = 1 → W j = L j (n / 2 ^ j - 1)) ∧ ∀ j, j < 4 → (a / 2 ^ j) ^^^ 1 < (if j < k then (n + 1) / 2 ^ j else n / 2 ^ j) → B j = L j ((a / 2 ^ j) ^^^ 1)
def Mid (L : Nat → Nat → ByteArray) (a n k : Nat) (W B : Nat → ByteArray) (D : ByteArray) : Prop :=
  D = L k (n / 2 ^ k) ∧ (n + 1) % 2 ^ k = 0 ∧ (∀ j, j < 4 → (n / 2 ^ j) % 2 = 1 → W j = L j (n / 2 ^ j - 1)) ∧ ∀ j, j < 4 → (a / 2 ^ j) ^^^ 1 < (if j ≤ k then (n + 1) / 2 ^ j else n / 2 ^ j) → B j = L j ((a / 2 ^ j) ^^^ 1)
variable {L : Nat → Nat → ByteArray} {a n k : Nat} {W B : Nat → ByteArray} {D : ByteArray}
theorem outer0 : Outer L a 0 W B := by
  refine ⟨fun j _ h => ?_, fun j _ h => ?_⟩
  · rw [Nat.zero_div] at h; exact absurd h (by decide)
  · rw [Nat.zero_div] at h; exact absurd h (Nat.not_lt_zero _)
theorem inner0 (h : Outer L a n W B) : Inner L a n 0 W B (L 0 n) := by
  refine ⟨by rw [Nat.pow_zero, Nat.div_one], by rw [Nat.pow_zero, Nat.mod_one], h.1, fun j hj hl => h.2 j hj ?_⟩
  rwa [if_neg (Nat.not_lt_zero _)] at hl
theorem mid_miss (ha : a < 16) (hn : n < 16) (hk : k < 4) (h : Inner L a n k W B D) (hm : ¬ (n / 2 ^ k) ^^^ 1 = a / 2 ^ k) : Mid L a n k W B D := by
  refine ⟨h.1, h.2.1, h.2.2.1, fun j hj hl => h.2.2.2 j hj ?_⟩
  by_cases e : j = k
  · subst e
    rw [if_pos (Nat.le_refl _), num4 n hn j hk h.2.1] at hl
    rw [if_neg (Nat.lt_irrefl _)]
    have : ¬ (a / 2 ^ j) ^^^ 1 = n / 2 ^ j := fun e => hm ((num5 _ (num8 n hn j hk) _ (num8 a ha j hk)).2 e)
    omega
  · by_cases g : j < k
    · rw [if_pos (by omega)] at hl; rw [if_pos g]; exact hl
    · rw [if_neg (by omega)] at hl; rw [if_neg g]; exact hl
theorem mid_hit (ha : a < 16) (hn : n < 16) (hk : k < 4) (h : Inner L a n k W B D) (hm : (n / 2 ^ k) ^^^ 1 = a / 2 ^ k) : Mid L a n k W (upd B k D) D := by
  refine ⟨h.1, h.2.1, h.2.2.1, fun j hj hl => ?_⟩
  by_cases e : j = k
  · subst e
    rw [upd_same, h.1, (num5 _ (num8 n hn j hk) _ (num8 a ha j hk)).1 hm]
  · rw [upd_other _ _ _ _ e]
    refine h.2.2.2 j hj ?_
    by_cases g : j < k
    · rw [if_pos (by omega)] at hl; rw [if_pos g]; exact hl
    · rw [if_neg (by omega)] at hl; rw [if_neg g]; exact hl
theorem outer_left (hn : n < 16) (hk : k < 4) (h : Mid L a n k W B D) (he : (n / 2 ^ k) % 2 = 0) : Outer L a (n + 1) (upd W k D) B := by
  refine ⟨fun j hj h1 => ?_, fun j hj h1 => h.2.2.2 j hj (by rw [← num2 n hn k hk j hj h.2.1 he]; exact h1)⟩
  by_cases e : j = k
  · subst e
    rw [upd_same, h.1, num4 n hn j hk h.2.1, Nat.add_sub_cancel]
  · obtain ⟨o, e2⟩ := num1 n hn k hk j hj ⟨h.2.1, he, h1, e⟩
    rw [upd_other _ _ _ _ e, e2]
    exact h.2.2.1 j hj o
theorem waits (hk : k < 4) (h : Mid L a n k W B D) (ho : (n / 2 ^ k) % 2 = 1) : W k = L k (n / 2 ^ k - 1) := h.2.2.1 k hk ho
theorem inner_right (hL : ∀ k j, L (k + 1) j = joinT (L k (2 * j)) (L k (2 * j + 1))) (hn : n < 16) (hk : k < 4) (h : Mid L a n k W B D) (ho : (n / 2 ^ k) % 2 = 1) : Inner L a n (k + 1) W B (joinT (W k) D) := by
  obtain ⟨n1, n2, n3⟩ := num3 n hn k hk h.2.1 ho
  refine ⟨by rw [hL, n3, n2, h.1, waits hk h ho], n1, h.2.2.1, fun j hj hl => h.2.2.2 j hj ?_⟩
  by_cases g : j < k + 1
  · rw [if_pos g] at hl; rw [if_pos (by omega)]; exact hl
  · rw [if_neg g] at hl; rw [if_neg (by omega)]; exact hl
theorem outer_end (hn : n < 16) (h : Inner L a n 4 W B D) : n = 15 ∧ D = L 4 0 ∧ Outer L a (n + 1) W B := by
  obtain ⟨e, z⟩ := num7 n hn h.2.1
  refine ⟨e, by rw [h.1, z], fun j hj h1 => ?_, fun j hj h1 => h.2.2.2 j hj (by rw [if_pos hj]; exact h1)⟩
  subst e
  exfalso
  revert h1
  obtain rfl | rfl | rfl | rfl : j = 0 ∨ j = 1 ∨ j = 2 ∨ j = 3 := by omega
  all_goals decide
theorem outer_beside (ha : a < 16) (h : Outer L a 16 W B) (j : Nat) (hj : j < 4) : B j = L j ((a / 2 ^ j) ^^^ 1) := h.2 j hj (num9 a ha j hj)

theorem results_tmp_cell_row {fn : Func} {p u : Tmp} {ty : TypeId} {P : Program} (h : fn.results = #[.tmp u, .cell p ty]) (tmps : Array Value) (w : World) (g : Nat) (cs x : Value)
    (hp : tmps.getD p undef = .pointer (some ⟨g, 0, none⟩)) (hl : (loadVar ty ⟨g, 0, none⟩).run P w = .ok cs w) (hx : tmps.getD u undef = x) :
    (results fn tmps).run P w = .ok (.tuple #[x, cs]) w := by
  have h2 : (results fn tmps).run P w = ((asAddr (tmps.getD p undef)).run P w).andThen fun a w₁ => ((loadVar ty a).run P w₁).andThen fun v w₂ => .ok (.tuple #[tmps.getD u undef, v]) w₂ := by
    simp only [results, h]
    simp [Sem.run_bind, Result.andThen]
  rw [h2, hp, hx]
  simp [asAddr, hl]
theorem info4 (d : Nat → ByteArray) : (Tryd.prog.info? 66).map (·.size) = some (sc4 d).toArray.size := by
  show _ = some 4
  kernel_rfl
theorem load4 {w : World} {g : Nat} {t : TypeId} {d : Nat → ByteArray} (h : Row w g t (sc4 d)) : (loadVar 66 ⟨g, 0, none⟩).run Tryd.prog w = .ok (.agg (sc4 d).toArray) w :=
  run_loadVar_row w g t 66 _ (0, 0) _ h Tryd.underlying66 rfl (info4 d)
def e4 (_ : Nat) : ByteArray := ⟨#[]⟩
end Go.Proofs.YtemlmffoehclhaaDoor.Tree4
