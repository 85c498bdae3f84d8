/-
  What is proved: both MapOK answer the plain test of a map (contracts for the walks).
-/
import Derived.Test.YtealdpkgfmokpaaRows
import Derived.Test.YtealdpkgfmokpaaMapP
import Derived.Test.YtealdpkgfmokpaaOpB
namespace Go.Proofs.Ytealdpkgfmokpaa.MapOk
open Go.ChangeShapes Go.WideShapes Go.ChangeAt Go.RowKit
open Sl (Sl Own Off)
open Dev Orm LawE MapP
open OpB (isCell l01In)
set_option linter.unusedVariables false

/-- The key of the entry ahead, 0 ahead of the first. -/
def be (xs : List En) (k : Nat) : Int := if k = 0 then 0 else (xs.getD (k - 1) (0, 0)).1
theorem be_succ (xs : List En) (k : Nat) : be xs (k + 1) = (xs.getD k (0, 0)).1 := by unfold be; rw [if_neg (by omega), Nat.add_sub_cancel]
theorem be_in {xs : List En} {k : Nat} (hk : k ≤ xs.length) (h : ∀ j, j < k → Gd xs j) : 0 ≤ be xs k ∧ be xs k ≤ 9999 := by
  unfold be
  by_cases e : k = 0
  · rw [if_pos e]; omega
  · rw [if_neg e]
    have := (h (k - 1) (by omega)).1
    unfold Kv at this
    omega
theorem gd_iff {xs : List En} {k : Nat} (h : ∀ j, j < k → Gd xs j) (hk : k ≤ xs.length) : Gd xs k ↔ be xs k < (xs.getD k (0, 0)).1 ∧ (xs.getD k (0, 0)).1 ≤ 9999 ∧ 0 ≤ (xs.getD k (0, 0)).2 ∧ (xs.getD k (0, 0)).2 ≤ 999999 := by
  have hb := be_in hk h
  unfold Gd Kv
  constructor
  · rintro ⟨⟨h1, h2, h3, h4⟩, h5⟩
    refine ⟨?_, h2, h3, h4⟩
    unfold be
    by_cases e : k = 0
    · rw [if_pos e]; omega
    · rw [if_neg e]; exact h5 (by omega)
  · rintro ⟨h1, h2, h3, h4⟩
    refine ⟨⟨by omega, h2, h3, h4⟩, fun h0 => ?_⟩
    unfold be at h1
    rwa [if_neg (by omega)] at h1
theorem gd_next {xs : List En} {k : Nat} (h : ∀ j, j < k → Gd xs j) (hg : Gd xs k) : ∀ j, j < k + 1 → Gd xs j := fun j hj => by
  by_cases e : j = k
  · rw [e]; exact hg
  · exact h j (by omega)

/-- An entry is boxed. -/
theorem box2 (u : World) (t : TypeId) (a b : Value) : ∃ U, u.alloc (.cells #[a, b] t) = U ∧ Below u.heap.size u U ∧ U.heap.size = u.heap.size + 1 ∧ U.cell? ⟨u.heap.size, 0, none⟩ = some a ∧ U.cell? ⟨u.heap.size, 1, none⟩ = some b ∧ U.frozen? ⟨u.heap.size, 0, none⟩ = false ∧ U.frozen? ⟨u.heap.size, 1, none⟩ = false :=
  ⟨_, rfl, (Below.refl _ u).alloc (Nat.le_refl _) _, by simp, by go_simp, by go_simp, by go_simp, by go_simp⟩

set_option maxRecDepth 100000 in
set_option maxHeartbeats 1600000 in
theorem implOk (w : World) (v : Value) (xs : List En) (h : Sl w 2 v xs.length (ec xs)) (q : Bool) (hq : decide (MOk xs) = q) :
    Calls Try.prog 121 #[v] w fun e w' => e = .returned (.bool q) ∧ Below w.heap.size w w' := by
  obtain ⟨a, cap, rfl, h1, h2, h3⟩ := h
  have H3 := Lib.hid h3
  unfold maxLen at h2
  clear h3
  have HNO := Lib.hid (show ∀ k, k < xs.length → ¬ Gd xs k → q = false from fun k hk hn => by rw [← hq]; exact decide_eq_false (fun h => hn (h.2 k hk)))
  have HLN := Lib.hid (show 11 < xs.length → q = false from fun hl => by rw [← hq]; exact decide_eq_false (fun h => by have := h.1; omega))
  have HYES := Lib.hid (show xs.length ≤ 11 → (∀ k, k < xs.length → Gd xs k) → q = true from fun hl hg => by rw [← hq]; exact decide_eq_true ⟨hl, hg⟩)
  have HGI := Lib.hid (fun k (h : ∀ j, j < k → Gd xs j) (hk : k ≤ xs.length) => gd_iff h hk)
  have HBI := Lib.hid (fun k (hk : k ≤ xs.length) (h : ∀ j, j < k → Gd xs j) => be_in hk h)
  clear hq
  generalize xs.length = n at *
  by_cases hl : 11 < n
  · obtain rfl := HLN.out hl
    go_enter Try.func121, Try.ntmps121
    go_wp2_with fail
    go_ret
    exact ⟨rfl, Below.refl _ _⟩
  have HBE := Lib.hid (fun k => be_succ xs k)
  have HB0 := Lib.hid (show be xs 0 = 0 from rfl)
  go_enter Try.func121, Try.ntmps121
  go_wp2
  go_loopw [3, 11] (fun b i wz => ∃ (k : Nat) (wr : World) (y : Int), wr = wz ∧ k ≤ n ∧ b = .int .i64 y ∧ i = .int .i64 k ∧ Hid (y = be xs k ∧ Below w.heap.size w wr ∧ ∀ j, j < k → Gd xs j)) (fun b i _ => n - (Go.RowKit.intOf i).toNat)
  case atStart => exact ⟨0, _, 0, rfl, by omega, rfl, rfl, Lib.hid ⟨rfl, Below.refl _ _, fun j hj => by omega⟩⟩
  case round =>
    obtain ⟨k, wr, y, rfl, hk, rfl, rfl, HJ⟩ := hrel
    by_cases hlt : k < n
    · obtain ⟨b, o, rfl, hc⟩ := H3.out (by omega)
      have c0 := hc (k * 2) (by omega)
      have c1 := hc (k * 2 + 1) (by omega)
      rw [← HJ.out.2.1.cell (World.block_lt_of_cell? _ _ c0), ec0] at c0
      rw [← HJ.out.2.1.cell (World.block_lt_of_cell? _ _ c1), ec1, ← Nat.add_assoc] at c1
      have HG := Lib.hid (HGI.out k HJ.out.2.2 hk)
      have HBK := Lib.hid (HBI.out k hk HJ.out.2.2)
      have HN := Lib.hid (HNO.out k hlt)
      have HX := Lib.hid (fun hg => gd_next HJ.out.2.2 (k := k) hg)
      have HBS := Lib.hid (HBE.out k)
      rw [← HJ.out.1] at HG HBK
      clear hc
      generalize xs.getD k (0, 0) = z at *
      obtain ⟨z0, z1⟩ := z
      simp only at c0 c1 HG HBS
      obtain ⟨U, e1, hb, hz, d0, d1, _, _⟩ := box2 wr 117 (.int .i64 z0) (.int .i64 z1)
      obtain ⟨G, eG⟩ : ∃ G, wr.heap.size = G := ⟨_, rfl⟩
      rw [eG] at d0 d1
      have HBU := Lib.hid (HJ.out.2.1.trans (hb.mono HJ.out.2.1.size))
      have HCE := Lib.hid (fun u => isCell z1 u)
      clear hb hz
      by_cases g1 : z0 ≤ y
      · obtain rfl := HN.out (fun h => by have := HG.out.1 h; omega)
        have q1 : decide (z0 ≤ y) = true := decide_eq_true g1
        clear g1
        go_wp2_with fail
        go_ret
        exact ⟨rfl, HBU.out⟩
      have q1 : decide (z0 ≤ y) = false := decide_eq_false g1
      by_cases g2 : z0 > 9999
      · obtain rfl := HN.out (fun h => by have := HG.out.1 h; omega)
        have q2 : decide (z0 > 9999) = true := decide_eq_true g2
        clear g1 g2
        go_wp2_with fail
        go_ret
        exact ⟨rfl, HBU.out⟩
      have q2 : decide (z0 > 9999) = false := decide_eq_false g2
      by_cases g3 : 0 ≤ z1 ∧ z1 ≤ 999999
      case neg =>
        obtain rfl := HN.out (fun h => g3 (HG.out.1 h).2.2)
        rw [decide_eq_false g3] at HCE
        clear g1 g2 g3
        go_wp2_with (go_at_call 67; refine (HCE.out _).mono ?_; rintro e u1 ⟨rfl, rfl⟩)
        go_ret
        exact ⟨rfl, HBU.out⟩
      rw [decide_eq_true g3] at HCE
      have HN2 := Lib.hid (HX.out (HG.out.2 ⟨by omega, by omega, g3⟩))
      clear g1 g2 g3
      go_wp2_with (go_at_call 67; refine (HCE.out _).mono ?_; rintro e u1 ⟨rfl, rfl⟩)
      go_roundw
      case rel => exact ⟨k + 1, _, z0, rfl, by omega, rfl, by go_num, Lib.hid ⟨HBS.out.symm, HBU.out, HN2.out⟩⟩
      case measure => simp [Go.RowKit.intOf]; omega
    · have hk2 := Lib.hid (show k = n by omega)
      obtain rfl := HYES.out (by omega) (fun j hj => HJ.out.2.2 j (by have := hk2.out; omega))
      go_wp2
      go_ret
      exact ⟨rfl, HJ.out.2.1⟩
end Go.Proofs.Ytealdpkgfmokpaa.MapOk
