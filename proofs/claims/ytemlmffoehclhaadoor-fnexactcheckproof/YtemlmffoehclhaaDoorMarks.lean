/-
  What is proved: the laws' marks: a mark's text is a plain function of its number; slices are marked cell by cell, and found so (contracts for the walks).
-/
import Derived.Test.YtemlmffoehclhaaDoorRows
import Derived.Test.YtemlmffoehclhaaDoorLawS
import Derived.Test.YtemlmffoehclhaaDoorFlat
namespace Go.Proofs.YtemlmffoehclhaaDoor.Marks
open Go.ChangeShapes Go.WideShapes Go.ChangeAt Go.RowKit
open Sl (Sl Own Off)
open Dev
set_option linter.unusedVariables false

/-- The digits of k ahead of out. -/
def ml (k : Nat) (out : List UInt8) : List UInt8 := if h : k = 0 then out else ml (k / 10) (UInt8.ofNat (48 + k % 10) :: out)
termination_by k
decreasing_by omega
theorem ml_zero (out : List UInt8) : ml 0 out = out := by unfold ml; rfl
theorem ml_step {k : Nat} (h : k ≠ 0) (out : List UInt8) : ml k out = ml (k / 10) (UInt8.ofNat (48 + k % 10) :: out) := by
  rw [ml]; rw [dif_neg h]
/-- The text of the mark k. -/
def mt (k : Nat) : ByteArray := if k = 0 then ⟨#[109, 48]⟩ else ⟨(109 :: ml k []).toArray⟩

theorem back1 (y : Nat) (hy : y < 256) (u : World) (g : Nat) (h : u.cell? ⟨g, 0, none⟩ = some (.int .u8 (y : Int))) : (convert 22 9 (.slice (some ⟨g, 0, none⟩) 1 1)).run Tryd.prog u = .ok (.string ⟨#[UInt8.ofNat y]⟩) u := by
  refine Flat.back u g 1 1 [UInt8.ofNat y] rfl fun j hj => ?_
  obtain rfl : j = 0 := by simp at hj; omega
  rw [h]
  show _ = some (Value.int .u8 ((UInt8.ofNat y).toNat : Int))
  rw [UInt8.toNat_ofNat', Nat.mod_eq_of_lt hy]

set_option maxRecDepth 100000 in
set_option maxHeartbeats 800000 in
theorem markText (k : Nat) (hk : k ≤ 100000000) (w : World) :
    Calls Tryd.prog 68 #[.int .i64 k] w fun e w' => e = .returned (.string (mt k)) ∧ Below w.heap.size w w' := by
  by_cases h0 : k = 0
  · subst h0
    go_enter Tryd.func68, Tryd.ntmps68
    go_wp2
    go_ret
    exact ⟨rfl, Below.refl _ _⟩
  · have HM := Lib.hid (show mt k = ⟨(109 :: ml k []).toArray⟩ by unfold mt; rw [if_neg h0])
    have hk0 : ¬ (k : Int) ≤ 0 := by omega
    go_enter Tryd.func68, Tryd.ntmps68
    go_wp2
    go_loopw [0, 3] (fun x t wr => ∃ (q : Nat) (bs : List UInt8), x = .int .i64 q ∧ t = .string ⟨bs.toArray⟩ ∧ bs.length + q ≤ k ∧ Hid (ml k [] = ml q bs ∧ Below w.heap.size w wr)) (fun x t _ => (intOf x).toNat)
    case atStart => exact ⟨k, [], rfl, rfl, by simp, Lib.hid ⟨rfl, Below.refl _ _⟩⟩
    case round =>
      rename_i wr
      obtain ⟨q, bs, rfl, rfl, hlen, HX⟩ := hrel
      by_cases hq : 0 < q
      · have hq2 := Lib.hid hq
        obtain ⟨y, ey⟩ : ∃ y, 48 + q % 10 = y := ⟨_, rfl⟩
        have hy : y < 256 := by omega
        have e1 : (48 : Int) + (q : Int) % 10 = (y : Int) := by omega
        have e2 : IntKind.u8.wrap (y : Int) = y := by rw [IntKind.wrap_u8']; omega
        have e3 : (y : Int) % 256 = y := by omega
        have hcv := back1 y hy (wr.alloc (.cells #[.int .u8 (y : Int)] 5)) wr.heap.size (by rw [cell_of_row _ wr.heap.size 0 #[.int .u8 (y : Int)] 5 (0, 0) (heap_alloc_new wr _)]; rfl)
        go_wp2
        go_roundw
        case rel =>
          refine ⟨q / 10, UInt8.ofNat y :: bs, by go_num, ?_, by simp; omega, Lib.hid ⟨HX.out.1.trans ?_, HX.out.2.alloc HX.out.2.size _⟩⟩
          · congr 1
          · rw [ml_step (by have := hq2.out; omega), ey]
        case measure => simp [intOf]; omega
      · have hq2 := Lib.hid (show q = 0 by omega)
        go_wp2
        go_ret
        refine ⟨?_, HX.out.2⟩
        show Ending.returned (Value.string _) = _
        rw [HM.out, HX.out.1, hq2.out, ml_zero]
        congr 2

/-- The cells of marked texts, of marked writes. -/
def mc (k j : Nat) : Value := .string (mt (k + j))
def mp (k j : Nat) : Value := if j % 2 = 0 then .int .i64 ((k + j : Nat) : Int) else .string (mt (k + j))
theorem mp_even (k i : Nat) : mp k (i * 2) = .int .i64 ((k + i * 2 : Nat) : Int) := by unfold mp; rw [if_pos (by omega)]
theorem mp_odd (k i : Nat) : mp k (i * 2 + 1) = .string (mt (k + i * 2 + 1)) := by unfold mp; rw [if_neg (by omega)]; rfl

set_option maxRecDepth 100000 in
set_option maxHeartbeats 800000 in
theorem markStringS (w : World) (base : Nat) (v : Value) (n : Nat) (c : Nat → Value) (h : Own w base 1 v n c) (k : Nat) (hk : k + n ≤ 10000000) :
    Calls Tryd.prog 39 #[v, .int .i64 k] w fun e w' => e = .returned (.int .i64 ((k + n : Nat) : Int)) ∧ Own w' base 1 v n (mc k) ∧ Turns [v] w w' := by
  obtain ⟨a, cap, rfl, h1, h2, h3⟩ := h
  have HO := Lib.hid (show Own w base 1 (.slice a n cap) n c from ⟨a, cap, rfl, h1, h2, h3⟩)
  clear h3
  unfold maxLen at h2
  go_enter Tryd.func39, Tryd.ntmps39
  go_wp2
  go_loopw [1, 5] (fun q i wr => ∃ j m : Nat, j ≤ n ∧ q = .int .i64 m ∧ i = .int .i64 j ∧ Hid (m = k + j ∧ Own wr base 1 (.slice a n cap) n (fun l => if l < j then mc k l else c l) ∧ Turns [.slice a n cap] w wr)) (fun q i _ => n - (intOf i).toNat)
  case atStart => exact ⟨0, k, by omega, rfl, rfl, Lib.hid ⟨rfl, HO.out.congr (fun j _ => by rw [if_neg (by omega)]), Turns.refl _ _⟩⟩
  case round =>
    rename_i wr
    obtain ⟨j, m, hj, rfl, rfl, HX⟩ := hrel
    by_cases hlt : j < n
    · have hm : m ≤ 10000000 := by have := HX.out.1; omega
      go_wp2_with fail
      refine (markText m (by omega) wr).mono ?_
      rintro e w1 ⟨rfl, hb⟩
      have HX2 := Lib.hid (show Own w1 base 1 (.slice a n cap) n (fun l => if l < j then mc k l else c l) ∧ Turns [.slice a n cap] w w1 from ⟨HX.out.2.1.below hb, HX.out.2.2.trans (Turns.of_below hb)⟩)
      have HM := Lib.hid (show mc k j = .string (mt m) by unfold mc; rw [HX.out.1])
      clear hb
      obtain ⟨b, o, rfl, hb', hc'⟩ := HX2.out.1.at (by omega)
      obtain ⟨c2, f2⟩ := hc' j (by omega)
      rw [if_neg (by omega)] at c2
      clear hc' hb'
      generalize mt m = t at *
      generalize c j = cj at *
      go_wp2
      go_roundw
      case rel =>
        refine ⟨j + 1, m + 1, by omega, by go_num, by go_num, Lib.hid ⟨by have := HX.out.1; omega, (HX2.out.1.set j (by omega) _).congr (fun l hl => ?_), HX2.out.2.set (o := o) (n := n) (cap := cap) (by simp) (by omega) _ _⟩⟩
        show (if l = j then _ else if l < j then _ else _) = if l < j + 1 then _ else _
        by_cases ej : l = j
        · rw [if_pos ej, if_pos (by omega), ej, HM.out]
        · rw [if_neg ej]
          by_cases h5 : l < j
          · rw [if_pos h5, if_pos (by omega)]
          · rw [if_neg h5, if_neg (by omega)]
      case measure => simp [intOf]; omega
    · have hj2 := Lib.hid (show j = n by omega)
      go_wp2
      go_ret
      refine ⟨?_, HX.out.2.1.congr (fun l hl => by rw [if_pos (by rw [hj2.out]; omega)]), HX.out.2.2⟩
      show Ending.returned (Value.int .i64 (m : Int)) = _
      rw [HX.out.1, hj2.out]

set_option maxRecDepth 100000 in
set_option maxHeartbeats 800000 in
theorem heldStringS (w : World) (v : Value) (n : Nat) (k : Nat) (h : Sl w 1 v n (mc k)) (hk : k + n ≤ 10000000) :
    Calls Tryd.prog 40 #[v, .int .i64 k] w fun e w' => e = .returned (.int .i64 ((k + n : Nat) : Int)) ∧ Below w.heap.size w w' := by
  obtain ⟨a, cap, rfl, h1, h2, h3⟩ := h
  have H3 := Lib.hid h3
  clear h3
  unfold maxLen at h2
  go_enter Tryd.func40, Tryd.ntmps40
  go_wp2
  go_loopw [1, 5] (fun q i wr => ∃ j m : Nat, j ≤ n ∧ q = .int .i64 m ∧ i = .int .i64 j ∧ Hid (m = k + j ∧ Below w.heap.size w wr)) (fun q i _ => n - (intOf i).toNat)
  case atStart => exact ⟨0, k, by omega, rfl, rfl, Lib.hid ⟨rfl, Below.refl _ _⟩⟩
  case round =>
    rename_i wr
    obtain ⟨j, m, hj, rfl, rfl, HX⟩ := hrel
    by_cases hlt : j < n
    · have hm : m ≤ 10000000 := by have := HX.out.1; omega
      obtain ⟨b, o, rfl, hc⟩ := H3.out (by omega)
      have c0 := hc j (by omega)
      rw [← HX.out.2.cell (World.block_lt_of_cell? w _ c0), show mc k j = .string (mt m) by unfold mc; rw [HX.out.1]] at c0
      have C := Lib.hid (fun u => markText m (by omega) u)
      clear hc
      generalize mt m = t at *
      have i1 : (j : Int) < (n : Int) := by omega
      have i3 : (0 : Int) ≤ (j : Int) := by omega
      have HL := Lib.hid (show b < wr.heap.size from World.block_lt_of_cell? wr _ c0)
      have HC0 := Lib.hid c0
      go_wp2
      go_region_with ((go_at_call 68; refine (C.out _).mono ?_; rintro e u1 ⟨rfl, hb⟩; have c9 := (hb.cell (p := ⟨b, o + j, none⟩) HL.out).trans HC0.out; have HB9 := Lib.hid hb; clear hb))
      all_goals
        have HB2 := Lib.hid ((below_drewN HX.out.2 _).trans (HB9.out.mono HX.out.2.size))
        clear HB9
        go_wp2
        go_roundw
        case rel => exact ⟨j + 1, m + 1, by omega, by go_num, by go_num, Lib.hid ⟨by have := HX.out.1; omega, by first | exact HB2.out | exact below_drewN HB2.out _⟩⟩
        case measure => simp [intOf]; omega
    · have hj2 := Lib.hid (show j = n by omega)
      go_wp2
      go_ret
      refine ⟨?_, HX.out.2⟩
      show Ending.returned (Value.int .i64 (m : Int)) = _
      rw [HX.out.1, hj2.out]

end Go.Proofs.YtemlmffoehclhaaDoor.Marks
