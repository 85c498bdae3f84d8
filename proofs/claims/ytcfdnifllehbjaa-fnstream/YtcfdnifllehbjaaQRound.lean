/-
  What is proved: both calls of a quarter round answer one plain function of four numbers; the law on them returns true (the walk).
-/
import Derived.Test.YtcfdnifllehbjaaRows
import Derived.Test.YtcfdnifllehbjaaQuarter
import Derived.Test.YtcfdnifllehbjaaArr
import Derived.OpenShut
import Derived.Lib.SmallJoins
namespace Go.Proofs.Ytcfdnifllehbjaa.QRound
open Go.ChangeShapes Go.WideShapes Go.ChangeAt Go.RowKit
open Quarter (Q4 qr agg4 bcell)
open Arr (Row)
set_option linter.unusedVariables false

/-- A word. -/
def inW (x : Int) : Prop := 0 ≤ x ∧ x ≤ 4294967295
instance (x : Int) : Decidable (inW x) := inferInstanceAs (Decidable (_ ∧ _))
def resQ (x0 x1 x2 x3 : Int) : Value := if inW x0 ∧ inW x1 ∧ inW x2 ∧ inW x3 then .tuple #[agg4 .i64 (qr ⟨x0.toNat, x1.toNat, x2.toNat, x3.toNat⟩), .int .i64 0] else .tuple #[.agg #[.int .i64 0, .int .i64 0, .int .i64 0, .int .i64 0], .int .i64 4]
def sel (x0 x1 x2 x3 : Int) : Nat → Int
  | 0 => x0
  | 1 => x1
  | 2 => x2
  | _ => x3
theorem resQ_bad {x0 x1 x2 x3 : Int} (k : Nat) (hk : k < 4) (h : ¬ inW (sel x0 x1 x2 x3 k)) : resQ x0 x1 x2 x3 = .tuple #[.agg #[.int .i64 0, .int .i64 0, .int .i64 0, .int .i64 0], .int .i64 4] := by
  unfold resQ
  rw [if_neg]
  rintro ⟨h0, h1, h2, h3⟩
  match k, hk with
  | 0, _ => exact h h0
  | 1, _ => exact h h1
  | 2, _ => exact h h2
  | 3, _ => exact h h3
theorem resQ_good (n0 n1 n2 n3 : Nat) (h0 : n0 < 4294967296) (h1 : n1 < 4294967296) (h2 : n2 < 4294967296) (h3 : n3 < 4294967296) : resQ (n0 : Int) (n1 : Int) (n2 : Int) (n3 : Int) = .tuple #[agg4 .i64 (qr ⟨n0, n1, n2, n3⟩), .int .i64 0] := by
  unfold resQ
  rw [if_pos ⟨⟨by omega, by omega⟩, ⟨by omega, by omega⟩, ⟨by omega, by omega⟩, ⟨by omega, by omega⟩⟩]
  rfl
def mixu (x0 x1 x2 x3 : Int) : Nat → Array Value
  | 0 => #[.int .u32 0, .int .u32 0, .int .u32 0, .int .u32 0]
  | 1 => #[.int .u32 (x0 % 4294967296), .int .u32 0, .int .u32 0, .int .u32 0]
  | 2 => #[.int .u32 (x0 % 4294967296), .int .u32 (x1 % 4294967296), .int .u32 0, .int .u32 0]
  | 3 => #[.int .u32 (x0 % 4294967296), .int .u32 (x1 % 4294967296), .int .u32 (x2 % 4294967296), .int .u32 0]
  | _ => #[.int .u32 (x0 % 4294967296), .int .u32 (x1 % 4294967296), .int .u32 (x2 % 4294967296), .int .u32 (x3 % 4294967296)]
def outL (q : Q4) : Nat → List Value
  | 0 => [.int .i64 0, .int .i64 0, .int .i64 0, .int .i64 0]
  | 1 => [.int .i64 (q.a : Int), .int .i64 0, .int .i64 0, .int .i64 0]
  | 2 => [.int .i64 (q.a : Int), .int .i64 (q.b : Int), .int .i64 0, .int .i64 0]
  | 3 => [.int .i64 (q.a : Int), .int .i64 (q.b : Int), .int .i64 (q.c : Int), .int .i64 0]
  | _ => [.int .i64 (q.a : Int), .int .i64 (q.b : Int), .int .i64 (q.c : Int), .int .i64 (q.d : Int)]

theorem idxI0 (x0 x1 x2 x3 : Int) (u : World) : (Instr.index 30 (.agg #[.int .i64 x0, .int .i64 x1, .int .i64 x2, .int .i64 x3]) (.int .i64 0)).run Try.prog u = .ok (.int .i64 x0) u := by
  simp [Instr.index, run_underlying Try.underlying30, part, go_sem]
theorem idxU0 (x0 x1 x2 x3 : Int) (u : World) : (Instr.index 47 (.agg #[.int .u32 x0, .int .u32 x1, .int .u32 x2, .int .u32 x3]) (.int .i64 0)).run Try.prog u = .ok (.int .u32 x0) u := by
  simp [Instr.index, run_underlying Try.underlying47, part, go_sem]
theorem idxI1 (x0 x1 x2 x3 : Int) (u : World) : (Instr.index 30 (.agg #[.int .i64 x0, .int .i64 x1, .int .i64 x2, .int .i64 x3]) (.int .i64 1)).run Try.prog u = .ok (.int .i64 x1) u := by
  simp [Instr.index, run_underlying Try.underlying30, part, go_sem]
theorem idxU1 (x0 x1 x2 x3 : Int) (u : World) : (Instr.index 47 (.agg #[.int .u32 x0, .int .u32 x1, .int .u32 x2, .int .u32 x3]) (.int .i64 1)).run Try.prog u = .ok (.int .u32 x1) u := by
  simp [Instr.index, run_underlying Try.underlying47, part, go_sem]
theorem idxI2 (x0 x1 x2 x3 : Int) (u : World) : (Instr.index 30 (.agg #[.int .i64 x0, .int .i64 x1, .int .i64 x2, .int .i64 x3]) (.int .i64 2)).run Try.prog u = .ok (.int .i64 x2) u := by
  simp [Instr.index, run_underlying Try.underlying30, part, go_sem]
theorem idxU2 (x0 x1 x2 x3 : Int) (u : World) : (Instr.index 47 (.agg #[.int .u32 x0, .int .u32 x1, .int .u32 x2, .int .u32 x3]) (.int .i64 2)).run Try.prog u = .ok (.int .u32 x2) u := by
  simp [Instr.index, run_underlying Try.underlying47, part, go_sem]
theorem idxI3 (x0 x1 x2 x3 : Int) (u : World) : (Instr.index 30 (.agg #[.int .i64 x0, .int .i64 x1, .int .i64 x2, .int .i64 x3]) (.int .i64 3)).run Try.prog u = .ok (.int .i64 x3) u := by
  simp [Instr.index, run_underlying Try.underlying30, part, go_sem]
theorem idxU3 (x0 x1 x2 x3 : Int) (u : World) : (Instr.index 47 (.agg #[.int .u32 x0, .int .u32 x1, .int .u32 x2, .int .u32 x3]) (.int .i64 3)).run Try.prog u = .ok (.int .u32 x3) u := by
  simp [Instr.index, run_underlying Try.underlying47, part, go_sem]
set_option maxRecDepth 100000 in
set_option maxHeartbeats 3200000 in
theorem impl (x0 x1 x2 x3 : Int) (w : World) :
    Calls Try.prog 13 #[.agg #[.int .i64 x0, .int .i64 x1, .int .i64 x2, .int .i64 x3]] w fun e' w' => e' = .returned (resQ x0 x1 x2 x3) ∧ Below w.heap.size w w' := by
  go_enter Try.func13, Try.ntmps13
  go_wp2
  go_loopw [11] (fun i wr => ∃ k : Nat, k ≤ 4 ∧ i = .int .i64 k ∧ Hid (∀ j, j < k → inW (sel x0 x1 x2 x3 j)) ∧ wr = ((w.alloc (.cells #[.int .i64 x0, .int .i64 x1, .int .i64 x2, .int .i64 x3] 30)).alloc (.cells #[.int .i64 0, .int .i64 0, .int .i64 0, .int .i64 0] 30)).alloc (.cells (mixu x0 x1 x2 x3 k) 47)) (fun i _ => 4 - (intOf i).toNat)
  case atStart => exact ⟨0, by omega, rfl, Lib.hid (fun j h => by omega), rfl⟩
  case round =>
    obtain ⟨k, hk, rfl, HV, rfl⟩ := hrel
    have hc : k = 0 ∨ k = 1 ∨ k = 2 ∨ k = 3 ∨ k = 4 := by omega
    rcases hc with rfl | rfl | rfl | rfl | rfl
    · unfold mixu
      have hidx := idxI0 x0 x1 x2 x3
      by_cases h1 : x0 < 0
      · have HR := Lib.hid (resQ_bad (x0 := x0) (x1 := x1) (x2 := x2) (x3 := x3) 0 (by omega) (fun h => by have := h.1; simp only [sel] at this; omega))
        go_wp2
        rw [HR.out]
        refine bodyPost_ret (v := .tuple #[.agg #[.int .i64 0, .int .i64 0, .int .i64 0, .int .i64 0], .int .i64 4]) (by simp [results, Try.results13, go_sem]) rfl ⟨rfl, ?_⟩
        repeat (first | exact Below.refl _ _ | refine Below.setCell ?_ (by exact Nat.le_succ _) _ | refine Below.alloc ?_ (by simp; try omega) _)
      · have d1 : decide (x0 < 0) = false := decide_eq_false h1
        by_cases h2 : 4294967295 < x0
        · have HR := Lib.hid (resQ_bad (x0 := x0) (x1 := x1) (x2 := x2) (x3 := x3) 0 (by omega) (fun h => by have := h.2; simp only [sel] at this; omega))
          clear h1
          go_wp2
          rw [HR.out]
          refine bodyPost_ret (v := .tuple #[.agg #[.int .i64 0, .int .i64 0, .int .i64 0, .int .i64 0], .int .i64 4]) (by simp [results, Try.results13, go_sem]) rfl ⟨rfl, ?_⟩
          repeat (first | exact Below.refl _ _ | refine Below.setCell ?_ (by exact Nat.le_succ _) _ | refine Below.alloc ?_ (by simp; try omega) _)
        · have d2 : decide (4294967295 < x0) = false := decide_eq_false h2
          have HH := Lib.hid (show inW x0 from ⟨by omega, by omega⟩)
          have hwr : IntKind.u32.wrap x0 = x0 % 4294967296 := by rw [IntKind.wrap_u32']
          clear h1 h2
          go_wp2
          go_roundw
          case rel => exact ⟨1, by omega, rfl, Lib.hid (fun j hj => by
            by_cases e : j = 0
            · rw [e]; exact HH.out
            · exact HV.out j (by omega)), rfl⟩
          case measure => simp [intOf]
    · unfold mixu
      have hidx := idxI1 x0 x1 x2 x3
      by_cases h1 : x1 < 0
      · have HR := Lib.hid (resQ_bad (x0 := x0) (x1 := x1) (x2 := x2) (x3 := x3) 1 (by omega) (fun h => by have := h.1; simp only [sel] at this; omega))
        go_wp2
        rw [HR.out]
        refine bodyPost_ret (v := .tuple #[.agg #[.int .i64 0, .int .i64 0, .int .i64 0, .int .i64 0], .int .i64 4]) (by simp [results, Try.results13, go_sem]) rfl ⟨rfl, ?_⟩
        repeat (first | exact Below.refl _ _ | refine Below.setCell ?_ (by exact Nat.le_succ _) _ | refine Below.alloc ?_ (by simp; try omega) _)
      · have d1 : decide (x1 < 0) = false := decide_eq_false h1
        by_cases h2 : 4294967295 < x1
        · have HR := Lib.hid (resQ_bad (x0 := x0) (x1 := x1) (x2 := x2) (x3 := x3) 1 (by omega) (fun h => by have := h.2; simp only [sel] at this; omega))
          clear h1
          go_wp2
          rw [HR.out]
          refine bodyPost_ret (v := .tuple #[.agg #[.int .i64 0, .int .i64 0, .int .i64 0, .int .i64 0], .int .i64 4]) (by simp [results, Try.results13, go_sem]) rfl ⟨rfl, ?_⟩
          repeat (first | exact Below.refl _ _ | refine Below.setCell ?_ (by exact Nat.le_succ _) _ | refine Below.alloc ?_ (by simp; try omega) _)
        · have d2 : decide (4294967295 < x1) = false := decide_eq_false h2
          have HH := Lib.hid (show inW x1 from ⟨by omega, by omega⟩)
          have hwr : IntKind.u32.wrap x1 = x1 % 4294967296 := by rw [IntKind.wrap_u32']
          clear h1 h2
          go_wp2
          go_roundw
          case rel => exact ⟨2, by omega, rfl, Lib.hid (fun j hj => by
            by_cases e : j = 1
            · rw [e]; exact HH.out
            · exact HV.out j (by omega)), rfl⟩
          case measure => simp [intOf]
    · unfold mixu
      have hidx := idxI2 x0 x1 x2 x3
      by_cases h1 : x2 < 0
      · have HR := Lib.hid (resQ_bad (x0 := x0) (x1 := x1) (x2 := x2) (x3 := x3) 2 (by omega) (fun h => by have := h.1; simp only [sel] at this; omega))
        go_wp2
        rw [HR.out]
        refine bodyPost_ret (v := .tuple #[.agg #[.int .i64 0, .int .i64 0, .int .i64 0, .int .i64 0], .int .i64 4]) (by simp [results, Try.results13, go_sem]) rfl ⟨rfl, ?_⟩
        repeat (first | exact Below.refl _ _ | refine Below.setCell ?_ (by exact Nat.le_succ _) _ | refine Below.alloc ?_ (by simp; try omega) _)
      · have d1 : decide (x2 < 0) = false := decide_eq_false h1
        by_cases h2 : 4294967295 < x2
        · have HR := Lib.hid (resQ_bad (x0 := x0) (x1 := x1) (x2 := x2) (x3 := x3) 2 (by omega) (fun h => by have := h.2; simp only [sel] at this; omega))
          clear h1
          go_wp2
          rw [HR.out]
          refine bodyPost_ret (v := .tuple #[.agg #[.int .i64 0, .int .i64 0, .int .i64 0, .int .i64 0], .int .i64 4]) (by simp [results, Try.results13, go_sem]) rfl ⟨rfl, ?_⟩
          repeat (first | exact Below.refl _ _ | refine Below.setCell ?_ (by exact Nat.le_succ _) _ | refine Below.alloc ?_ (by simp; try omega) _)
        · have d2 : decide (4294967295 < x2) = false := decide_eq_false h2
          have HH := Lib.hid (show inW x2 from ⟨by omega, by omega⟩)
          have hwr : IntKind.u32.wrap x2 = x2 % 4294967296 := by rw [IntKind.wrap_u32']
          clear h1 h2
          go_wp2
          go_roundw
          case rel => exact ⟨3, by omega, rfl, Lib.hid (fun j hj => by
            by_cases e : j = 2
            · rw [e]; exact HH.out
            · exact HV.out j (by omega)), rfl⟩
          case measure => simp [intOf]
    · unfold mixu
      have hidx := idxI3 x0 x1 x2 x3
      by_cases h1 : x3 < 0
      · have HR := Lib.hid (resQ_bad (x0 := x0) (x1 := x1) (x2 := x2) (x3 := x3) 3 (by omega) (fun h => by have := h.1; simp only [sel] at this; omega))
        go_wp2
        rw [HR.out]
        refine bodyPost_ret (v := .tuple #[.agg #[.int .i64 0, .int .i64 0, .int .i64 0, .int .i64 0], .int .i64 4]) (by simp [results, Try.results13, go_sem]) rfl ⟨rfl, ?_⟩
        repeat (first | exact Below.refl _ _ | refine Below.setCell ?_ (by exact Nat.le_succ _) _ | refine Below.alloc ?_ (by simp; try omega) _)
      · have d1 : decide (x3 < 0) = false := decide_eq_false h1
        by_cases h2 : 4294967295 < x3
        · have HR := Lib.hid (resQ_bad (x0 := x0) (x1 := x1) (x2 := x2) (x3 := x3) 3 (by omega) (fun h => by have := h.2; simp only [sel] at this; omega))
          clear h1
          go_wp2
          rw [HR.out]
          refine bodyPost_ret (v := .tuple #[.agg #[.int .i64 0, .int .i64 0, .int .i64 0, .int .i64 0], .int .i64 4]) (by simp [results, Try.results13, go_sem]) rfl ⟨rfl, ?_⟩
          repeat (first | exact Below.refl _ _ | refine Below.setCell ?_ (by exact Nat.le_succ _) _ | refine Below.alloc ?_ (by simp; try omega) _)
        · have d2 : decide (4294967295 < x3) = false := decide_eq_false h2
          have HH := Lib.hid (show inW x3 from ⟨by omega, by omega⟩)
          have hwr : IntKind.u32.wrap x3 = x3 % 4294967296 := by rw [IntKind.wrap_u32']
          clear h1 h2
          go_wp2
          go_roundw
          case rel => exact ⟨4, by omega, rfl, Lib.hid (fun j hj => by
            by_cases e : j = 3
            · rw [e]; exact HH.out
            · exact HV.out j (by omega)), rfl⟩
          case measure => simp [intOf]
    · have hv0 : inW x0 := HV.out 0 (by omega)
      have hv1 : inW x1 := HV.out 1 (by omega)
      have hv2 : inW x2 := HV.out 2 (by omega)
      have hv3 : inW x3 := HV.out 3 (by omega)
      clear HV hk
      unfold inW at hv0 hv1 hv2 hv3
      obtain ⟨n0, rfl⟩ := Int.eq_ofNat_of_zero_le hv0.1
      obtain ⟨n1, rfl⟩ := Int.eq_ofNat_of_zero_le hv1.1
      obtain ⟨n2, rfl⟩ := Int.eq_ofNat_of_zero_le hv2.1
      obtain ⟨n3, rfl⟩ := Int.eq_ofNat_of_zero_le hv3.1
      have l0 : n0 < 4294967296 := by omega
      have l1 : n1 < 4294967296 := by omega
      have l2 : n2 < 4294967296 := by omega
      have l3 : n3 < 4294967296 := by omega
      have HR := Lib.hid (resQ_good n0 n1 n2 n3 l0 l1 l2 l3)
      have HM := Lib.hid (show mixu (n0 : Int) (n1 : Int) (n2 : Int) (n3 : Int) 4 = #[.int .u32 (n0 : Int), .int .u32 (n1 : Int), .int .u32 (n2 : Int), .int .u32 (n3 : Int)] by
        show #[Value.int .u32 ((n0 : Int) % 4294967296), Value.int .u32 ((n1 : Int) % 4294967296), Value.int .u32 ((n2 : Int) % 4294967296), Value.int .u32 ((n3 : Int) % 4294967296)] = _
        rw [show (n0 : Int) % 4294967296 = n0 by omega, show (n1 : Int) % 4294967296 = n1 by omega, show (n2 : Int) % 4294967296 = n2 by omega, show (n3 : Int) % 4294967296 = n3 by omega])
      clear hv0 hv1 hv2 hv3
      rw [HM.out]
      go_wp2_with fail
      refine (Quarter.quarter ⟨n0, n1, n2, n3⟩ ⟨l0, l1, l2, l3⟩ _).mono ?_
      rintro e' w1 ⟨rfl, hb⟩
      have HR1 := Lib.hid (show Row w1 (w.heap.size + 1 + 1 + 1) 30 [.int .i64 0, .int .i64 0, .int .i64 0, .int .i64 0] ∧ Row w1 (w.heap.size + 1) 30 [.int .i64 0, .int .i64 0, .int .i64 0, .int .i64 0] ∧ Below w.heap.size w w1 by
        refine ⟨Row.below ?_ hb (by simp), Row.below ?_ hb (by simp), Below.trans ?_ (hb.mono (by simp; omega))⟩
        · exact (by have := Arr.row_new (((w.alloc (.cells #[.int .i64 (n0 : Int), .int .i64 (n1 : Int), .int .i64 (n2 : Int), .int .i64 (n3 : Int)] 30)).alloc (.cells #[.int .i64 0, .int .i64 0, .int .i64 0, .int .i64 0] 30)).alloc (.cells #[.int .u32 (n0 : Int), .int .u32 (n1 : Int), .int .u32 (n2 : Int), .int .u32 (n3 : Int)] 47)) #[.int .i64 0, .int .i64 0, .int .i64 0, .int .i64 0] 30; simpa using this)
        · exact ((Arr.two_new w _ _ _ _).2.1.alloc _).alloc _
        · exact ((((Below.refl _ _).alloc (Nat.le_refl _) _).alloc (by simp) _).alloc (by simp; omega) _).alloc (by simp; omega) _)
      clear hb
      obtain ⟨qa, qb, qc, qd⟩ := Quarter.qr_ok ⟨n0, n1, n2, n3⟩
      generalize qr ⟨n0, n1, n2, n3⟩ = q at *
      unfold agg4
      go_wp2
      go_loopw [29] (fun i wr => ∃ k : Nat, k ≤ 4 ∧ i = .int .i64 k ∧ Hid (Row wr (w.heap.size + 1 + 1 + 1) 30 (outL q k) ∧ Row wr (w.heap.size + 1) 30 [.int .i64 0, .int .i64 0, .int .i64 0, .int .i64 0] ∧ Below w.heap.size w wr)) (fun i _ => 4 - (intOf i).toNat)
      case atStart => exact ⟨0, by omega, rfl, HR1⟩
      case round =>
        rename_i wr
        clear HR1
        obtain ⟨k, hk, rfl, HX⟩ := hrel
        have hc : k = 0 ∨ k = 1 ∨ k = 2 ∨ k = 3 ∨ k = 4 := by omega
        rcases hc with rfl | rfl | rfl | rfl | rfl
        · have c0 : wr.cell? ⟨w.heap.size + 1 + 1 + 1, 0, none⟩ = some (.int .i64 0) := HX.out.1.cell 0
          have f0 := HX.out.1.frozen 0
          have hidx := idxU0 (q.a : Int) (q.b : Int) (q.c : Int) (q.d : Int)
          go_wp2
          go_roundw
          case rel => exact ⟨1, by omega, rfl, Lib.hid ⟨HX.out.1.set 0 _, HX.out.2.1.set_far _ _ _ (by omega), HX.out.2.2.setCell (show w.heap.size ≤ w.heap.size + 1 + 1 + 1 by omega) _⟩⟩
          case measure => simp [intOf]
        · have c0 : wr.cell? ⟨w.heap.size + 1 + 1 + 1, 1, none⟩ = some (.int .i64 0) := HX.out.1.cell 1
          have f0 := HX.out.1.frozen 1
          have hidx := idxU1 (q.a : Int) (q.b : Int) (q.c : Int) (q.d : Int)
          go_wp2
          go_roundw
          case rel => exact ⟨2, by omega, rfl, Lib.hid ⟨HX.out.1.set 1 _, HX.out.2.1.set_far _ _ _ (by omega), HX.out.2.2.setCell (show w.heap.size ≤ w.heap.size + 1 + 1 + 1 by omega) _⟩⟩
          case measure => simp [intOf]
        · have c0 : wr.cell? ⟨w.heap.size + 1 + 1 + 1, 2, none⟩ = some (.int .i64 0) := HX.out.1.cell 2
          have f0 := HX.out.1.frozen 2
          have hidx := idxU2 (q.a : Int) (q.b : Int) (q.c : Int) (q.d : Int)
          go_wp2
          go_roundw
          case rel => exact ⟨3, by omega, rfl, Lib.hid ⟨HX.out.1.set 2 _, HX.out.2.1.set_far _ _ _ (by omega), HX.out.2.2.setCell (show w.heap.size ≤ w.heap.size + 1 + 1 + 1 by omega) _⟩⟩
          case measure => simp [intOf]
        · have c0 : wr.cell? ⟨w.heap.size + 1 + 1 + 1, 3, none⟩ = some (.int .i64 0) := HX.out.1.cell 3
          have f0 := HX.out.1.frozen 3
          have hidx := idxU3 (q.a : Int) (q.b : Int) (q.c : Int) (q.d : Int)
          go_wp2
          go_roundw
          case rel => exact ⟨4, by omega, rfl, Lib.hid ⟨HX.out.1.set 3 _, HX.out.2.1.set_far _ _ _ (by omega), HX.out.2.2.setCell (show w.heap.size ≤ w.heap.size + 1 + 1 + 1 by omega) _⟩⟩
          case measure => simp [intOf]
        · have c0 : wr.cell? ⟨w.heap.size + 1 + 1 + 1, 0, none⟩ = some (.int .i64 (q.a : Int)) := HX.out.1.cell 0
          have c1 : wr.cell? ⟨w.heap.size + 1 + 1 + 1, 1, none⟩ = some (.int .i64 (q.b : Int)) := HX.out.1.cell 1
          have c2 : wr.cell? ⟨w.heap.size + 1 + 1 + 1, 2, none⟩ = some (.int .i64 (q.c : Int)) := HX.out.1.cell 2
          have c3 : wr.cell? ⟨w.heap.size + 1 + 1 + 1, 3, none⟩ = some (.int .i64 (q.d : Int)) := HX.out.1.cell 3
          have e0 : wr.cell? ⟨w.heap.size + 1, 0, none⟩ = some (.int .i64 0) := HX.out.2.1.cell 0
          have e1 : wr.cell? ⟨w.heap.size + 1, 1, none⟩ = some (.int .i64 0) := HX.out.2.1.cell 1
          have e2 : wr.cell? ⟨w.heap.size + 1, 2, none⟩ = some (.int .i64 0) := HX.out.2.1.cell 2
          have e3 : wr.cell? ⟨w.heap.size + 1, 3, none⟩ = some (.int .i64 0) := HX.out.2.1.cell 3
          have f0 := HX.out.2.1.frozen 0
          have f1 := HX.out.2.1.frozen 1
          have f2 := HX.out.2.1.frozen 2
          have f3 := HX.out.2.1.frozen 3
          go_wp2
          rw [HR.out]
          refine bodyPost_ret (v := .tuple #[agg4 .i64 q, .int .i64 0]) (by simp [results, Try.results13, go_sem, agg4, e0, e1, e2, e3]) rfl ⟨rfl, ?_⟩
          iterate 4 refine Below.setCell ?_ (by exact Nat.le_succ _) _
          exact HX.out.2.2

set_option maxRecDepth 100000 in
set_option maxHeartbeats 3200000 in
theorem spec (x0 x1 x2 x3 : Int) (w : World) :
    Calls Try.prog 14 #[.agg #[.int .i64 x0, .int .i64 x1, .int .i64 x2, .int .i64 x3]] w fun e' w' => e' = .returned (resQ x0 x1 x2 x3) ∧ Below w.heap.size w w' := by
  go_enter Try.func14, Try.ntmps14
  go_wp2
  go_loopw [4] (fun i wr => ∃ k : Nat, k ≤ 4 ∧ i = .int .i64 k ∧ Hid (∀ j, j < k → inW (sel x0 x1 x2 x3 j)) ∧ wr = (w.alloc (.cells #[.int .i64 x0, .int .i64 x1, .int .i64 x2, .int .i64 x3] 30)).alloc (.cells #[.int .i64 0, .int .i64 0, .int .i64 0, .int .i64 0] 30)) (fun i _ => 4 - (intOf i).toNat)
  case atStart => exact ⟨0, by omega, rfl, Lib.hid (fun j h => by omega), rfl⟩
  case round =>
    obtain ⟨k, hk, rfl, HV, rfl⟩ := hrel
    have hc : k = 0 ∨ k = 1 ∨ k = 2 ∨ k = 3 ∨ k = 4 := by omega
    rcases hc with rfl | rfl | rfl | rfl | rfl
    · by_cases h1 : x0 < 0
      · have HR := Lib.hid (resQ_bad (x0 := x0) (x1 := x1) (x2 := x2) (x3 := x3) 0 (by omega) (fun h => by have := h.1; simp only [sel] at this; omega))
        have d1 : decide (0 ≤ x0) = false := decide_eq_false (by omega)
        clear h1
        go_wp2
        rw [HR.out]
        refine bodyPost_ret (v := .tuple #[.agg #[.int .i64 0, .int .i64 0, .int .i64 0, .int .i64 0], .int .i64 4]) (by simp [results, Try.results14, go_sem]) rfl ⟨rfl, ?_⟩
        repeat (first | exact Below.refl _ _ | refine Below.setCell ?_ (by exact Nat.le_succ _) _ | refine Below.alloc ?_ (by simp; try omega) _)
      · have d1 : decide (0 ≤ x0) = true := decide_eq_true (by omega)
        by_cases h2 : 4294967295 < x0
        · have HR := Lib.hid (resQ_bad (x0 := x0) (x1 := x1) (x2 := x2) (x3 := x3) 0 (by omega) (fun h => by have := h.2; simp only [sel] at this; omega))
          have d2 : decide (x0 ≤ 4294967295) = false := decide_eq_false (by omega)
          clear h1 h2
          go_wp2
          rw [HR.out]
          refine bodyPost_ret (v := .tuple #[.agg #[.int .i64 0, .int .i64 0, .int .i64 0, .int .i64 0], .int .i64 4]) (by simp [results, Try.results14, go_sem]) rfl ⟨rfl, ?_⟩
          repeat (first | exact Below.refl _ _ | refine Below.setCell ?_ (by exact Nat.le_succ _) _ | refine Below.alloc ?_ (by simp; try omega) _)
        · have d2 : decide (x0 ≤ 4294967295) = true := decide_eq_true (by omega)
          have HH := Lib.hid (show inW x0 from ⟨by omega, by omega⟩)
          clear h1 h2
          go_wp2
          go_roundw
          case rel => exact ⟨1, by omega, rfl, Lib.hid (fun j hj => by
            by_cases e : j = 0
            · rw [e]; exact HH.out
            · exact HV.out j (by omega)), by first | rfl | trivial⟩
          case measure => simp [intOf]
    · by_cases h1 : x1 < 0
      · have HR := Lib.hid (resQ_bad (x0 := x0) (x1 := x1) (x2 := x2) (x3 := x3) 1 (by omega) (fun h => by have := h.1; simp only [sel] at this; omega))
        have d1 : decide (0 ≤ x1) = false := decide_eq_false (by omega)
        clear h1
        go_wp2
        rw [HR.out]
        refine bodyPost_ret (v := .tuple #[.agg #[.int .i64 0, .int .i64 0, .int .i64 0, .int .i64 0], .int .i64 4]) (by simp [results, Try.results14, go_sem]) rfl ⟨rfl, ?_⟩
        repeat (first | exact Below.refl _ _ | refine Below.setCell ?_ (by exact Nat.le_succ _) _ | refine Below.alloc ?_ (by simp; try omega) _)
      · have d1 : decide (0 ≤ x1) = true := decide_eq_true (by omega)
        by_cases h2 : 4294967295 < x1
        · have HR := Lib.hid (resQ_bad (x0 := x0) (x1 := x1) (x2 := x2) (x3 := x3) 1 (by omega) (fun h => by have := h.2; simp only [sel] at this; omega))
          have d2 : decide (x1 ≤ 4294967295) = false := decide_eq_false (by omega)
          clear h1 h2
          go_wp2
          rw [HR.out]
          refine bodyPost_ret (v := .tuple #[.agg #[.int .i64 0, .int .i64 0, .int .i64 0, .int .i64 0], .int .i64 4]) (by simp [results, Try.results14, go_sem]) rfl ⟨rfl, ?_⟩
          repeat (first | exact Below.refl _ _ | refine Below.setCell ?_ (by exact Nat.le_succ _) _ | refine Below.alloc ?_ (by simp; try omega) _)
        · have d2 : decide (x1 ≤ 4294967295) = true := decide_eq_true (by omega)
          have HH := Lib.hid (show inW x1 from ⟨by omega, by omega⟩)
          clear h1 h2
          go_wp2
          go_roundw
          case rel => exact ⟨2, by omega, rfl, Lib.hid (fun j hj => by
            by_cases e : j = 1
            · rw [e]; exact HH.out
            · exact HV.out j (by omega)), by first | rfl | trivial⟩
          case measure => simp [intOf]
    · by_cases h1 : x2 < 0
      · have HR := Lib.hid (resQ_bad (x0 := x0) (x1 := x1) (x2 := x2) (x3 := x3) 2 (by omega) (fun h => by have := h.1; simp only [sel] at this; omega))
        have d1 : decide (0 ≤ x2) = false := decide_eq_false (by omega)
        clear h1
        go_wp2
        rw [HR.out]
        refine bodyPost_ret (v := .tuple #[.agg #[.int .i64 0, .int .i64 0, .int .i64 0, .int .i64 0], .int .i64 4]) (by simp [results, Try.results14, go_sem]) rfl ⟨rfl, ?_⟩
        repeat (first | exact Below.refl _ _ | refine Below.setCell ?_ (by exact Nat.le_succ _) _ | refine Below.alloc ?_ (by simp; try omega) _)
      · have d1 : decide (0 ≤ x2) = true := decide_eq_true (by omega)
        by_cases h2 : 4294967295 < x2
        · have HR := Lib.hid (resQ_bad (x0 := x0) (x1 := x1) (x2 := x2) (x3 := x3) 2 (by omega) (fun h => by have := h.2; simp only [sel] at this; omega))
          have d2 : decide (x2 ≤ 4294967295) = false := decide_eq_false (by omega)
          clear h1 h2
          go_wp2
          rw [HR.out]
          refine bodyPost_ret (v := .tuple #[.agg #[.int .i64 0, .int .i64 0, .int .i64 0, .int .i64 0], .int .i64 4]) (by simp [results, Try.results14, go_sem]) rfl ⟨rfl, ?_⟩
          repeat (first | exact Below.refl _ _ | refine Below.setCell ?_ (by exact Nat.le_succ _) _ | refine Below.alloc ?_ (by simp; try omega) _)
        · have d2 : decide (x2 ≤ 4294967295) = true := decide_eq_true (by omega)
          have HH := Lib.hid (show inW x2 from ⟨by omega, by omega⟩)
          clear h1 h2
          go_wp2
          go_roundw
          case rel => exact ⟨3, by omega, rfl, Lib.hid (fun j hj => by
            by_cases e : j = 2
            · rw [e]; exact HH.out
            · exact HV.out j (by omega)), by first | rfl | trivial⟩
          case measure => simp [intOf]
    · by_cases h1 : x3 < 0
      · have HR := Lib.hid (resQ_bad (x0 := x0) (x1 := x1) (x2 := x2) (x3 := x3) 3 (by omega) (fun h => by have := h.1; simp only [sel] at this; omega))
        have d1 : decide (0 ≤ x3) = false := decide_eq_false (by omega)
        clear h1
        go_wp2
        rw [HR.out]
        refine bodyPost_ret (v := .tuple #[.agg #[.int .i64 0, .int .i64 0, .int .i64 0, .int .i64 0], .int .i64 4]) (by simp [results, Try.results14, go_sem]) rfl ⟨rfl, ?_⟩
        repeat (first | exact Below.refl _ _ | refine Below.setCell ?_ (by exact Nat.le_succ _) _ | refine Below.alloc ?_ (by simp; try omega) _)
      · have d1 : decide (0 ≤ x3) = true := decide_eq_true (by omega)
        by_cases h2 : 4294967295 < x3
        · have HR := Lib.hid (resQ_bad (x0 := x0) (x1 := x1) (x2 := x2) (x3 := x3) 3 (by omega) (fun h => by have := h.2; simp only [sel] at this; omega))
          have d2 : decide (x3 ≤ 4294967295) = false := decide_eq_false (by omega)
          clear h1 h2
          go_wp2
          rw [HR.out]
          refine bodyPost_ret (v := .tuple #[.agg #[.int .i64 0, .int .i64 0, .int .i64 0, .int .i64 0], .int .i64 4]) (by simp [results, Try.results14, go_sem]) rfl ⟨rfl, ?_⟩
          repeat (first | exact Below.refl _ _ | refine Below.setCell ?_ (by exact Nat.le_succ _) _ | refine Below.alloc ?_ (by simp; try omega) _)
        · have d2 : decide (x3 ≤ 4294967295) = true := decide_eq_true (by omega)
          have HH := Lib.hid (show inW x3 from ⟨by omega, by omega⟩)
          clear h1 h2
          go_wp2
          go_roundw
          case rel => exact ⟨4, by omega, rfl, Lib.hid (fun j hj => by
            by_cases e : j = 3
            · rw [e]; exact HH.out
            · exact HV.out j (by omega)), by first | rfl | trivial⟩
          case measure => simp [intOf]
    · have hv0 : inW x0 := HV.out 0 (by omega)
      have hv1 : inW x1 := HV.out 1 (by omega)
      have hv2 : inW x2 := HV.out 2 (by omega)
      have hv3 : inW x3 := HV.out 3 (by omega)
      clear HV hk
      unfold inW at hv0 hv1 hv2 hv3
      obtain ⟨n0, rfl⟩ := Int.eq_ofNat_of_zero_le hv0.1
      obtain ⟨n1, rfl⟩ := Int.eq_ofNat_of_zero_le hv1.1
      obtain ⟨n2, rfl⟩ := Int.eq_ofNat_of_zero_le hv2.1
      obtain ⟨n3, rfl⟩ := Int.eq_ofNat_of_zero_le hv3.1
      have l0 : n0 < 4294967296 := by omega
      have l1 : n1 < 4294967296 := by omega
      have l2 : n2 < 4294967296 := by omega
      have l3 : n3 < 4294967296 := by omega
      have HR := Lib.hid (resQ_good n0 n1 n2 n3 l0 l1 l2 l3)
      clear hv0 hv1 hv2 hv3
      go_wp2_with fail
      refine (Quarter.quarterM ⟨n0, n1, n2, n3⟩ ⟨l0, l1, l2, l3⟩ _).mono ?_
      rintro e' w1 ⟨rfl, hb⟩
      obtain ⟨hcc, hff⟩ := bcell hb
      have hz := hb.size
      have HB := Lib.hid hb
      simp only [World.size_alloc] at hcc hff hz
      clear hb
      obtain ⟨qa, qb, qc, qd⟩ := Quarter.qr_ok ⟨n0, n1, n2, n3⟩
      generalize qr ⟨n0, n1, n2, n3⟩ = q at *
      unfold agg4
      have ll : w.heap.size + 1 < w1.heap.size := by omega
      go_wp2
      rw [HR.out]
      refine bodyPost_ret (v := .tuple #[agg4 .i64 q, .int .i64 0]) (by simp [results, Try.results14, go_sem, agg4, hcc]) rfl ⟨rfl, ?_⟩
      iterate 4 refine Below.setCell ?_ (by exact Nat.le_succ _) _
      exact (((Below.refl _ _).alloc (Nat.le_refl _) _).alloc (by simp) _).trans (HB.out.mono (by simp; omega))
end Go.Proofs.Ytcfdnifllehbjaa.QRound