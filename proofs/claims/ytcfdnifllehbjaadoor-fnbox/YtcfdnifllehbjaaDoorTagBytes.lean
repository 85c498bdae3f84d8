/-
  What is proved: the program's sixteen bytes of a number in five parts are the plain ones (contract for the walks).
-/
import Derived.Test.YtcfdnifllehbjaaDoorRows
import Derived.Test.YtcfdnifllehbjaaDoorFive
import Derived.Test.YtcfdnifllehbjaaDoorFlat
namespace Go.Proofs.YtcfdnifllehbjaaDoor.TagBytes
open Go.ChangeShapes Go.WideShapes Go.ChangeAt Go.RowKit
open Arr (Row)
open Five Poly
open Word (bN bN_lt bN_at)
set_option linter.unusedVariables false

/-- The lowest sixteen bytes of a number. -/
def bl (N : Nat) : List UInt8 := (List.range 16).map fun i => UInt8.ofNat (N / 256 ^ i % 256)
theorem bl_length (N : Nat) : (bl N).length = 16 := by simp [bl]
theorem bl_at (N : Nat) (j : Nat) (hj : j < (bl N).length) : ((bl N)[j]'hj).toNat = N / 256 ^ j % 256 := by
  simp only [bl, List.getElem_map, List.getElem_range, UInt8.toNat_ofNat']
  exact Nat.mod_eq_of_lt (Nat.mod_lt _ (by omega))
theorem bl_congr {N M : Nat} (h : ∀ i, i < 16 → N / 256 ^ i % 256 = M / 256 ^ i % 256) : bl N = bl M := by
  unfold bl
  apply List.map_congr_left
  intro j hj
  rw [h j (by simpa using hj)]
theorem info56 : (Tryd.prog.info? 111).map (·.size) = some 16 := by kernel_rfl

set_option maxRecDepth 100000 in
set_option maxHeartbeats 1600000 in
theorem tagBytes (v : Nat → Nat) (hv : ∀ j, v j < 67108864) (w : World) :
    Calls Tryd.prog 60 #[.agg (cn .u64 v).toArray] w fun e' w' => e' = .returned (.string ⟨(bl (val v)).toArray⟩) ∧ Below w.heap.size w w' := by
  have HV := Lib.hid hv
  have HBO := Lib.hid (byte_or v hv)
  have HBA := Lib.hid (bl_at (val v))
  have HBL := Lib.hid (bl_length (val v))
  clear hv
  generalize hbl : bl (val v) = BL at *
  clear hbl
  generalize val v = N at *
  generalize hys : cn .u64 v = ys at *
  have HYS := Lib.hid hys
  clear hys
  go_enter Tryd.func60, Tryd.ntmps60
  have HW := Lib.hid (Arr.two_new w ys.toArray)
  go_wp2
  generalize hW : (w.alloc _).alloc _ = W
  obtain ⟨z1, hz1, R0, R1, HB, hsz⟩ : ∃ z1 : List Value, z1.length = 16 ∧ Row W w.heap.size 76 ys ∧ Row W (w.heap.size + 1) 111 z1 ∧ Below w.heap.size w W ∧ w.heap.size + 2 ≤ W.heap.size := by
    rw [← hW]
    exact ⟨_, rfl, HW.out _ _ _⟩
  clear hW HW
  rw [← HYS.out] at R0
  have RR := Lib.hid (show Row W w.heap.size 76 (cn .u64 v) ∧ Row W (w.heap.size + 1) 111 z1 ∧ z1.length = 16 ∧ (∀ j, j < 0 → z1[j]? = some (.int .u8 ((N / 256 ^ j % 256 : Nat) : Int))) ∧ Below w.heap.size w W from ⟨R0, R1, hz1, fun j h => by omega, HB⟩)
  clear hz1 R0 R1 HB hsz
  go_loopw [8] (fun i wr => ∃ (k : Nat) (xs : List Value), k ≤ 16 ∧ i = .int .i64 k ∧ Hid (Row wr w.heap.size 76 (cn .u64 v) ∧ Row wr (w.heap.size + 1) 111 xs ∧ xs.length = 16 ∧ (∀ j, j < k → xs[j]? = some (.int .u8 ((N / 256 ^ j % 256 : Nat) : Int))) ∧ Below w.heap.size w wr)) (fun i _ => 16 - (intOf i).toNat)
  case atStart => exact ⟨0, z1, by omega, rfl, RR⟩
  case round =>
    rename_i wr
    clear RR
    obtain ⟨k, xs, hk, rfl, HX⟩ := hrel
    by_cases hlt : k < 16
    · obtain ⟨q, eq⟩ : ∃ q, 8 * k / 26 = q := ⟨_, rfl⟩
      obtain ⟨r, er⟩ : ∃ r, 8 * k % 26 = r := ⟨_, rfl⟩
      obtain ⟨p, ep⟩ : ∃ p, 8 * k = p := ⟨_, rfl⟩
      obtain ⟨s, es⟩ : ∃ s, 26 - r = s := ⟨_, rfl⟩
      have hq : q < 5 := by omega
      have hr : r < 26 := by omega
      have c0 := HX.out.1.cell q
      rw [cn_at .u64 _ q hq] at c0
      obtain ⟨old, c1⟩ : ∃ v, wr.cell? ⟨w.heap.size + 1, k, none⟩ = some v := ⟨_, (HX.out.2.1.cell k).trans (List.getElem?_eq_getElem (by have := HX.out.2.2.1; omega))⟩
      have f1 := HX.out.2.1.frozen k
      have i1 : (k : Int) < 16 := by omega
      have i0 : (0 : Int) ≤ (k : Int) := by omega
      have e0 : (8 : Int) * (k : Int) = (p : Int) := by omega
      have e1 : (p : Int) / 26 = (q : Int) := by omega
      have e2 : (p : Int) % 26 = (r : Int) := by omega
      have e3 : (26 : Int) - (r : Int) = (s : Int) := by omega
      have wp : IntKind.i64.wrap (p : Int) = p := by rw [IntKind.wrap_i64]; omega
      have wq : IntKind.i64.wrap (q : Int) = q := by rw [IntKind.wrap_i64]; omega
      have wr1 : IntKind.i64.wrap (r : Int) = r := by rw [IntKind.wrap_i64]; omega
      have ws : IntKind.i64.wrap (s : Int) = s := by rw [IntKind.wrap_i64]; omega
      have q1 : (q : Int) < 5 := by omega
      have q0 : (0 : Int) ≤ (q : Int) := by omega
      have r0 : (0 : Int) ≤ (r : Int) := by omega
      have s0 : (0 : Int) ≤ (s : Int) := by omega
      have m0 : min r 64 = r := by omega
      have m1 : min s 64 = s := by omega
      have HBY := Lib.hid (HBO.out k hlt)
      have hvq := HV.out q
      have hvn := HV.out (q + 1)
      rw [eq, er, es] at HBY
      obtain ⟨a, ea⟩ : ∃ a, v q / 2 ^ r = a := ⟨_, rfl⟩
      have hab : a ≤ v q := by rw [← ea]; exact Nat.div_le_self _ _
      have hdv : (v q : Int) / 2 ^ r = (a : Int) := by rw [← ea]; simp
      obtain ⟨y, ey⟩ : ∃ y, v (q + 1) * 2 ^ s = y := ⟨_, rfl⟩
      have hyb : y ≤ 67108864 * 67108864 := by rw [← ey]; exact Nat.mul_le_mul (Nat.le_of_lt hvn) (show 2 ^ s ≤ 2 ^ 26 from Nat.pow_le_pow_right (by omega) (by omega))
      have hml : IntKind.u64.wrap ((v (q + 1) : Int) * 2 ^ s) = (y : Int) := by
        have e10 : (v (q + 1) : Int) * 2 ^ s = (y : Int) := by rw [← ey]; simp
        rw [e10, u64_wrap y (by omega)]
      rw [ea, ey] at HBY
      have hor := u64_or_nat a y (by omega) (by omega)
      by_cases h5 : q + 1 < 5
      · have c2 := HX.out.1.cell (q + 1)
        rw [cn_at .u64 _ (q + 1) h5] at c2
        rw [if_pos h5] at HBY
        have q2 : (q : Int) + 1 < 5 := by omega
        obtain ⟨qn, eqn⟩ : ∃ qn, q + 1 = qn := ⟨_, rfl⟩
        have e5 : (q : Int) + 1 = (qn : Int) := by omega
        rw [eqn] at c2 hml
        have q3 : (qn : Int) < 5 := by omega
        have q4 : (0 : Int) ≤ (qn : Int) := by omega
        have wqn : IntKind.i64.wrap (qn : Int) = qn := by rw [IntKind.wrap_i64]; omega
        generalize v q = vq at *
        generalize v qn = vn at *
        generalize hx : a ||| y = x at *
        clear hx ea ey eq er ep es hq hr hab hyb hvq hvn
        go_wp2
        go_roundw
        case rel =>
          obtain ⟨h1, h2, h3, h4, h6⟩ := HX.out
          refine ⟨k + 1, xs.set k _, by omega, by go_num, Lib.hid ⟨h1.set_far _ _ _ (by omega), h2.set k _, by simp [h3], fun j hj => ?_, h6.setCell (show w.heap.size ≤ w.heap.size + 1 by omega) _⟩⟩
          by_cases e : j = k
          · rw [e, List.getElem?_set_self (by omega), ← HBY.out]
            simp
          · rw [List.getElem?_set_ne (by omega)]; exact h4 j (by omega)
        case measure => simp [intOf]; omega
      · rw [if_neg h5] at HBY
        have q2 : ¬ (q : Int) + 1 < 5 := by omega
        generalize v q = vq at *
        clear ea ey eq er ep es hq hr hab hyb hvq hvn hml hor
        go_wp2
        go_roundw
        case rel =>
          obtain ⟨h1, h2, h3, h4, h6⟩ := HX.out
          refine ⟨k + 1, xs.set k _, by omega, by go_num, Lib.hid ⟨h1.set_far _ _ _ (by omega), h2.set k _, by simp [h3], fun j hj => ?_, h6.setCell (show w.heap.size ≤ w.heap.size + 1 by omega) _⟩⟩
          by_cases e : j = k
          · rw [e, List.getElem?_set_self (by omega), ← HBY.out]
            simp
          · rw [List.getElem?_set_ne (by omega)]; exact h4 j (by omega)
        case measure => simp [intOf]; omega
    · have hfin := Lib.hid (show k = 16 by omega)
      have hconv := Flat.back wr (w.heap.size + 1) 16 16 BL HBL.out (fun j hj => by
        have hj2 := hj
        rw [HBL.out] at hj2
        rw [HX.out.2.1.cell j, HX.out.2.2.2.1 j (by have := hfin.out; omega), HBA.out j hj])
      go_wp2
      go_ret
      exact ⟨rfl, HX.out.2.2.2.2⟩
end Go.Proofs.YtcfdnifllehbjaaDoor.TagBytes
