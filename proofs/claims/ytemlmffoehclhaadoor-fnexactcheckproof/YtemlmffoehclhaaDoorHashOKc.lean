/-
  What is proved: both tests of a hash are one plain function of its fields; the law on them returns true (the walk).
-/
import Derived.Test.YtemlmffoehclhaaDoorRows
import Derived.Test.YtemlmffoehclhaaDoorToHash
namespace Go.Proofs.YtemlmffoehclhaaDoor.HashOKc
open Go.ChangeShapes Go.WideShapes Go.ChangeAt Go.RowKit
set_option linter.unusedVariables false

theorem ret_bool {a b : Bool} (h : a = b) : Ending.returned (.bool a) = .returned (.bool b) := by rw [h]
def inB (n low high : Int) : Bool := decide (low ≤ n ∧ n ≤ high)
theorem l01In (n low high : Int) (w : World) :
    Calls Tryd.prog 64 #[.int .i64 n, .int .i64 low, .int .i64 high] w fun e w' => e = .returned (.bool (inB n low high)) ∧ w = w' := by
  by_cases h : low ≤ n
  all_goals
    go_enter Tryd.func64, Tryd.ntmps64
    go_wp2
    go_ret
    exact ⟨ret_bool (by unfold inB; rw [Bool.eq_iff_iff]; simp; try omega), rfl⟩

def hashB (xs : List Int) (s : ByteArray) (n : Int) : Bool := (xs.all fun x => inB x 0 4294967295) && inB n 0 1000000000 && decide ((s.size : Int) = n % 64)

theorem hashB_no (xs : List Int) (s : ByteArray) (n : Int) (k : Nat) (hk : k < xs.length) (h : inB (xs.getD k 0) 0 4294967295 = false) : hashB xs s n = false := by
  have : xs.all (fun x => inB x 0 4294967295) = false := by
    rw [List.all_eq_false]
    refine ⟨xs[k], List.getElem_mem hk, ?_⟩
    simp [List.getD_eq_getElem?_getD, List.getElem?_eq_getElem hk] at h
    simp [h]
  simp [hashB, this]
theorem hashB_yes (xs : List Int) (s : ByteArray) (n : Int) (h : ∀ k, k < xs.length → inB (xs.getD k 0) 0 4294967295 = true) : hashB xs s n = (inB n 0 1000000000 && decide ((s.size : Int) = n % 64)) := by
  have : xs.all (fun x => inB x 0 4294967295) = true := by
    rw [List.all_eq_true]
    intro x hx
    obtain ⟨k, hk, rfl⟩ := List.getElem_of_mem hx
    have := h k hk
    simpa [List.getD_eq_getElem?_getD, List.getElem?_eq_getElem hk] using this
  simp [hashB, this]

theorem cells8 (x0 x1 x2 x3 x4 x5 x6 x7 : Int) (s : ByteArray) (n : Int) (w : World) (k : Nat) (h : k < 8) :
    (w.alloc (Obj.cells #[.int .i64 x0, .int .i64 x1, .int .i64 x2, .int .i64 x3, .int .i64 x4, .int .i64 x5, .int .i64 x6, .int .i64 x7, .string s, .int .i64 n] 29)).cell? ⟨w.heap.size, k, none⟩ = some (.int .i64 ([x0, x1, x2, x3, x4, x5, x6, x7].getD k 0)) := by
  match k, h with
  | 0, _ => go_simp
  | 1, _ => go_simp
  | 2, _ => go_simp
  | 3, _ => go_simp
  | 4, _ => go_simp
  | 5, _ => go_simp
  | 6, _ => go_simp
  | 7, _ => go_simp

set_option maxHeartbeats 400000 in
theorem ok_spec (x0 x1 x2 x3 x4 x5 x6 x7 : Int) (s : ByteArray) (n : Int) (w : World) (hs : s.size ≤ maxLen) :
    Calls Tryd.prog 61 #[.agg #[.int .i64 x0, .int .i64 x1, .int .i64 x2, .int .i64 x3, .int .i64 x4, .int .i64 x5, .int .i64 x6, .int .i64 x7, .string s, .int .i64 n]] w fun e w' => e = .returned (.bool (hashB [x0, x1, x2, x3, x4, x5, x6, x7] s n)) ∧ Below w.heap.size w w' := by
  unfold maxLen at hs
  generalize hxs : [x0, x1, x2, x3, x4, x5, x6, x7] = xs
  have hl : xs.length = 8 := by rw [← hxs]; rfl
  have HC := Lib.hid (cells8 x0 x1 x2 x3 x4 x5 x6 x7 s n w)
  rw [hxs] at HC
  have HX := Lib.hid hxs
  have HL := Lib.hid hl
  clear hxs hl
  go_enter Tryd.func61, Tryd.ntmps61
  go_wp2
  go_loop [3] (fun i => ∃ k : Nat, k ≤ 8 ∧ i = .int .i64 k ∧ Hid (∀ j, j < k → inB (xs.getD j 0) 0 4294967295 = true)) (fun i => 8 - (intOf i).toNat)
  case atStart => exact ⟨0, by omega, rfl, Lib.hid (fun j a => by omega)⟩
  case round =>
    obtain ⟨k, hk, rfl, R⟩ := hrel
    by_cases hlt : k < 8
    · have hc := HC.out k hlt
      generalize hx : xs.getD k 0 = x at hc
      have HXk := Lib.hid hx
      clear hx
      cases hb : inB x 0 4294967295
      · have hz := Lib.hid (hashB_no xs s n k (by rw [HL.out]; exact hlt) (by rw [HXk.out]; exact hb))
        have HBk := Lib.hid hb
        clear hb
        go_wp2_with fail
        refine (l01In _ _ _ _).mono ?_
        rintro e w' ⟨rfl, rfl⟩
        rw [HBk.out]
        go_wp2
        go_ret
        exact ⟨ret_bool hz.out.symm, (Below.refl _ _).alloc (Nat.le_refl _) _⟩
      · have HBk := Lib.hid hb
        clear hb
        go_wp2_with fail
        refine (l01In _ _ _ _).mono ?_
        rintro e w' ⟨rfl, rfl⟩
        rw [HBk.out]
        go_wp2
        go_round
        case rel => exact ⟨k + 1, by omega, by go_num, Lib.hid (fun j a => by
          by_cases e : j = k
          · rw [e, HXk.out]; exact HBk.out
          · exact R.out j (by omega))⟩
        case measure => simp [intOf]; omega
    · have hz := Lib.hid (hashB_yes xs s n (fun j a => R.out j (by rw [HL.out] at a; omega)))
      cases hb : inB n 0 1000000000
      · have HBk := Lib.hid hb
        clear hb
        go_wp2_with fail
        refine (l01In _ _ _ _).mono ?_
        rintro e w' ⟨rfl, rfl⟩
        rw [HBk.out]
        go_wp2
        go_ret
        exact ⟨ret_bool (by rw [hz.out, HBk.out]; rfl), (Below.refl _ _).alloc (Nat.le_refl _) _⟩
      · have HBk := Lib.hid hb
        have hn : 0 ≤ n ∧ n ≤ 1000000000 := of_decide_eq_true hb
        obtain ⟨hn1, hn2⟩ := hn
        clear hb
        go_wp2_with fail
        refine (l01In _ _ _ _).mono ?_
        rintro e w' ⟨rfl, rfl⟩
        rw [HBk.out]
        go_wp2
        go_ret
        exact ⟨ret_bool (by rw [hz.out, HBk.out, Bool.eq_iff_iff]; simp), (Below.refl _ _).alloc (Nat.le_refl _) _⟩

theorem index8_0 (x0 x1 x2 x3 x4 x5 x6 x7 : Int) (w : World) : (Instr.index 27 (.agg #[.int .i64 x0, .int .i64 x1, .int .i64 x2, .int .i64 x3, .int .i64 x4, .int .i64 x5, .int .i64 x6, .int .i64 x7]) (.int .i64 0)).run Tryd.prog w = .ok (.int .i64 x0) w := by kernel_rfl
theorem index8_1 (x0 x1 x2 x3 x4 x5 x6 x7 : Int) (w : World) : (Instr.index 27 (.agg #[.int .i64 x0, .int .i64 x1, .int .i64 x2, .int .i64 x3, .int .i64 x4, .int .i64 x5, .int .i64 x6, .int .i64 x7]) (.int .i64 1)).run Tryd.prog w = .ok (.int .i64 x1) w := by kernel_rfl
theorem index8_2 (x0 x1 x2 x3 x4 x5 x6 x7 : Int) (w : World) : (Instr.index 27 (.agg #[.int .i64 x0, .int .i64 x1, .int .i64 x2, .int .i64 x3, .int .i64 x4, .int .i64 x5, .int .i64 x6, .int .i64 x7]) (.int .i64 2)).run Tryd.prog w = .ok (.int .i64 x2) w := by kernel_rfl
theorem index8_3 (x0 x1 x2 x3 x4 x5 x6 x7 : Int) (w : World) : (Instr.index 27 (.agg #[.int .i64 x0, .int .i64 x1, .int .i64 x2, .int .i64 x3, .int .i64 x4, .int .i64 x5, .int .i64 x6, .int .i64 x7]) (.int .i64 3)).run Tryd.prog w = .ok (.int .i64 x3) w := by kernel_rfl
theorem index8_4 (x0 x1 x2 x3 x4 x5 x6 x7 : Int) (w : World) : (Instr.index 27 (.agg #[.int .i64 x0, .int .i64 x1, .int .i64 x2, .int .i64 x3, .int .i64 x4, .int .i64 x5, .int .i64 x6, .int .i64 x7]) (.int .i64 4)).run Tryd.prog w = .ok (.int .i64 x4) w := by kernel_rfl
theorem index8_5 (x0 x1 x2 x3 x4 x5 x6 x7 : Int) (w : World) : (Instr.index 27 (.agg #[.int .i64 x0, .int .i64 x1, .int .i64 x2, .int .i64 x3, .int .i64 x4, .int .i64 x5, .int .i64 x6, .int .i64 x7]) (.int .i64 5)).run Tryd.prog w = .ok (.int .i64 x5) w := by kernel_rfl
theorem index8_6 (x0 x1 x2 x3 x4 x5 x6 x7 : Int) (w : World) : (Instr.index 27 (.agg #[.int .i64 x0, .int .i64 x1, .int .i64 x2, .int .i64 x3, .int .i64 x4, .int .i64 x5, .int .i64 x6, .int .i64 x7]) (.int .i64 6)).run Tryd.prog w = .ok (.int .i64 x6) w := by kernel_rfl
theorem index8_7 (x0 x1 x2 x3 x4 x5 x6 x7 : Int) (w : World) : (Instr.index 27 (.agg #[.int .i64 x0, .int .i64 x1, .int .i64 x2, .int .i64 x3, .int .i64 x4, .int .i64 x5, .int .i64 x6, .int .i64 x7]) (.int .i64 7)).run Tryd.prog w = .ok (.int .i64 x7) w := by kernel_rfl
theorem index8 (x0 x1 x2 x3 x4 x5 x6 x7 : Int) (k : Nat) (h : k < 8) (w : World) :
    (Instr.index 27 (.agg #[.int .i64 x0, .int .i64 x1, .int .i64 x2, .int .i64 x3, .int .i64 x4, .int .i64 x5, .int .i64 x6, .int .i64 x7]) (.int .i64 (k : Int))).run Tryd.prog w = .ok (.int .i64 ([x0, x1, x2, x3, x4, x5, x6, x7].getD k 0)) w := by
  match k, h with
  | 0, _ => exact index8_0 x0 x1 x2 x3 x4 x5 x6 x7 w
  | 1, _ => exact index8_1 x0 x1 x2 x3 x4 x5 x6 x7 w
  | 2, _ => exact index8_2 x0 x1 x2 x3 x4 x5 x6 x7 w
  | 3, _ => exact index8_3 x0 x1 x2 x3 x4 x5 x6 x7 w
  | 4, _ => exact index8_4 x0 x1 x2 x3 x4 x5 x6 x7 w
  | 5, _ => exact index8_5 x0 x1 x2 x3 x4 x5 x6 x7 w
  | 6, _ => exact index8_6 x0 x1 x2 x3 x4 x5 x6 x7 w
  | 7, _ => exact index8_7 x0 x1 x2 x3 x4 x5 x6 x7 w

set_option maxHeartbeats 400000 in
theorem ok_right (x0 x1 x2 x3 x4 x5 x6 x7 : Int) (s : ByteArray) (n : Int) (w : World) (hs : s.size ≤ maxLen) :
    Calls Tryd.prog 46 #[.agg #[.int .i64 x0, .int .i64 x1, .int .i64 x2, .int .i64 x3, .int .i64 x4, .int .i64 x5, .int .i64 x6, .int .i64 x7, .string s, .int .i64 n]] w fun e w' => e = .returned (.bool (hashB [x0, x1, x2, x3, x4, x5, x6, x7] s n)) ∧ Below w.heap.size w w' := by
  unfold maxLen at hs
  generalize hxs : [x0, x1, x2, x3, x4, x5, x6, x7] = xs
  have hl : xs.length = 8 := by rw [← hxs]; rfl
  have HC := Lib.hid (index8 x0 x1 x2 x3 x4 x5 x6 x7)
  rw [hxs] at HC
  have HX := Lib.hid hxs
  have HL := Lib.hid hl
  clear hxs hl
  by_cases hn1 : 0 ≤ n
  · by_cases hn2 : n ≤ 1000000000
    · by_cases hn3 : (s.size : Int) = n % 64
      · have HN := Lib.hid hn3
        have d3 : ((s.size : Int) != n % 64) = false := by simp [hn3]
        have d1 : decide (n < 0) = false := by simp; omega
        have d2 : decide (1000000000 < n) = false := by simp; omega
        clear hn3
        go_enter Tryd.func46, Tryd.ntmps46
        go_wp2
        go_loop [24] (fun i => ∃ k : Nat, k ≤ 8 ∧ i = .int .i64 k ∧ Hid (∀ j, j < k → inB (xs.getD j 0) 0 4294967295 = true)) (fun i => 8 - (intOf i).toNat)
        case atStart => exact ⟨0, by omega, rfl, Lib.hid (fun j a => by omega)⟩
        case round =>
          obtain ⟨k, hk, rfl, R⟩ := hrel
          by_cases hlt : k < 8
          · have hc := HC.out k hlt
            generalize hx : xs.getD k 0 = x at hc
            have HXk := Lib.hid hx
            clear hx
            by_cases g1 : x < 0
            · have hz := Lib.hid (hashB_no xs s n k (by rw [HL.out]; exact hlt) (by rw [HXk.out]; simp [inB]; omega))
              go_wp2
              go_ret
              exact ⟨ret_bool hz.out.symm, (Below.refl _ _).alloc (Nat.le_refl _) _⟩
            · by_cases g2 : 4294967295 < x
              · have hz := Lib.hid (hashB_no xs s n k (by rw [HL.out]; exact hlt) (by rw [HXk.out]; simp [inB]; omega))
                go_wp2
                go_ret
                exact ⟨ret_bool hz.out.symm, (Below.refl _ _).alloc (Nat.le_refl _) _⟩
              · go_wp2
                go_round
                case rel => exact ⟨k + 1, by omega, by go_num, Lib.hid (fun j a => by
                  by_cases e : j = k
                  · rw [e, HXk.out]; simp [inB]; omega
                  · exact R.out j (by omega))⟩
                case measure => simp [intOf]; omega
          · have hz := Lib.hid (hashB_yes xs s n (fun j a => R.out j (by rw [HL.out] at a; omega)))
            go_wp2
            go_ret
            exact ⟨ret_bool (by rw [hz.out, HN.out]; simp [inB]; omega), (Below.refl _ _).alloc (Nat.le_refl _) _⟩
      · have hz := Lib.hid (show hashB xs s n = false by simp [hashB, hn3])
        have d3 : ((s.size : Int) != n % 64) = true := by simp [hn3]
        have d1 : decide (n < 0) = false := by simp; omega
        have d2 : decide (1000000000 < n) = false := by simp; omega
        clear hn3
        go_enter Tryd.func46, Tryd.ntmps46
        go_wp2
        go_ret
        exact ⟨ret_bool hz.out.symm, (Below.refl _ _).alloc (Nat.le_refl _) _⟩
    · have hz := Lib.hid (show hashB xs s n = false by simp [hashB, inB, hn2])
      have d1 : decide (n < 0) = false := by simp; omega
      go_enter Tryd.func46, Tryd.ntmps46
      go_wp2
      go_ret
      exact ⟨ret_bool hz.out.symm, (Below.refl _ _).alloc (Nat.le_refl _) _⟩
  · have hz := Lib.hid (show hashB xs s n = false by simp [hashB, inB, hn1])
    go_enter Tryd.func46, Tryd.ntmps46
    go_wp2
    go_ret
    exact ⟨ret_bool hz.out.symm, (Below.refl _ _).alloc (Nat.le_refl _) _⟩

theorem ok_impl (x0 x1 x2 x3 x4 x5 x6 x7 : Int) (s : ByteArray) (n : Int) (w : World) (hs : s.size ≤ maxLen) :
    Calls Tryd.prog 20 #[.agg #[.int .i64 x0, .int .i64 x1, .int .i64 x2, .int .i64 x3, .int .i64 x4, .int .i64 x5, .int .i64 x6, .int .i64 x7, .string s, .int .i64 n]] w fun e w' => e = .returned (.bool (hashB [x0, x1, x2, x3, x4, x5, x6, x7] s n)) ∧ Below w.heap.size w w' := by
  go_enter Tryd.func20, Tryd.ntmps20
  go_wp2_with fail
  refine (ok_right _ _ _ _ _ _ _ _ _ _ _ hs).mono ?_
  rintro e w1 ⟨rfl, hb⟩
  have HB := Lib.hid hb
  clear hb
  go_wp2
  go_ret
  exact ⟨rfl, ((Below.refl _ _).alloc (Nat.le_refl _) _).trans (HB.out.mono (by simp))⟩

end Go.Proofs.YtemlmffoehclhaaDoor.HashOKc
