/-
  What is proved: the model's functions on ways answer what the program's do (contracts for the walks).
-/
import Derived.Test.YtodhfpnfbdkefaaRows
import Derived.Test.YtodhfpnfbdkefaaWy
import Derived.Test.YtodhfpnfbdkefaaCop
import Derived.Test.YtodhfpnfbdkefaaLawN
import Derived.Lib.LazyBuf
import Derived.OwnWalk
namespace Go.Proofs.Ytodhfpnfbdkefaa.WyS
open Go.ChangeShapes Go.WideShapes Go.ChangeAt Go.RowKit
open Sl (Sl Own Off)
open OpenSl (tc nc pc)
open Dev Cop Wy
set_option linter.unusedVariables false

theorem nc_one (zs : List Int) (j : Nat) : (nc zs j).oneCell' = true := rfl
theorem cl_nc (zs : List Int) : cl (nc zs) zs.length = zs.map (fun z => Value.int .i64 z) := by
  apply List.ext_getElem?
  intro i
  by_cases h : i < zs.length
  · rw [cl_get _ _ _ h, List.getElem?_map, List.getElem?_eq_getElem h]
    simp [nc, h]
  · rw [List.getElem?_eq_none (by rw [cl_len]; omega), List.getElem?_eq_none (by simp; omega)]
theorem next {l : Int} (hl : P8 l) : (7 + l - 1).tdiv 2 = 3 + l / 2 ∧ (3 + l / 2 - 1).tdiv 2 = 1 + l / 4 ∧ (1 + l / 4 - 1).tdiv 2 = 0 := by
  rcases eight hl with rfl | rfl | rfl | rfl | rfl | rfl | rfl | rfl <;> decide
/-- The way behind k buckets, as it grows. -/
def Gr (l b : Int) (zs : List Int) : Prop := (b = 7 + l ∧ zs = []) ∨ (b = 3 + l / 2 ∧ zs = [7 + l]) ∨ (b = 1 + l / 4 ∧ zs = [3 + l / 2, 7 + l]) ∨ (b = 0 ∧ zs = [1 + l / 4, 3 + l / 2, 7 + l])
theorem gr_bound {l b : Int} {zs : List Int} (hl : P8 l) (h : Gr l b zs) : 0 ≤ b ∧ b ≤ 14 ∧ zs.length ≤ 3 := by
  unfold P8 at hl
  rcases h with ⟨rfl, rfl⟩ | ⟨rfl, rfl⟩ | ⟨rfl, rfl⟩ | ⟨rfl, rfl⟩ <;> simp <;> omega
theorem gr_end {l b : Int} {zs : List Int} (hl : P8 l) (h : Gr l b zs) (h0 : b = 0) : b :: zs = wl l := by
  unfold P8 at hl
  rcases h with ⟨rfl, rfl⟩ | ⟨rfl, rfl⟩ | ⟨rfl, rfl⟩ | ⟨rfl, rfl⟩
  · omega
  · omega
  · omega
  · rfl
theorem gr_next {l b : Int} {zs : List Int} (hl : P8 l) (h : Gr l b zs) (h0 : b ≠ 0) : ∃ b', (b - 1).tdiv 2 = b' ∧ (b - 1) / 2 = b' ∧ Gr l b' (b :: zs) ∧ b'.toNat < b.toNat := by
  obtain ⟨n1, n2, n3⟩ := next hl
  refine ⟨_, rfl, ?_, ?_, ?_⟩
  · obtain ⟨h1, h2, _⟩ := gr_bound hl h
    rw [Int.tdiv_eq_ediv_of_nonneg (by omega)]
  · rcases h with ⟨rfl, rfl⟩ | ⟨rfl, rfl⟩ | ⟨rfl, rfl⟩ | ⟨rfl, rfl⟩
    · exact .inr (.inl ⟨n1, rfl⟩)
    · exact .inr (.inr (.inl ⟨n2, rfl⟩))
    · exact .inr (.inr (.inr ⟨n3, rfl⟩))
    · exact absurd rfl h0
  · obtain ⟨h1, h2, _⟩ := gr_bound hl h
    rw [Int.tdiv_eq_ediv_of_nonneg (by omega)]
    omega

theorem grown_row {w' : World} {base : Nat} {a' : Option Addr} {cap' : Nat} {b : Int} {zs : List Int} (h : w'.ownsRow base 3 1 (.slice a' (1 + zs.length) cap') (1 + zs.length) ((#[Value.int .i64 b] : Array Value).toList ++ cl (nc zs) (zs.length * 1))) :
    Own w' base 1 (.slice a' (b :: zs).length cap') (b :: zs).length (nc (b :: zs)) := by
  rw [List.length_cons, Nat.add_comm zs.length 1]
  refine own_of_row h _ (fun j hj => ?_)
  cases j with
  | zero => rfl
  | succ j =>
    rw [Nat.mul_one] at hj
    show (cl (nc zs) (zs.length * 1))[j]? = _
    rw [cl_get _ _ _ (by omega)]
    rfl

set_option maxRecDepth 100000 in
set_option maxHeartbeats 1600000 in
theorem l08Path (l : Int) (hl : P8 l) (w : World) :
    Calls Try.prog 81 #[.int .i64 l] w fun e w' => ∃ a cap, e = .returned (.slice a 4 cap) ∧ Own w' w.heap.size 1 (.slice a 4 cap) 4 (nc (wl l)) ∧ Below w.heap.size w w' := by
  have hl' : 0 ≤ l ∧ l < 8 := hl
  have HL := Lib.hid hl
  clear hl
  have HM := Lib.hid (World.ownsRow_made (base := w.heap.size) (e := 3) (size := 1) w #[] 0 (Nat.le_refl _) (by unfold maxLen; omega) rfl)
  have HB0 := Lib.hid ((Below.refl w.heap.size w).alloc (Nat.le_refl _) (.cells #[] 3))
  go_enter Try.func81, Try.ntmps81
  go_wp2
  generalize w.alloc (.cells #[] 3) = W0 at *
  have HG0 := Lib.hid (show Gr l (7 + l) [] from .inl ⟨rfl, rfl⟩)
  generalize 7 + l = b0 at *
  go_loopw [3, 4] (fun v i wz => ∃ (b : Int) (zs : List Int) (a : Option Addr) (cap : Nat) (wr : World), wr = wz ∧ i = .int .i64 b ∧ v = .slice a zs.length cap ∧ Hid (Gr l b zs) ∧ Hid (Own wr w.heap.size 1 (.slice a zs.length cap) zs.length (nc zs)) ∧ Hid (Below w.heap.size w wr)) (fun v i _ => (intOf i).toNat)
  case atStart => exact ⟨b0, [], _, _, _, rfl, rfl, rfl, HG0, Lib.hid (row_own (by simpa [cl] using HM.out)), HB0⟩
  case round =>
    obtain ⟨b, zs, a, cap, wr, rfl, rfl, rfl, HG, HR, HB⟩ := hrel
    obtain ⟨hb0, hb14, hz3⟩ := gr_bound HL.out HG.out
    have HLit := Lib.hid (World.ownsRow_lit (base := w.heap.size) (e := 3) (size := 1) wr #[.int .i64 b] 1 HB.out.size (by unfold maxLen; omega) rfl)
    have HB1 := Lib.hid (HB.out.alloc HB.out.size (.cells #[.int .i64 b] 3))
    have HR1 := Lib.hid (HR.out.below ((Below.refl wr.heap.size wr).alloc (Nat.le_refl _) (.cells #[.int .i64 b] 3)))
    by_cases h0 : b = 0
    · have HE := Lib.hid (gr_end HL.out HG.out h0)
      subst h0
      go_wp2_with (at_builtin; refine wpList_appR _ rfl (.tmp 12) (.tmp 13) 23 rfl w.heap.size 3 1 8 _ Try.underlying23 LawN.info3 rfl (by omega) (.slice (some ⟨wr.heap.size, 0, none⟩) 1 1) (by simp [Act.eval]) 1 _ HLit.out HB1.out.size (.slice a zs.length cap) (by simp [Act.eval]) zs.length (nc zs) HR1.out.sl (fun j _ => nc_one zs j) (by unfold maxLen; omega) (by omega) ?_; intro a' cap' w' ho hb; have HO := Lib.hid ho; have HG2 := Lib.hid hb; clear ho hb)
      go_ret
      have HX := grown_row HO.out
      rw [HE.out] at HX
      have HY : 1 + zs.length = 4 := by
        have := congrArg List.length HE.out
        simp [wl] at this
        omega
      refine ⟨a', cap', ?_, HX, HB1.out.grown HG2.out HB1.out.size (fun k hk => by cases hk; exact HB.out.size)⟩
      rw [← HY]
      rfl
    · obtain ⟨b', e1, e2, HN, hlt⟩ := gr_next HL.out HG.out h0
      go_wp2_with (at_builtin; refine wpList_appR _ rfl (.tmp 12) (.tmp 13) 23 rfl w.heap.size 3 1 8 _ Try.underlying23 LawN.info3 rfl (by omega) (.slice (some ⟨wr.heap.size, 0, none⟩) 1 1) (by simp [Act.eval]) 1 _ HLit.out HB1.out.size (.slice a zs.length cap) (by simp [Act.eval]) zs.length (nc zs) HR1.out.sl (fun j _ => nc_one zs j) (by unfold maxLen; omega) (by omega) ?_; intro a' cap' w' ho hb; have HO := Lib.hid ho; have HG2 := Lib.hid hb; clear ho hb)
      go_roundw
      case rel => exact ⟨b', b :: zs, a', cap', _, rfl, rfl, by rw [Nat.add_comm]; rfl, Lib.hid HN, Lib.hid (grown_row HO.out), Lib.hid (HB1.out.grown HG2.out HB1.out.size (fun k hk => by cases hk; exact HB.out.size))⟩
      case measure => exact hlt

set_option maxRecDepth 100000 in
set_option maxHeartbeats 800000 in
theorem l08On (b l : Int) (hl : P8 l) (w : World) :
    Calls Try.prog 78 #[.int .i64 b, .int .i64 l] w fun e w' => e = .returned (.bool (decide (On b l))) ∧ Below w.heap.size w w' := by
  obtain ⟨q, eq⟩ : ∃ q : Bool, decide (On b l) = q := ⟨_, rfl⟩
  have HQ1 := Lib.hid (show ∀ k, k < 4 → (wl l).getD k 0 = b → q = true from fun k hk e => by
    rw [← eq]
    refine decide_eq_true ((mem_wl b l).1 ?_)
    rw [← e, List.getD_eq_getElem?_getD, List.getElem?_eq_getElem (show k < (wl l).length from hk)]
    exact List.getElem_mem _)
  have HQ2 := Lib.hid (show (∀ k, k < 4 → (wl l).getD k 0 ≠ b) → q = false from fun hn => by
    rw [← eq]
    refine decide_eq_false fun h => ?_
    obtain ⟨k, hk, e⟩ := List.getElem_of_mem ((mem_wl b l).2 h)
    exact hn k hk (by rw [List.getD_eq_getElem?_getD, List.getElem?_eq_getElem hk]; exact e))
  rw [eq]
  clear eq
  go_enter Try.func78, Try.ntmps78
  go_wp2_with fail
  refine (l08Path l hl w).mono ?_
  rintro e w1 ⟨a, cap, rfl, ho, hb⟩
  have HB := Lib.hid hb
  have HO := Lib.hid ho.sl
  obtain ⟨_, _, _, h1, h2⟩ := ho.sl.form
  clear ho hb
  go_wp2
  go_loopw [6] (fun i wr => ∃ k : Nat, k ≤ 4 ∧ i = .int .i64 k ∧ w1 = wr ∧ Hid (∀ j, j < k → (wl l).getD j 0 ≠ b)) (fun i _ => 4 - (intOf i).toNat)
  case atStart => exact ⟨0, by omega, rfl, rfl, Lib.hid fun j hj => by omega⟩
  case round =>
    obtain ⟨k, hk, rfl, rfl, HJ⟩ := hrel
    by_cases hkn : k < 4
    · obtain ⟨b', o, rfl, hc⟩ := HO.out.at (by omega)
      have c0 := hc k (by omega)
      unfold nc at c0
      have HJ1 := Lib.hid (show (wl l).getD k 0 = b → q = true from HQ1.out k hkn)
      have HJ2 := Lib.hid (show (wl l).getD k 0 ≠ b → ∀ j, j < k + 1 → (wl l).getD j 0 ≠ b from fun hn j hj => by
        by_cases ej : j = k
        · rw [ej]; exact hn
        · exact HJ.out j (by omega))
      clear hc
      generalize (wl l).getD k 0 = s at *
      by_cases hb : s = b
      · subst hb
        obtain rfl := HJ1.out rfl
        go_wp2
        go_ret
        exact ⟨rfl, HB.out⟩
      · go_wp2
        go_roundw
        case rel => exact ⟨k + 1, by omega, by go_num, by trivial, Lib.hid (HJ2.out hb)⟩
        case measure => simp [intOf]; omega
    · obtain rfl := HQ2.out fun j hj => HJ.out j (by omega)
      go_wp2
      go_ret
      exact ⟨rfl, HB.out⟩
/-- What both calls PathOf and OnPath answer. -/
def pathL (z : Int) : List Int := if P8 z then wl z else []
def pathC (z : Int) : Int := if P8 z then 0 else 4
def B15 (z : Int) : Prop := 0 ≤ z ∧ z < 15
instance (z : Int) : Decidable (B15 z) := by unfold B15; infer_instance
def onB (b z : Int) : Bool := decide (B15 b ∧ P8 z ∧ On b z)
def onC (b z : Int) : Int := if B15 b ∧ P8 z then 0 else 4
set_option maxRecDepth 100000 in
theorem implPath (z : Int) (w : World) : Calls Try.prog 23 #[.int .i64 z] w fun e w' => ∃ r, e = .returned (.tuple #[r, .int .i64 (pathC z)]) ∧ Own w' w.heap.size 1 r (pathL z).length (nc (pathL z)) ∧ Below w.heap.size w w' := by
  unfold pathC pathL
  by_cases hz : P8 z
  · rw [if_pos hz, if_pos hz]
    have HZ := Lib.hid hz
    have HW := Lib.hid (show ∀ (u : World), w.heap.size ≤ u.heap.size → Own (u.alloc (.cells (wv z) 70)) w.heap.size 1 (.slice (some ⟨u.heap.size, 0, none⟩) 4 4) (wl z).length (nc (wl z)) from fun u hu => by
      refine ⟨_, 4, rfl, Nat.le_refl _, by unfold maxLen; omega, fun _ => ⟨u.heap.size, 0, rfl, hu, fun j hj => ⟨?_, frozen_of_row _ u.heap.size _ (wv z) 70 (heap_alloc_new u _)⟩⟩⟩
      rw [cell_of_row _ u.heap.size _ (wv z) 70 (0, 0) (heap_alloc_new u _)]
      have hj4 : j < 4 := by simpa [wl] using hj
      match j, hj4 with
      | 0, _ => rfl
      | 1, _ => rfl
      | 2, _ => rfl
      | 3, _ => rfl)
    have HWV := Lib.hid (show wv z = #[.int .i64 0, .int .i64 (1 + z / 4), .int .i64 (3 + z / 2), .int .i64 (7 + z)] from rfl)
    go_enter Try.func23, Try.ntmps23
    go_wp2_with fail
    refine (isPath z w).mono ?_
    rintro e w1 ⟨rfl, rfl⟩
    rw [decide_eq_true HZ.out]
    go_wp2_with fail
    refine (wayTo z HZ.out w1).mono ?_
    rintro e w2 ⟨rfl, hb⟩
    rw [HWV.out]
    rw [HWV.out] at HW
    generalize 1 + z / 4 = x1 at *
    generalize 3 + z / 2 = x2 at *
    generalize 7 + z = x3 at *
    have HB := Lib.hid hb
    have HB2 := Lib.hid (hb.alloc hb.size (.cells #[.int .i64 0, .int .i64 x1, .int .i64 x2, .int .i64 x3] 70))
    clear hb
    go_wp2
    go_ret2
    exact ⟨_, rfl, HW.out _ HB.out.size, HB2.out⟩
  · rw [if_neg hz, if_neg hz]
    have HZ := Lib.hid hz
    go_enter Try.func23, Try.ntmps23
    go_wp2_with fail
    refine (isPath z w).mono ?_
    rintro e w1 ⟨rfl, rfl⟩
    rw [decide_eq_false HZ.out]
    go_wp2
    go_ret2
    exact ⟨_, rfl, ⟨none, 0, rfl, Nat.le_refl _, by unfold maxLen; omega, fun h => by simp at h⟩, Below.refl _ _⟩
set_option maxRecDepth 100000 in
theorem specPath (z : Int) (w : World) : Calls Try.prog 36 #[.int .i64 z] w fun e w' => ∃ r, e = .returned (.tuple #[r, .int .i64 (pathC z)]) ∧ Own w' w.heap.size 1 r (pathL z).length (nc (pathL z)) ∧ Below w.heap.size w w' := by
  unfold pathC pathL
  by_cases hz : P8 z
  · rw [if_pos hz, if_pos hz]
    have HZ := Lib.hid hz
    go_enter Try.func36, Try.ntmps36
    go_wp2_with fail
    refine (l01In z 0 7 w).mono ?_
    rintro e w1 ⟨rfl, rfl⟩
    rw [decide_eq_true (show 0 ≤ z ∧ z ≤ 7 by have := HZ.out; unfold P8 at this; omega)]
    go_wp2_with fail
    refine (l08Path z HZ.out w1).mono ?_
    rintro e w2 ⟨a, cap, rfl, ho, hb⟩
    have HO := Lib.hid ho
    have HB := Lib.hid hb
    clear ho hb
    go_wp2
    go_ret2
    exact ⟨_, rfl, HO.out, HB.out⟩
  · rw [if_neg hz, if_neg hz]
    have HZ := Lib.hid hz
    have HB := Lib.hid ((Below.refl w.heap.size w).alloc (Nat.le_refl _) (.cells #[] 3))
    go_enter Try.func36, Try.ntmps36
    go_wp2_with fail
    refine (l01In z 0 7 w).mono ?_
    rintro e w1 ⟨rfl, rfl⟩
    rw [decide_eq_false (show ¬ (0 ≤ z ∧ z ≤ 7) by have := HZ.out; unfold P8 at this; omega)]
    go_wp2
    go_ret2
    exact ⟨_, rfl, ⟨_, 0, rfl, Nat.le_refl _, by unfold maxLen; omega, fun h => by simp at h⟩, HB.out⟩
set_option maxRecDepth 100000 in
theorem implOn (b z : Int) (w : World) : Calls Try.prog 21 #[.int .i64 b, .int .i64 z] w fun e w' => e = .returned (.tuple #[.bool (onB b z), .int .i64 (onC b z)]) ∧ Below w.heap.size w w' := by
  unfold onB onC
  by_cases h0 : 0 ≤ b
  · by_cases h1 : b < 15
    · by_cases hz : P8 z
      · have HZ := Lib.hid hz
        rw [if_pos ⟨⟨h0, h1⟩, hz⟩]
        obtain ⟨q, eq⟩ : ∃ q, decide (On b z) = q := ⟨_, rfl⟩
        have EQ := Lib.hid eq
        rw [show decide (B15 b ∧ P8 z ∧ On b z) = q by rw [← eq]; exact decide_eq_decide.2 ⟨fun h => h.2.2, fun h => ⟨⟨h0, h1⟩, hz, h⟩⟩]
        clear hz eq
        have d1 : decide (b < 0) = false := decide_eq_false (by omega)
        have d2 : decide (b ≥ 15) = false := decide_eq_false (by omega)
        have d3 : decide (15 ≤ b) = false := decide_eq_false (by omega)
        go_enter Try.func21, Try.ntmps21
        go_wp2_with fail
        refine (isPath z w).mono ?_
        rintro e w1 ⟨rfl, rfl⟩
        rw [decide_eq_true HZ.out]
        go_wp2_with fail
        refine (isOnWay b z HZ.out w1).mono ?_
        rintro e w2 ⟨rfl, hb⟩
        rw [EQ.out]
        have HB := Lib.hid hb
        clear hb
        go_wp2
        go_ret2
        exact ⟨rfl, HB.out⟩
      · have HZ := Lib.hid hz
        rw [if_neg (fun h => hz h.2), decide_eq_false (fun h => hz h.2.1)]
        clear hz
        have d1 : decide (b < 0) = false := decide_eq_false (by omega)
        have d2 : decide (b ≥ 15) = false := decide_eq_false (by omega)
        have d3 : decide (15 ≤ b) = false := decide_eq_false (by omega)
        go_enter Try.func21, Try.ntmps21
        go_wp2_with fail
        refine (isPath z w).mono ?_
        rintro e w1 ⟨rfl, rfl⟩
        rw [decide_eq_false HZ.out]
        go_wp2
        go_ret2
        exact ⟨rfl, Below.refl _ _⟩
    · rw [if_neg (fun h => h1 h.1.2), decide_eq_false (fun h => h1 h.1.2)]
      have d1 : decide (b < 0) = false := decide_eq_false (by omega)
      have d2 : decide (b ≥ 15) = true := decide_eq_true (by omega)
      have d3 : decide (15 ≤ b) = true := decide_eq_true (by omega)
      go_enter Try.func21, Try.ntmps21
      go_wp2
      go_ret2
      exact ⟨rfl, Below.refl _ _⟩
  · rw [if_neg (fun h => h0 h.1.1), decide_eq_false (fun h => h0 h.1.1)]
    have d1 : decide (b < 0) = true := decide_eq_true (by omega)
    go_enter Try.func21, Try.ntmps21
    go_wp2
    go_ret2
    exact ⟨rfl, Below.refl _ _⟩
set_option maxRecDepth 100000 in
theorem specOn (b z : Int) (w : World) : Calls Try.prog 38 #[.int .i64 b, .int .i64 z] w fun e w' => e = .returned (.tuple #[.bool (onB b z), .int .i64 (onC b z)]) ∧ Below w.heap.size w w' := by
  unfold onB onC
  by_cases hb0 : B15 b
  · have HBB := Lib.hid (show 0 ≤ b ∧ b ≤ 14 by unfold B15 at hb0; omega)
    by_cases hz : P8 z
    · have HZ := Lib.hid hz
      have HZ2 := Lib.hid (show 0 ≤ z ∧ z ≤ 7 by unfold P8 at hz; omega)
      rw [if_pos ⟨hb0, hz⟩]
      obtain ⟨q, eq⟩ : ∃ q, decide (On b z) = q := ⟨_, rfl⟩
      have EQ := Lib.hid eq
      rw [show decide (B15 b ∧ P8 z ∧ On b z) = q by rw [← eq]; exact decide_eq_decide.2 ⟨fun h => h.2.2, fun h => ⟨hb0, hz, h⟩⟩]
      clear hz eq hb0
      go_enter Try.func38, Try.ntmps38
      go_wp2_with fail
      refine (l01In b 0 14 w).mono ?_
      rintro e w1 ⟨rfl, rfl⟩
      rw [decide_eq_true HBB.out]
      go_wp2_with fail
      refine (l01In z 0 7 w1).mono ?_
      rintro e w2 ⟨rfl, rfl⟩
      rw [decide_eq_true HZ2.out]
      go_wp2_with fail
      refine (l08On b z HZ.out w2).mono ?_
      rintro e w3 ⟨rfl, hb⟩
      rw [EQ.out]
      have HB := Lib.hid hb
      clear hb
      go_wp2
      go_ret2
      exact ⟨rfl, HB.out⟩
    · have HZ2 := Lib.hid (show ¬ (0 ≤ z ∧ z ≤ 7) by unfold P8 at hz; omega)
      rw [if_neg (fun h => hz h.2), decide_eq_false (fun h => hz h.2.1)]
      clear hz hb0
      go_enter Try.func38, Try.ntmps38
      go_wp2_with fail
      refine (l01In b 0 14 w).mono ?_
      rintro e w1 ⟨rfl, rfl⟩
      rw [decide_eq_true HBB.out]
      go_wp2_with fail
      refine (l01In z 0 7 w1).mono ?_
      rintro e w2 ⟨rfl, rfl⟩
      rw [decide_eq_false HZ2.out]
      go_wp2
      go_ret2
      exact ⟨rfl, Below.refl _ _⟩
  · have HBB := Lib.hid (show ¬ (0 ≤ b ∧ b ≤ 14) by unfold B15 at hb0; omega)
    rw [if_neg (fun h => hb0 h.1), decide_eq_false (fun h => hb0 h.1)]
    clear hb0
    go_enter Try.func38, Try.ntmps38
    go_wp2_with fail
    refine (l01In b 0 14 w).mono ?_
    rintro e w1 ⟨rfl, rfl⟩
    rw [decide_eq_false HBB.out]
    go_wp2
    go_ret2
    exact ⟨rfl, Below.refl _ _⟩
end Go.Proofs.Ytodhfpnfbdkefaa.WyS
