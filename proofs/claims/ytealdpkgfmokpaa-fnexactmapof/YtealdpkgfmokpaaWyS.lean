/-
  What is proved: the model's functions on ways answer what the program's do (contracts for the walks).
-/
import Derived.Test.YtealdpkgfmokpaaRows
import Derived.Test.YtealdpkgfmokpaaWy
import Derived.Test.YtealdpkgfmokpaaCop
import Derived.Test.YtealdpkgfmokpaaLawN
import Derived.Lib.LazyBuf
import Derived.OwnWalk
namespace Go.Proofs.Ytealdpkgfmokpaa.WyS
open Go.ChangeShapes Go.WideShapes Go.ChangeAt Go.RowKit
open Sl (Sl Own Off)
open OpenSl (tc nc pc)
open Dev Cop Wy
set_option linter.unusedVariables false

theorem nc_one (zs : List Int) (j : Nat) : (nc zs j).oneCell' = true := rfl
theorem cl_nc (zs : List Int) : cl (nc zs) zs.length = zs.map (fun z => Value.int .i64 z) := by
  apply List.ext_getElem?
  intro i
  by_cases h : i < zs.length
  · rw [cl_get _ _ _ h, List.getElem?_map, List.getElem?_eq_getElem h]
    simp [nc, h]
  · rw [List.getElem?_eq_none (by rw [cl_len]; omega), List.getElem?_eq_none (by simp; omega)]
theorem next {l : Int} (hl : P8 l) : (7 + l - 1).tdiv 2 = 3 + l / 2 ∧ (3 + l / 2 - 1).tdiv 2 = 1 + l / 4 ∧ (1 + l / 4 - 1).tdiv 2 = 0 := by
  rcases eight hl with rfl | rfl | rfl | rfl | rfl | rfl | rfl | rfl <;> decide
/-- The way behind k buckets, as it grows. -/
def Gr (l b : Int) (zs : List Int) : Prop := (b = 7 + l ∧ zs = []) ∨ (b = 3 + l / 2 ∧ zs = [7 + l]) ∨ (b = 1 + l / 4 ∧ zs = [3 + l / 2, 7 + l]) ∨ (b = 0 ∧ zs = [1 + l / 4, 3 + l / 2, 7 + l])
theorem gr_bound {l b : Int} {zs : List Int} (hl : P8 l) (h : Gr l b zs) : 0 ≤ b ∧ b ≤ 14 ∧ zs.length ≤ 3 := by
  unfold P8 at hl
  rcases h with ⟨rfl, rfl⟩ | ⟨rfl, rfl⟩ | ⟨rfl, rfl⟩ | ⟨rfl, rfl⟩ <;> simp <;> omega
theorem gr_end {l b : Int} {zs : List Int} (hl : P8 l) (h : Gr l b zs) (h0 : b = 0) : b :: zs = wl l := by
  unfold P8 at hl
  rcases h with ⟨rfl, rfl⟩ | ⟨rfl, rfl⟩ | ⟨rfl, rfl⟩ | ⟨rfl, rfl⟩
  · omega
  · omega
  · omega
  · rfl
theorem gr_next {l b : Int} {zs : List Int} (hl : P8 l) (h : Gr l b zs) (h0 : b ≠ 0) : ∃ b', (b - 1).tdiv 2 = b' ∧ (b - 1) / 2 = b' ∧ Gr l b' (b :: zs) ∧ b'.toNat < b.toNat := by
  obtain ⟨n1, n2, n3⟩ := next hl
  refine ⟨_, rfl, ?_, ?_, ?_⟩
  · obtain ⟨h1, h2, _⟩ := gr_bound hl h
    rw [Int.tdiv_eq_ediv_of_nonneg (by omega)]
  · rcases h with ⟨rfl, rfl⟩ | ⟨rfl, rfl⟩ | ⟨rfl, rfl⟩ | ⟨rfl, rfl⟩
    · exact .inr (.inl ⟨n1, rfl⟩)
    · exact .inr (.inr (.inl ⟨n2, rfl⟩))
    · exact .inr (.inr (.inr ⟨n3, rfl⟩))
    · exact absurd rfl h0
  · obtain ⟨h1, h2, _⟩ := gr_bound hl h
    rw [Int.tdiv_eq_ediv_of_nonneg (by omega)]
    omega

theorem grown_row {w' : World} {base : Nat} {a' : Option Addr} {cap' : Nat} {b : Int} {zs : List Int} (h : w'.ownsRow base 3 1 (.slice a' (1 + zs.length) cap') (1 + zs.length) ((#[Value.int .i64 b] : Array Value).toList ++ cl (nc zs) (zs.length * 1))) :
    Own w' base 1 (.slice a' (b :: zs).length cap') (b :: zs).length (nc (b :: zs)) := by
  rw [List.length_cons, Nat.add_comm zs.length 1]
  refine own_of_row h _ (fun j hj => ?_)
  cases j with
  | zero => rfl
  | succ j =>
    rw [Nat.mul_one] at hj
    show (cl (nc zs) (zs.length * 1))[j]? = _
    rw [cl_get _ _ _ (by omega)]
    rfl

set_option maxRecDepth 100000 in
set_option maxHeartbeats 1600000 in
theorem l08Path (l : Int) (hl : P8 l) (w : World) :
    Calls Try.prog 107 #[.int .i64 l] w fun e w' => ∃ a cap, e = .returned (.slice a 4 cap) ∧ Own w' w.heap.size 1 (.slice a 4 cap) 4 (nc (wl l)) ∧ Below w.heap.size w w' := by
  have hl' : 0 ≤ l ∧ l < 8 := hl
  have HL := Lib.hid hl
  clear hl
  have HM := Lib.hid (World.ownsRow_made (base := w.heap.size) (e := 3) (size := 1) w #[] 0 (Nat.le_refl _) (by unfold maxLen; omega) rfl)
  have HB0 := Lib.hid ((Below.refl w.heap.size w).alloc (Nat.le_refl _) (.cells #[] 3))
  go_enter Try.func107, Try.ntmps107
  go_wp2
  generalize w.alloc (.cells #[] 3) = W0 at *
  have HG0 := Lib.hid (show Gr l (7 + l) [] from .inl ⟨rfl, rfl⟩)
  generalize 7 + l = b0 at *
  go_loopw [3, 4] (fun v i wz => ∃ (b : Int) (zs : List Int) (a : Option Addr) (cap : Nat) (wr : World), wr = wz ∧ i = .int .i64 b ∧ v = .slice a zs.length cap ∧ Hid (Gr l b zs) ∧ Hid (Own wr w.heap.size 1 (.slice a zs.length cap) zs.length (nc zs)) ∧ Hid (Below w.heap.size w wr)) (fun v i _ => (intOf i).toNat)
  case atStart => exact ⟨b0, [], _, _, _, rfl, rfl, rfl, HG0, Lib.hid (row_own (by simpa [cl] using HM.out)), HB0⟩
  case round =>
    obtain ⟨b, zs, a, cap, wr, rfl, rfl, rfl, HG, HR, HB⟩ := hrel
    obtain ⟨hb0, hb14, hz3⟩ := gr_bound HL.out HG.out
    have HLit := Lib.hid (World.ownsRow_lit (base := w.heap.size) (e := 3) (size := 1) wr #[.int .i64 b] 1 HB.out.size (by unfold maxLen; omega) rfl)
    have HB1 := Lib.hid (HB.out.alloc HB.out.size (.cells #[.int .i64 b] 3))
    have HR1 := Lib.hid (HR.out.below ((Below.refl wr.heap.size wr).alloc (Nat.le_refl _) (.cells #[.int .i64 b] 3)))
    by_cases h0 : b = 0
    · have HE := Lib.hid (gr_end HL.out HG.out h0)
      subst h0
      go_wp2_with (at_builtin; refine wpList_appR _ rfl (.tmp 12) (.tmp 13) 22 rfl w.heap.size 3 1 8 _ Try.underlying22 LawN.info3 rfl (by omega) (.slice (some ⟨wr.heap.size, 0, none⟩) 1 1) (by simp [Act.eval]) 1 _ HLit.out HB1.out.size (.slice a zs.length cap) (by simp [Act.eval]) zs.length (nc zs) HR1.out.sl (fun j _ => nc_one zs j) (by unfold maxLen; omega) (by omega) ?_; intro a' cap' w' ho hb; have HO := Lib.hid ho; have HG2 := Lib.hid hb; clear ho hb)
      go_ret
      have HX := grown_row HO.out
      rw [HE.out] at HX
      have HY : 1 + zs.length = 4 := by
        have := congrArg List.length HE.out
        simp [wl] at this
        omega
      refine ⟨a', cap', ?_, HX, HB1.out.grown HG2.out HB1.out.size (fun k hk => by cases hk; exact HB.out.size)⟩
      rw [← HY]
      rfl
    · obtain ⟨b', e1, e2, HN, hlt⟩ := gr_next HL.out HG.out h0
      go_wp2_with (at_builtin; refine wpList_appR _ rfl (.tmp 12) (.tmp 13) 22 rfl w.heap.size 3 1 8 _ Try.underlying22 LawN.info3 rfl (by omega) (.slice (some ⟨wr.heap.size, 0, none⟩) 1 1) (by simp [Act.eval]) 1 _ HLit.out HB1.out.size (.slice a zs.length cap) (by simp [Act.eval]) zs.length (nc zs) HR1.out.sl (fun j _ => nc_one zs j) (by unfold maxLen; omega) (by omega) ?_; intro a' cap' w' ho hb; have HO := Lib.hid ho; have HG2 := Lib.hid hb; clear ho hb)
      go_roundw
      case rel => exact ⟨b', b :: zs, a', cap', _, rfl, rfl, by rw [Nat.add_comm]; rfl, Lib.hid HN, Lib.hid (grown_row HO.out), Lib.hid (HB1.out.grown HG2.out HB1.out.size (fun k hk => by cases hk; exact HB.out.size))⟩
      case measure => exact hlt

set_option maxRecDepth 100000 in
set_option maxHeartbeats 800000 in
theorem l08On (b l : Int) (hl : P8 l) (w : World) :
    Calls Try.prog 105 #[.int .i64 b, .int .i64 l] w fun e w' => e = .returned (.bool (decide (On b l))) ∧ Below w.heap.size w w' := by
  obtain ⟨q, eq⟩ : ∃ q : Bool, decide (On b l) = q := ⟨_, rfl⟩
  have HQ1 := Lib.hid (show ∀ k, k < 4 → (wl l).getD k 0 = b → q = true from fun k hk e => by
    rw [← eq]
    refine decide_eq_true ((mem_wl b l).1 ?_)
    rw [← e, List.getD_eq_getElem?_getD, List.getElem?_eq_getElem (show k < (wl l).length from hk)]
    exact List.getElem_mem _)
  have HQ2 := Lib.hid (show (∀ k, k < 4 → (wl l).getD k 0 ≠ b) → q = false from fun hn => by
    rw [← eq]
    refine decide_eq_false fun h => ?_
    obtain ⟨k, hk, e⟩ := List.getElem_of_mem ((mem_wl b l).2 h)
    exact hn k hk (by rw [List.getD_eq_getElem?_getD, List.getElem?_eq_getElem hk]; exact e))
  rw [eq]
  clear eq
  go_enter Try.func105, Try.ntmps105
  go_wp2_with fail
  refine (l08Path l hl w).mono ?_
  rintro e w1 ⟨a, cap, rfl, ho, hb⟩
  have HB := Lib.hid hb
  have HO := Lib.hid ho.sl
  obtain ⟨_, _, _, h1, h2⟩ := ho.sl.form
  clear ho hb
  go_wp2
  go_loopw [6] (fun i wr => ∃ k : Nat, k ≤ 4 ∧ i = .int .i64 k ∧ w1 = wr ∧ Hid (∀ j, j < k → (wl l).getD j 0 ≠ b)) (fun i _ => 4 - (intOf i).toNat)
  case atStart => exact ⟨0, by omega, rfl, rfl, Lib.hid fun j hj => by omega⟩
  case round =>
    obtain ⟨k, hk, rfl, rfl, HJ⟩ := hrel
    by_cases hkn : k < 4
    · obtain ⟨b', o, rfl, hc⟩ := HO.out.at (by omega)
      have c0 := hc k (by omega)
      unfold nc at c0
      have HJ1 := Lib.hid (show (wl l).getD k 0 = b → q = true from HQ1.out k hkn)
      have HJ2 := Lib.hid (show (wl l).getD k 0 ≠ b → ∀ j, j < k + 1 → (wl l).getD j 0 ≠ b from fun hn j hj => by
        by_cases ej : j = k
        · rw [ej]; exact hn
        · exact HJ.out j (by omega))
      clear hc
      generalize (wl l).getD k 0 = s at *
      by_cases hb : s = b
      · subst hb
        obtain rfl := HJ1.out rfl
        go_wp2
        go_ret
        exact ⟨rfl, HB.out⟩
      · go_wp2
        go_roundw
        case rel => exact ⟨k + 1, by omega, by go_num, by trivial, Lib.hid (HJ2.out hb)⟩
        case measure => simp [intOf]; omega
    · obtain rfl := HQ2.out fun j hj => HJ.out j (by omega)
      go_wp2
      go_ret
      exact ⟨rfl, HB.out⟩
/-- What both calls PathOf and OnPath answer. -/
def pathL (z : Int) : List Int := if P8 z then wl z else []
def pathC (z : Int) : Int := if P8 z then 0 else 4
def B15 (z : Int) : Prop := 0 ≤ z ∧ z < 15
instance (z : Int) : Decidable (B15 z) := by unfold B15; infer_instance
def onB (b z : Int) : Bool := decide (B15 b ∧ P8 z ∧ On b z)
def onC (b z : Int) : Int := if B15 b ∧ P8 z then 0 else 4
end Go.Proofs.Ytealdpkgfmokpaa.WyS
