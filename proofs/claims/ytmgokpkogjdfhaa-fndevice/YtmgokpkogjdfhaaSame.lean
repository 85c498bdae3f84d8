/-
  What is proved: both functions that say whether two devices are alike answer the same plain yes or no (contracts for the walks).
-/
import Derived.Test.YtmgokpkogjdfhaaRows
import Derived.Test.YtmgokpkogjdfhaaLawD
namespace Go.Proofs.Ytmgokpkogjdfhaa.Same
open Go.ChangeShapes Go.WideShapes Go.ChangeAt Go.RowKit
open Sl (Sl Own Off)
open OpenSl (tc nc pc)
open Dev
open LawI (pc_even pc_odd)
set_option linter.unusedVariables false

theorem ext_iff {α : Type} (d : α) (a b : List α) : a = b ↔ a.length = b.length ∧ ∀ j, j < a.length → a.getD j d = b.getD j d := by
  constructor
  · rintro rfl; exact ⟨rfl, fun _ _ => rfl⟩
  · rintro ⟨hl, h⟩
    apply List.ext_getElem hl
    intro j h1 h2
    have := h j h1
    rwa [List.getD_eq_getElem?_getD, List.getD_eq_getElem?_getD, List.getElem?_eq_getElem h1, List.getElem?_eq_getElem h2] at this

theorem tl_ne {a b : ByteArray} (h : a ≠ b) : ¬ a.toList = b.toList := fun e => h (by
  rw [ByteArray.toList_eq, ByteArray.toList_eq] at e
  exact Go.WideShapes.bytes_inj e)
set_option maxRecDepth 100000 in
set_option maxHeartbeats 800000 in
theorem equalS (w : World) (u v : Value) (ts us : List ByteArray) (hu : Sl w 1 u ts.length (tc ts)) (hv : Sl w 1 v us.length (tc us)) :
    Calls Try.prog 57 #[u, v] w fun e w' => e = .returned (.bool (decide (ts = us))) ∧ Below w.heap.size w w' := by
  obtain ⟨a, cap, rfl, h1, h2, h3⟩ := hu
  obtain ⟨a', cap', rfl, h1', h2', h3'⟩ := hv
  have H3 := Lib.hid h3
  have H3' := Lib.hid h3'
  clear h3 h3'
  unfold maxLen at h2 h2'
  by_cases hl : ts.length = us.length
  case neg =>
    rw [decide_eq_false (fun e => hl (by rw [e]))]
    have d1 : ((ts.length : Int) != (us.length : Int)) = true := bne_iff_ne.2 (by omega)
    go_enter Try.func57, Try.ntmps57
    go_wp2_with fail
    go_ret
    exact ⟨rfl, Below.refl _ _⟩
  obtain ⟨q, eq⟩ : ∃ q : Bool, decide (ts = us) = q := ⟨_, rfl⟩
  have HQ0 := Lib.hid (show ∀ j, j < ts.length → ts.getD j ByteArray.empty ≠ us.getD j ByteArray.empty → q = false from fun j hj hne => by
    rw [← eq]; exact decide_eq_false fun e => hne (by rw [e]))
  have HQ1 := Lib.hid (show (∀ j, j < ts.length → ts.getD j ByteArray.empty = us.getD j ByteArray.empty) → q = true from fun h => by
    rw [← eq]; exact decide_eq_true ((ext_iff ByteArray.empty ts us).2 ⟨hl, h⟩))
  rw [eq]
  rw [← hl] at H3' h1' ⊢
  clear eq hl
  generalize ts.length = n at *
  go_enter Try.func57, Try.ntmps57
  go_wp2
  go_loopw [13] (fun i wr => ∃ k m : Nat, k ≤ n ∧ i = .int .i64 k ∧ wr = w.drewN m ∧ Hid (∀ j, j < k → ts.getD j ByteArray.empty = us.getD j ByteArray.empty)) (fun i _ => n - (intOf i).toNat)
  case atStart => exact ⟨0, 0, by omega, rfl, rfl, fun j hj => by omega⟩
  case round =>
    obtain ⟨k, m, hk, rfl, rfl, HJ⟩ := hrel
    by_cases hlt : k < n
    · obtain ⟨b, o, rfl, hc⟩ := H3.out (by omega)
      obtain ⟨b', o', rfl, hc'⟩ := H3'.out (by omega)
      have c0 := hc k (by omega)
      have c1 := hc' k (by omega)
      unfold tc at c0 c1
      have HN := Lib.hid (HQ0.out k hlt)
      have HM := Lib.hid (show ts.getD k ByteArray.empty = us.getD k ByteArray.empty → ∀ j, j < k + 1 → ts.getD j ByteArray.empty = us.getD j ByteArray.empty from fun e j hj => by
        by_cases ej : j = k
        · rw [ej]; exact e
        · exact HJ.out j (by omega))
      clear hc hc'
      generalize ts.getD k ByteArray.empty = s at *
      generalize us.getD k ByteArray.empty = s' at *
      by_cases he : s = s'
      · subst he
        go_wp2
        go_quiet (fail)
        go_wp2
        go_roundw
        case rel => exact ⟨k + 1, _, by omega, by go_num, rfl, Lib.hid (HM.out (by trivial))⟩
        case measure => simp [intOf]; omega
      · obtain rfl : q = false := HN.out he
        have d2 := tl_ne he
        have d3 : (s.toList == s'.toList) = false := beq_eq_false_iff_ne.2 d2
        have d4 : (s.toList != s'.toList) = true := bne_iff_ne.2 d2
        go_wp2
        go_quiet (fail)
        go_wp2
        go_ret
        exact ⟨rfl, below_drewN (below_drewN (Below.refl _ _) _) _⟩
    · obtain rfl : q = true := HQ1.out fun j hj => HJ.out j (by omega)
      go_wp2
      go_ret
      exact ⟨rfl, below_drewN (Below.refl _ _) m⟩

theorem ioNe (z z' : Int) (s s' : ByteArray) (u : World) : (binOp .neq 64 (.agg #[.int .i64 z, .string s]) (.agg #[.int .i64 z', .string s'])).run Try.prog u = .ok (.bool (!decide (z = z' ∧ s = s'))) u := by
  have u3 := Try.underlying3
  have a3 := Try.isAgg3
  have z3 := Try.sizeOf3
  have u9 := Try.underlying9
  have a9 := Try.isAgg9
  have z9 := Try.sizeOf9
  have e : (Op.equalIn Op.maxDepth 64 (.agg #[.int .i64 z, .string s]) (.agg #[.int .i64 z', .string s'])).run Try.prog u = .ok (decide (z = z' ∧ s = s')) u := by
    rw [show Op.maxDepth = 9999 + 1 from rfl, Op.equalIn]
    simp only [Sem.run_bind, run_underlying Try.underlying64, Result.andThen_ok]
    go_simp
    by_cases h1 : z = z'
    · rw [if_pos h1]
      by_cases h2 : s = s'
      · rw [if_pos (by rw [h2])]; simp [h1, h2]
      · rw [if_neg (tl_ne h2)]; simp [h2]
    · rw [if_neg h1]; simp [h1]
  simp [binOp, Op.equal, e]

set_option maxRecDepth 100000 in
set_option maxHeartbeats 800000 in
theorem equalI (w : World) (u v : Value) (xs ys : List (Int × ByteArray)) (hu : Sl w 2 u xs.length (pc xs)) (hv : Sl w 2 v ys.length (pc ys)) :
    Calls Try.prog 58 #[u, v] w fun e w' => e = .returned (.bool (decide (xs = ys))) ∧ Below w.heap.size w w' := by
  obtain ⟨a, cap, rfl, h1, h2, h3⟩ := hu
  obtain ⟨a', cap', rfl, h1', h2', h3'⟩ := hv
  have H3 := Lib.hid h3
  have H3' := Lib.hid h3'
  clear h3 h3'
  unfold maxLen at h2 h2'
  by_cases hl : xs.length = ys.length
  case neg =>
    rw [decide_eq_false (fun e => hl (by rw [e]))]
    have d1 : ((xs.length : Int) != (ys.length : Int)) = true := bne_iff_ne.2 (by omega)
    go_enter Try.func58, Try.ntmps58
    go_wp2_with fail
    go_ret
    exact ⟨rfl, Below.refl _ _⟩
  obtain ⟨q, eq⟩ : ∃ q : Bool, decide (xs = ys) = q := ⟨_, rfl⟩
  have HQ0 := Lib.hid (show ∀ j, j < xs.length → xs.getD j (0, ByteArray.empty) ≠ ys.getD j (0, ByteArray.empty) → q = false from fun j hj hne => by
    rw [← eq]; exact decide_eq_false fun e => hne (by rw [e]))
  have HQ1 := Lib.hid (show (∀ j, j < xs.length → xs.getD j (0, ByteArray.empty) = ys.getD j (0, ByteArray.empty)) → q = true from fun h => by
    rw [← eq]; exact decide_eq_true ((ext_iff (0, ByteArray.empty) xs ys).2 ⟨hl, h⟩))
  rw [eq]
  rw [← hl] at H3' h1' ⊢
  clear eq hl
  generalize xs.length = n at *
  go_enter Try.func58, Try.ntmps58
  go_wp2
  go_loopw [13] (fun i wr => ∃ k m : Nat, k ≤ n ∧ i = .int .i64 k ∧ wr = w.drewN m ∧ Hid (∀ j, j < k → xs.getD j (0, ByteArray.empty) = ys.getD j (0, ByteArray.empty))) (fun i _ => n - (intOf i).toNat)
  case atStart => exact ⟨0, 0, by omega, rfl, rfl, fun j hj => by omega⟩
  case round =>
    obtain ⟨k, m, hk, rfl, rfl, HJ⟩ := hrel
    by_cases hlt : k < n
    · obtain ⟨b, o, rfl, hc⟩ := H3.out (by omega)
      obtain ⟨b', o', rfl, hc'⟩ := H3'.out (by omega)
      have c0 := hc (k * 2) (by omega)
      have c1 := hc (k * 2 + 1) (by omega)
      have c2 := hc' (k * 2) (by omega)
      have c3 := hc' (k * 2 + 1) (by omega)
      rw [pc_even] at c0 c2
      rw [pc_odd, ← Nat.add_assoc] at c1 c3
      have HN := Lib.hid (HQ0.out k hlt)
      have HM := Lib.hid (show xs.getD k (0, ByteArray.empty) = ys.getD k (0, ByteArray.empty) → ∀ j, j < k + 1 → xs.getD j (0, ByteArray.empty) = ys.getD j (0, ByteArray.empty) from fun e j hj => by
        by_cases ej : j = k
        · rw [ej]; exact e
        · exact HJ.out j (by omega))
      clear hc hc'
      generalize xs.getD k (0, ByteArray.empty) = s at *
      generalize ys.getD k (0, ByteArray.empty) = s' at *
      obtain ⟨z, s⟩ := s
      obtain ⟨z', s'⟩ := s'
      simp only at c0 c1 c2 c3
      have hne := ioNe z z' s s'
      have i1 : (k : Int) < (n : Int) := by omega
      have i3 : (0 : Int) ≤ (k : Int) := by omega
      by_cases he : (z, s) = (z', s')
      · have hd := decide_eq_true (show z = z' ∧ s = s' by simpa using he)
        rw [hd] at hne
        have HEE := Lib.hid he
        clear he hd
        go_wp2
        go_quiet (fail)
        go_wp2
        go_roundw
        case rel => exact ⟨k + 1, _, by omega, by go_num, rfl, Lib.hid (HM.out HEE.out)⟩
        case measure => simp [intOf]; omega
      · obtain rfl : q = false := HN.out he
        have hd := decide_eq_false (show ¬ (z = z' ∧ s = s') from fun h => he (by rw [h.1, h.2]))
        rw [hd] at hne
        clear he hd
        go_wp2
        go_quiet (fail)
        go_wp2
        go_ret
        exact ⟨rfl, below_drewN (below_drewN (Below.refl _ _) _) _⟩
    · obtain rfl : q = true := HQ1.out fun j hj => HJ.out j (by omega)
      go_wp2
      go_ret
      exact ⟨rfl, below_drewN (Below.refl _ _) m⟩



set_option maxRecDepth 100000 in
set_option maxHeartbeats 800000 in
theorem impl (w : World) (u v : Value) (ts us : List ByteArray) (xs ys : List (Int × ByteArray)) (hu : Dev w u ts xs) (hv : Dev w v us ys) :
    Calls Try.prog 27 #[u, v] w fun e w' => e = .returned (.bool (decide (ts = us ∧ xs = ys))) ∧ Below w.heap.size w w' := by
  obtain ⟨sv, uv, rfl, h1, h2⟩ := hu
  obtain ⟨sv', uv', rfl, h1', h2'⟩ := hv
  have H1 := Lib.hid h1
  have H2 := Lib.hid h2
  have H1' := Lib.hid h1'
  have H2' := Lib.hid h2'
  clear h1 h2 h1' h2'
  have HB := Lib.hid (((Below.refl w.heap.size w).alloc (Nat.le_refl _) (.cells #[sv, uv] 26)).alloc (by simp) (.cells #[sv', uv'] 26))
  go_enter Try.func27, Try.ntmps27
  go_wp2_with fail
  refine (equalS _ sv sv' ts us (H1.out.below HB.out) (H1'.out.below HB.out)).mono ?_
  rintro e w1 ⟨rfl, hb⟩
  obtain ⟨hc, hf⟩ := LawD.bcell hb
  have HB2 := Lib.hid (HB.out.trans (hb.mono HB.out.size))
  clear hb hf
  simp only [World.size_alloc] at hc
  by_cases h : ts = us
  case neg =>
    rw [decide_eq_false h]
    have hq := decide_eq_false (fun hh : ts = us ∧ xs = ys => h hh.1)
    have HQ := Lib.hid hq
    clear hq h
    go_wp2_with fail
    go_ret
    exact ⟨by rw [HQ.out]; rfl, HB2.out⟩
  rw [decide_eq_true h]
  have HH := Lib.hid h
  clear h
  go_wp2_with fail
  refine (equalI _ uv uv' xs ys (H2.out.below HB2.out) (H2'.out.below HB2.out)).mono ?_
  rintro e w2 ⟨rfl, hb⟩
  have HB3 := Lib.hid (HB2.out.trans (hb.mono HB2.out.size))
  clear hb hc
  obtain ⟨q, eq⟩ : ∃ q, decide (xs = ys) = q := ⟨_, rfl⟩
  have HQ := Lib.hid (show decide (ts = us ∧ xs = ys) = q by rw [← eq]; exact decide_eq_decide.2 ⟨fun h => h.2, fun h => ⟨HH.out, h⟩⟩)
  rw [eq]
  clear eq
  go_wp2_with fail
  go_ret
  exact ⟨by rw [HQ.out]; rfl, HB3.out⟩
end Go.Proofs.Ytmgokpkogjdfhaa.Same
