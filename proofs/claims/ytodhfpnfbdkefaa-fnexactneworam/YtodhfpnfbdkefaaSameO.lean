/-
  What is proved: both functions that say whether two trees are alike answer the same plain yes or no (contracts for the walks).
-/
import Derived.Test.YtodhfpnfbdkefaaRows
import Derived.Test.YtodhfpnfbdkefaaLawO3
import Derived.BigQuiet
namespace Go.Proofs.Ytodhfpnfbdkefaa.SameO
open Go.ChangeShapes Go.WideShapes Go.ChangeAt Go.RowKit
open Sl (Sl Own Off)
open OpenSl (tc nc pc)
open Dev Orm Box3
set_option linter.unusedVariables false

theorem ext_iff {α : Type} (d : α) (a b : List α) : a = b ↔ a.length = b.length ∧ ∀ j, j < a.length → a.getD j d = b.getD j d := by
  constructor
  · rintro rfl; exact ⟨rfl, fun _ _ => rfl⟩
  · rintro ⟨hl, h⟩
    apply List.ext_getElem hl
    intro j h1 h2
    have := h j h1
    rwa [List.getD_eq_getElem?_getD, List.getD_eq_getElem?_getD, List.getElem?_eq_getElem h1, List.getElem?_eq_getElem h2] at this
theorem below_drawn (w : World) (m : Nat) : Below w.heap.size w (w.drewN m) := below_drewN (Below.refl _ _) m
theorem drewN_drewN (w : World) (a b : Nat) : (w.drewN a).drewN b = w.drewN (a + b) := by
  unfold World.drewN; simp [Nat.add_assoc]
theorem bkEq (x y z x' y' z' : Int) (u : World) : (Op.equalIn Op.maxDepth 69 (.agg #[.int .i64 x, .int .i64 y, .int .i64 z]) (.agg #[.int .i64 x', .int .i64 y', .int .i64 z'])).run Try.prog u = .ok (decide (x = x' ∧ y = y' ∧ z = z')) u := by
  have u3 := Try.underlying3
  have a3 := Try.isAgg3
  have z3 := Try.sizeOf3
  rw [show Op.maxDepth = 9999 + 1 from rfl, Op.equalIn]
  simp only [Sem.run_bind, run_underlying Try.underlying69, Result.andThen_ok]
  go_simp
  by_cases h1 : x = x'
  · rw [if_pos h1]
    by_cases h2 : y = y'
    · rw [if_pos h2]
      by_cases h3 : z = z' <;> simp [h1, h2, h3]
    · rw [if_neg h2]; simp [h2]
  · rw [if_neg h1]; simp [h1]
theorem bkNe (x y z x' y' z' : Int) (u : World) : (binOp .neq 69 (.agg #[.int .i64 x, .int .i64 y, .int .i64 z]) (.agg #[.int .i64 x', .int .i64 y', .int .i64 z'])).run Try.prog u = .ok (.bool (!decide (x = x' ∧ y = y' ∧ z = z'))) u := by
  simp [binOp, Op.equal, bkEq]

set_option maxRecDepth 100000 in
set_option maxHeartbeats 800000 in
theorem equalN (w : World) (u v : Value) (xs ys : List Int) (hu : Sl w 1 u xs.length (nc xs)) (hv : Sl w 1 v ys.length (nc ys)) :
    Calls Try.prog 60 #[u, v] w fun e w' => e = .returned (.bool (decide (xs = ys))) ∧ ∃ m, w' = w.drewN m := by
  obtain ⟨a, cap, rfl, h1, h2, h3⟩ := hu
  obtain ⟨a', cap', rfl, h1', h2', h3'⟩ := hv
  have H3 := Lib.hid h3
  have H3' := Lib.hid h3'
  clear h3 h3'
  unfold maxLen at h2 h2'
  by_cases hl : xs.length = ys.length
  case neg =>
    rw [decide_eq_false (fun e => hl (by rw [e]))]
    have d1 : ((xs.length : Int) != (ys.length : Int)) = true := bne_iff_ne.2 (by omega)
    go_enter Try.func60, Try.ntmps60
    go_wp2_with fail
    go_ret
    exact ⟨rfl, 0, rfl⟩
  obtain ⟨q, eq⟩ : ∃ q : Bool, decide (xs = ys) = q := ⟨_, rfl⟩
  have HQ0 := Lib.hid (show ∀ j, j < xs.length → xs.getD j 0 ≠ ys.getD j 0 → q = false from fun j hj hne => by
    rw [← eq]; exact decide_eq_false fun e => hne (by rw [e]))
  have HQ1 := Lib.hid (show (∀ j, j < xs.length → xs.getD j 0 = ys.getD j 0) → q = true from fun h => by
    rw [← eq]; exact decide_eq_true ((ext_iff 0 xs ys).2 ⟨hl, h⟩))
  rw [eq]
  rw [← hl] at H3' h1' ⊢
  clear eq hl
  generalize xs.length = n at *
  go_enter Try.func60, Try.ntmps60
  go_wp2
  go_loopw [13] (fun i wr => ∃ k m : Nat, k ≤ n ∧ i = .int .i64 k ∧ wr = w.drewN m ∧ Hid (∀ j, j < k → xs.getD j 0 = ys.getD j 0)) (fun i _ => n - (intOf i).toNat)
  case atStart => exact ⟨0, 0, by omega, rfl, rfl, fun j hj => by omega⟩
  case round =>
    obtain ⟨k, m, hk, rfl, rfl, HJ⟩ := hrel
    by_cases hlt : k < n
    · obtain ⟨b, o, rfl, hc⟩ := H3.out (by omega)
      obtain ⟨b', o', rfl, hc'⟩ := H3'.out (by omega)
      have c0 := hc k (by omega)
      have c1 := hc' k (by omega)
      unfold nc at c0 c1
      have HN := Lib.hid (HQ0.out k hlt)
      have HM := Lib.hid (show xs.getD k 0 = ys.getD k 0 → ∀ j, j < k + 1 → xs.getD j 0 = ys.getD j 0 from fun e j hj => by
        by_cases ej : j = k
        · rw [ej]; exact e
        · exact HJ.out j (by omega))
      clear hc hc'
      generalize xs.getD k 0 = s at *
      generalize ys.getD k 0 = s' at *
      by_cases he : s = s'
      · subst he
        go_wp2
        go_quiet (fail)
        go_wp2
        go_roundw
        case rel => exact ⟨k + 1, _, by omega, by go_num, rfl, Lib.hid (HM.out (by trivial))⟩
        case measure => simp [intOf]; omega
      · obtain rfl : q = false := HN.out he
        have d3 : (s != s') = true := bne_iff_ne.2 he
        go_wp2
        go_quiet (fail)
        go_wp2
        go_ret
        exact ⟨rfl, _, drewN_drewN _ _ _⟩
    · obtain rfl : q = true := HQ1.out fun j hj => HJ.out j (by omega)
      go_wp2
      go_ret
      exact ⟨rfl, m, rfl⟩

set_option maxRecDepth 100000 in
set_option maxHeartbeats 800000 in
theorem equalB (w : World) (u v : Value) (xs ys : List Bk) (hu : Sl w 3 u xs.length (bc xs)) (hv : Sl w 3 v ys.length (bc ys)) :
    Calls Try.prog 61 #[u, v] w fun e w' => e = .returned (.bool (decide (xs = ys))) ∧ ∃ m, w' = w.drewN m := by
  obtain ⟨a, cap, rfl, h1, h2, h3⟩ := hu
  obtain ⟨a', cap', rfl, h1', h2', h3'⟩ := hv
  have H3 := Lib.hid h3
  have H3' := Lib.hid h3'
  clear h3 h3'
  unfold maxLen at h2 h2'
  by_cases hl : xs.length = ys.length
  case neg =>
    rw [decide_eq_false (fun e => hl (by rw [e]))]
    have d1 : ((xs.length : Int) != (ys.length : Int)) = true := bne_iff_ne.2 (by omega)
    go_enter Try.func61, Try.ntmps61
    go_wp2_with fail
    go_ret
    exact ⟨rfl, 0, rfl⟩
  obtain ⟨q, eq⟩ : ∃ q : Bool, decide (xs = ys) = q := ⟨_, rfl⟩
  have HQ0 := Lib.hid (show ∀ j, j < xs.length → xs.getD j (0, 0, 0) ≠ ys.getD j (0, 0, 0) → q = false from fun j hj hne => by
    rw [← eq]; exact decide_eq_false fun e => hne (by rw [e]))
  have HQ1 := Lib.hid (show (∀ j, j < xs.length → xs.getD j (0, 0, 0) = ys.getD j (0, 0, 0)) → q = true from fun h => by
    rw [← eq]; exact decide_eq_true ((ext_iff (0, 0, 0) xs ys).2 ⟨hl, h⟩))
  rw [eq]
  rw [← hl] at H3' h1' ⊢
  clear eq hl
  generalize xs.length = n at *
  go_enter Try.func61, Try.ntmps61
  go_wp2
  go_loopw [13] (fun i wr => ∃ k m : Nat, k ≤ n ∧ i = .int .i64 k ∧ wr = w.drewN m ∧ Hid (∀ j, j < k → xs.getD j (0, 0, 0) = ys.getD j (0, 0, 0))) (fun i _ => n - (intOf i).toNat)
  case atStart => exact ⟨0, 0, by omega, rfl, rfl, fun j hj => by omega⟩
  case round =>
    obtain ⟨k, m, hk, rfl, rfl, HJ⟩ := hrel
    by_cases hlt : k < n
    · obtain ⟨b, o, rfl, hc⟩ := H3.out (by omega)
      obtain ⟨b', o', rfl, hc'⟩ := H3'.out (by omega)
      have c0 := hc (k * 3) (by omega)
      have c1 := hc (k * 3 + 1) (by omega)
      have c2 := hc (k * 3 + 2) (by omega)
      have d0 := hc' (k * 3) (by omega)
      have d1 := hc' (k * 3 + 1) (by omega)
      have d2 := hc' (k * 3 + 2) (by omega)
      rw [bc0] at c0 d0
      rw [bc1, ← Nat.add_assoc] at c1 d1
      rw [bc2, ← Nat.add_assoc] at c2 d2
      have HN := Lib.hid (HQ0.out k hlt)
      have HM := Lib.hid (show xs.getD k (0, 0, 0) = ys.getD k (0, 0, 0) → ∀ j, j < k + 1 → xs.getD j (0, 0, 0) = ys.getD j (0, 0, 0) from fun e j hj => by
        by_cases ej : j = k
        · rw [ej]; exact e
        · exact HJ.out j (by omega))
      clear hc hc'
      generalize xs.getD k (0, 0, 0) = s at *
      generalize ys.getD k (0, 0, 0) = s' at *
      obtain ⟨x, y, z⟩ := s
      obtain ⟨x', y', z'⟩ := s'
      simp only at c0 c1 c2 d0 d1 d2
      have hne := bkNe x y z x' y' z'
      have i1 : (k : Int) < (n : Int) := by omega
      have i3 : (0 : Int) ≤ (k : Int) := by omega
      by_cases he : (x, y, z) = (x', y', z')
      · have hd := decide_eq_true (show x = x' ∧ y = y' ∧ z = z' by simpa using he)
        rw [hd] at hne
        have HEE := Lib.hid he
        clear he hd
        go_wp2
        go_quiet (fail)
        go_wp2
        go_roundw
        case rel => exact ⟨k + 1, _, by omega, by go_num, rfl, Lib.hid (HM.out HEE.out)⟩
        case measure => simp [intOf]; omega
      · obtain rfl : q = false := HN.out he
        have hd := decide_eq_false (show ¬ (x = x' ∧ y = y' ∧ z = z') from fun h => he (by rw [h.1, h.2.1, h.2.2]))
        rw [hd] at hne
        clear he hd
        go_wp2
        go_quiet (fail)
        go_wp2
        go_ret
        exact ⟨rfl, _, drewN_drewN _ _ _⟩
    · obtain rfl : q = true := HQ1.out fun j hj => HJ.out j (by omega)
      go_wp2
      go_ret
      exact ⟨rfl, m, rfl⟩

set_option maxRecDepth 100000 in
set_option maxHeartbeats 1600000 in
theorem equalF (w : World) (u v : Value) (xs ys : List (List Bk)) (hu : Ns w u xs) (hv : Ns w v ys) :
    Calls Try.prog 62 #[u, v, .func (.func 61) #[] #[]] w fun e w' => e = .returned (.bool (decide (xs = ys))) ∧ ∃ m, w' = w.drewN m := by
  obtain ⟨us, ⟨a, cap, rfl, h1, h2, h3⟩, hui⟩ := hu
  obtain ⟨vs, ⟨a', cap', rfl, h1', h2', h3'⟩, hvi⟩ := hv
  have H3 := Lib.hid h3
  have H3' := Lib.hid h3'
  have HI := Lib.hid hui
  have HI' := Lib.hid hvi
  clear h3 h3' hui hvi
  unfold maxLen at h2 h2'
  by_cases hl : xs.length = ys.length
  case neg =>
    rw [decide_eq_false (fun e => hl (by rw [e]))]
    have d1 : ((xs.length : Int) != (ys.length : Int)) = true := bne_iff_ne.2 (by omega)
    go_enter Try.func62, Try.ntmps62
    go_wp2_with fail
    go_ret
    exact ⟨rfl, 0, rfl⟩
  obtain ⟨q, eq⟩ : ∃ q : Bool, decide (xs = ys) = q := ⟨_, rfl⟩
  have HQ0 := Lib.hid (show ∀ j, j < xs.length → xs.getD j [] ≠ ys.getD j [] → q = false from fun j hj hne => by
    rw [← eq]; exact decide_eq_false fun e => hne (by rw [e]))
  have HQ1 := Lib.hid (show (∀ j, j < xs.length → xs.getD j [] = ys.getD j []) → q = true from fun h => by
    rw [← eq]; exact decide_eq_true ((ext_iff [] xs ys).2 ⟨hl, h⟩))
  rw [eq]
  rw [← hl] at H3' h1' HI' ⊢
  clear eq hl
  generalize xs.length = n at *
  go_enter Try.func62, Try.ntmps62
  go_wp2
  go_loopw [17] (fun i wr => ∃ k m : Nat, k ≤ n ∧ i = .int .i64 k ∧ wr = w.drewN m ∧ Hid (∀ j, j < k → xs.getD j [] = ys.getD j [])) (fun i _ => n - (intOf i).toNat)
  case atStart => exact ⟨0, 0, by omega, rfl, rfl, fun j hj => by omega⟩
  case round =>
    obtain ⟨k, m, hk, rfl, rfl, HJ⟩ := hrel
    by_cases hlt : k < n
    · obtain ⟨b, o, rfl, hc⟩ := H3.out (by omega)
      obtain ⟨b', o', rfl, hc'⟩ := H3'.out (by omega)
      have c0 := hc k (by omega)
      have d0 := hc' k (by omega)
      have HU := Lib.hid (HI.out k hlt)
      have HV := Lib.hid (HI'.out k hlt)
      have HN := Lib.hid (HQ0.out k hlt)
      have HM := Lib.hid (show xs.getD k [] = ys.getD k [] → ∀ j, j < k + 1 → xs.getD j [] = ys.getD j [] from fun e j hj => by
        by_cases ej : j = k
        · rw [ej]; exact e
        · exact HJ.out j (by omega))
      clear hc hc'
      generalize xs.getD k [] = s at *
      generalize ys.getD k [] = s' at *
      obtain ⟨a2, cap2, e2, _, _⟩ := HU.out.form
      obtain ⟨a3, cap3, e3, _, _⟩ := HV.out.form
      rw [e2] at c0 HU
      rw [e3] at d0 HV
      go_wp2_with fail
      refine (equalB (w.drewN m) _ _ s s' (HU.out.below (below_drawn _ _)) (HV.out.below (below_drawn _ _))).mono ?_
      rintro e w1 ⟨rfl, m2, rfl⟩
      rw [drewN_drewN]
      by_cases he : s = s'
      · rw [decide_eq_true he]
        have HEE := Lib.hid he
        clear he
        go_wp2
        go_roundw
        case rel => exact ⟨k + 1, _, by omega, by go_num, rfl, Lib.hid (HM.out HEE.out)⟩
        case measure => simp [intOf]; omega
      · rw [decide_eq_false he]
        obtain rfl : q = false := HN.out he
        clear he
        go_wp2
        go_ret
        exact ⟨rfl, _, rfl⟩
    · obtain rfl : q = true := HQ1.out fun j hj => HJ.out j (by omega)
      go_wp2
      go_ret
      exact ⟨rfl, m, rfl⟩
instance : DecidableEq Om := fun a b =>
  decidable_of_iff (a.pos = b.pos ∧ a.st = b.st ∧ a.bk = b.bk) ⟨fun ⟨h1, h2, h3⟩ => by cases a; cases b; simp_all, fun h => by subst h; exact ⟨rfl, rfl, rfl⟩⟩
theorem om_eq (a b : Om) : a = b ↔ a.pos = b.pos ∧ a.st = b.st ∧ a.bk = b.bk := ⟨fun h => by subst h; exact ⟨rfl, rfl, rfl⟩, fun ⟨h1, h2, h3⟩ => by cases a; cases b; simp_all⟩

set_option maxRecDepth 100000 in
set_option maxHeartbeats 800000 in
theorem impl (w : World) (u v : Value) (o o' : Om) (hu : Rd w u o) (hv : Rd w v o') :
    Calls Try.prog 22 #[u, v] w fun e w' => e = .returned (.bool (decide (o = o'))) ∧ Below w.heap.size w w' := by
  obtain ⟨p, s, b, rfl, h1, h2, h3⟩ := hu
  obtain ⟨p', s', b', rfl, h1', h2', h3'⟩ := hv
  obtain ⟨U1, e1, hb1, hz1, B1⟩ := box3 w 27 p s b
  obtain ⟨U2, e2, hb2, hz2, B2⟩ := box3 U1 27 p' s' b'
  have hbb := hb1.trans (hb2.mono hb1.size)
  have HB := Lib.hid hbb
  have H1 := Lib.hid (h1.below hbb)
  have H2 := Lib.hid (h2.below hbb)
  have H3 := Lib.hid (h3.below hbb)
  have H1' := Lib.hid (h1'.below hbb)
  have H2' := Lib.hid (h2'.below hbb)
  have H3' := Lib.hid (h3'.below hbb)
  have X1 := B1.below hb2
  obtain ⟨G1, eG1⟩ : ∃ G1, w.heap.size = G1 := ⟨_, rfl⟩
  obtain ⟨G2, eG2⟩ : ∃ G2, U1.heap.size = G2 := ⟨_, rfl⟩
  rw [eG1] at X1
  rw [eG2] at B2
  obtain ⟨c0, c1, c2, _, _, _⟩ := X1
  obtain ⟨d0, d1, d2, _, _, _⟩ := B2
  clear h1 h2 h3 h1' h2' h3' hbb hb1 hb2 hz1 hz2 B1
  go_enter Try.func22, Try.ntmps22
  go_wp2_with fail
  clear e1 e2 eG1 eG2
  refine (equalN U2 p p' o.pos o'.pos H1.out H1'.out).mono ?_
  rintro e w1 ⟨rfl, m, rfl⟩
  have om := om_eq o o'
  have HOM := Lib.hid om
  clear om
  by_cases h : o.pos = o'.pos
  case neg =>
    rw [decide_eq_false h]
    have HQ := Lib.hid (decide_eq_false (fun hh : o = o' => h (HOM.out.1 hh).1))
    clear h
    go_wp2_with fail
    go_ret
    exact ⟨by rw [HQ.out]; rfl, below_drewN HB.out _⟩
  rw [decide_eq_true h]
  have HH := Lib.hid h
  clear h
  go_wp2_with fail
  refine (equalB _ s s' o.st o'.st (H2.out.below (below_drawn _ _)) (H2'.out.below (below_drawn _ _))).mono ?_
  rintro e w2 ⟨rfl, m2, rfl⟩
  rw [drewN_drewN]
  by_cases h : o.st = o'.st
  case neg =>
    rw [decide_eq_false h]
    have HQ := Lib.hid (decide_eq_false (fun hh : o = o' => h (HOM.out.1 hh).2.1))
    clear h
    go_wp2_with fail
    go_ret
    exact ⟨by rw [HQ.out]; rfl, below_drewN HB.out _⟩
  rw [decide_eq_true h]
  have HH2 := Lib.hid h
  clear h
  go_wp2_with fail
  refine (equalF _ b b' o.bk o'.bk (H3.out.below (below_drawn _ _)) (H3'.out.below (below_drawn _ _))).mono ?_
  rintro e w3 ⟨rfl, m3, rfl⟩
  rw [drewN_drewN]
  obtain ⟨q, eq⟩ : ∃ q, decide (o.bk = o'.bk) = q := ⟨_, rfl⟩
  have HQ := Lib.hid (show decide (o = o') = q by rw [← eq]; exact decide_eq_decide.2 ⟨fun h => (HOM.out.1 h).2.2, fun h => HOM.out.2 ⟨HH.out, HH2.out, h⟩⟩)
  rw [eq]
  clear eq
  go_wp2_with fail
  go_ret
  exact ⟨by rw [HQ.out]; rfl, below_drewN HB.out _⟩

set_option maxRecDepth 100000 in
set_option maxHeartbeats 800000 in
theorem l08Blocks (w : World) (u v : Value) (xs ys : List Bk) (hu : Sl w 3 u xs.length (bc xs)) (hv : Sl w 3 v ys.length (bc ys)) :
    Calls Try.prog 83 #[u, v] w fun e w' => e = .returned (.bool (decide (xs = ys))) ∧ ∃ m, w' = w.drewN m := by
  obtain ⟨a, cap, rfl, h1, h2, h3⟩ := hu
  obtain ⟨a', cap', rfl, h1', h2', h3'⟩ := hv
  have H3 := Lib.hid h3
  have H3' := Lib.hid h3'
  clear h3 h3'
  unfold maxLen at h2 h2'
  by_cases hl : xs.length = ys.length
  case neg =>
    rw [decide_eq_false (fun e => hl (by rw [e]))]
    have d1 : ((xs.length : Int) != (ys.length : Int)) = true := bne_iff_ne.2 (by omega)
    go_enter Try.func83, Try.ntmps83
    go_wp2_with fail
    go_ret
    exact ⟨rfl, 0, rfl⟩
  obtain ⟨q, eq⟩ : ∃ q : Bool, decide (xs = ys) = q := ⟨_, rfl⟩
  have HQ0 := Lib.hid (show ∀ j, j < xs.length → xs.getD j (0, 0, 0) ≠ ys.getD j (0, 0, 0) → q = false from fun j hj hne => by
    rw [← eq]; exact decide_eq_false fun e => hne (by rw [e]))
  have HQ1 := Lib.hid (show (∀ j, j < xs.length → xs.getD j (0, 0, 0) = ys.getD j (0, 0, 0)) → q = true from fun h => by
    rw [← eq]; exact decide_eq_true ((ext_iff (0, 0, 0) xs ys).2 ⟨hl, h⟩))
  rw [eq]
  rw [← hl] at H3' h1' ⊢
  clear eq hl
  generalize xs.length = n at *
  go_enter Try.func83, Try.ntmps83
  go_wp2
  go_loopw [5] (fun i wr => ∃ k m : Nat, k ≤ n ∧ i = .int .i64 k ∧ wr = w.drewN m ∧ Hid (∀ j, j < k → xs.getD j (0, 0, 0) = ys.getD j (0, 0, 0))) (fun i _ => n - (intOf i).toNat)
  case atStart => exact ⟨0, 0, by omega, rfl, rfl, fun j hj => by omega⟩
  case round =>
    obtain ⟨k, m, hk, rfl, rfl, HJ⟩ := hrel
    by_cases hlt : k < n
    · obtain ⟨b, o, rfl, hc⟩ := H3.out (by omega)
      obtain ⟨b', o', rfl, hc'⟩ := H3'.out (by omega)
      have c0 := hc (k * 3) (by omega)
      have c1 := hc (k * 3 + 1) (by omega)
      have c2 := hc (k * 3 + 2) (by omega)
      have d0 := hc' (k * 3) (by omega)
      have d1 := hc' (k * 3 + 1) (by omega)
      have d2 := hc' (k * 3 + 2) (by omega)
      rw [bc0] at c0 d0
      rw [bc1, ← Nat.add_assoc] at c1 d1
      rw [bc2, ← Nat.add_assoc] at c2 d2
      have HN := Lib.hid (HQ0.out k hlt)
      have HM := Lib.hid (show xs.getD k (0, 0, 0) = ys.getD k (0, 0, 0) → ∀ j, j < k + 1 → xs.getD j (0, 0, 0) = ys.getD j (0, 0, 0) from fun e j hj => by
        by_cases ej : j = k
        · rw [ej]; exact e
        · exact HJ.out j (by omega))
      clear hc hc'
      generalize xs.getD k (0, 0, 0) = s at *
      generalize ys.getD k (0, 0, 0) = s' at *
      obtain ⟨x, y, z⟩ := s
      obtain ⟨x', y', z'⟩ := s'
      simp only at c0 c1 c2 d0 d1 d2
      have hne := bkNe x y z x' y' z'
      have i1 : (k : Int) < (n : Int) := by omega
      have i3 : (0 : Int) ≤ (k : Int) := by omega
      by_cases he : (x, y, z) = (x', y', z')
      · have hd := decide_eq_true (show x = x' ∧ y = y' ∧ z = z' by simpa using he)
        rw [hd] at hne
        have HEE := Lib.hid he
        clear he hd
        go_wp2
        go_quiet (fail)
        go_wp2
        go_roundw
        case rel => exact ⟨k + 1, _, by omega, by go_num, rfl, Lib.hid (HM.out HEE.out)⟩
        case measure => simp [intOf]; omega
      · obtain rfl : q = false := HN.out he
        have hd := decide_eq_false (show ¬ (x = x' ∧ y = y' ∧ z = z') from fun h => he (by rw [h.1, h.2.1, h.2.2]))
        rw [hd] at hne
        clear he hd
        go_wp2
        go_quiet (fail)
        go_wp2
        go_ret
        exact ⟨rfl, _, drewN_drewN _ _ _⟩
    · obtain rfl : q = true := HQ1.out fun j hj => HJ.out j (by omega)
      go_wp2
      go_ret
      exact ⟨rfl, m, rfl⟩

set_option maxRecDepth 100000 in
set_option maxHeartbeats 1600000 in
theorem spec (w : World) (u v : Value) (o o' : Om) (hu : Rd w u o) (hv : Rd w v o') :
    Calls Try.prog 41 #[u, v] w fun e w' => e = .returned (.bool (decide (o = o'))) ∧ Below w.heap.size w w' := by
  obtain ⟨p, s, b, rfl, h1, h2, h3⟩ := hu
  obtain ⟨p', s', b', rfl, h1', h2', h3'⟩ := hv
  obtain ⟨U1, e1, hb1, hz1, B1⟩ := box3 w 27 p s b
  obtain ⟨U2, e2, hb2, hz2, B2⟩ := box3 U1 27 p' s' b'
  have hbb := hb1.trans (hb2.mono hb1.size)
  have HB := Lib.hid hbb
  have H2 := Lib.hid (h2.below hbb)
  have H2' := Lib.hid (h2'.below hbb)
  have k1 := h1.below hbb
  have k3 := h3.below hbb
  have k1' := h1'.below hbb
  have k3' := h3'.below hbb
  have X1 := B1.below hb2
  obtain ⟨G1, eG1⟩ : ∃ G1, w.heap.size = G1 := ⟨_, rfl⟩
  obtain ⟨G2, eG2⟩ : ∃ G2, U1.heap.size = G2 := ⟨_, rfl⟩
  rw [eG1] at X1
  rw [eG2] at B2
  obtain ⟨c0, c1, c2, _, _, _⟩ := X1
  obtain ⟨d0, d1, d2, _, _, _⟩ := B2
  have HOM := Lib.hid (om_eq o o')
  clear h1 h2 h3 h1' h2' h3' hbb hb1 hb2 hz1 hz2 B1
  obtain ⟨pa, pc, rfl, q1, q2, q3⟩ := k1
  obtain ⟨pa', pc', rfl, q1', q2', q3'⟩ := k1'
  obtain ⟨vs, ⟨ba, bp, rfl, r1, r2, r3⟩, ri⟩ := k3
  obtain ⟨vs', ⟨ba', bp', rfl, r1', r2', r3'⟩, ri'⟩ := k3'
  have P3 := Lib.hid q3
  have P3' := Lib.hid q3'
  have R3 := Lib.hid r3
  have R3' := Lib.hid r3'
  have RI := Lib.hid ri
  have RI' := Lib.hid ri'
  clear q3 q3' r3 r3' ri ri'
  unfold maxLen at q2 q2' r2 r2'
  by_cases hl1 : o.pos.length = o'.pos.length
  case neg =>
    have HQ := Lib.hid (decide_eq_false (fun hh : o = o' => hl1 (by rw [hh])))
    have d1 : ((o.pos.length : Int) != (o'.pos.length : Int)) = true := bne_iff_ne.2 (by omega)
    clear hl1
    go_enter Try.func41, Try.ntmps41
    go_wp2_with fail
    go_ret
    exact ⟨by rw [HQ.out]; rfl, HB.out⟩
  by_cases hl2 : o.bk.length = o'.bk.length
  case neg =>
    have HQ := Lib.hid (decide_eq_false (fun hh : o = o' => hl2 (by rw [hh])))
    have d1 : ((o.pos.length : Int) != (o'.pos.length : Int)) = false := by rw [hl1]; simp
    have d2 : ((o.bk.length : Int) != (o'.bk.length : Int)) = true := bne_iff_ne.2 (by omega)
    clear hl1 hl2
    go_enter Try.func41, Try.ntmps41
    go_wp2_with fail
    go_ret
    exact ⟨by rw [HQ.out]; rfl, HB.out⟩
  obtain ⟨q, eq⟩ : ∃ q : Bool, decide (o = o') = q := ⟨_, rfl⟩
  have HQ0 := Lib.hid (show ∀ j, j < o.pos.length → o.pos.getD j 0 ≠ o'.pos.getD j 0 → q = false from fun j hj hne => by
    rw [← eq]; exact decide_eq_false fun e => hne (by rw [e]))
  have HQ2 := Lib.hid (show ∀ j, j < o.bk.length → o.bk.getD j [] ≠ o'.bk.getD j [] → q = false from fun j hj hne => by
    rw [← eq]; exact decide_eq_false fun e => hne (by rw [e]))
  have HQ3 := Lib.hid (show o.st ≠ o'.st → q = false from fun hne => by
    rw [← eq]; exact decide_eq_false fun e => hne (by rw [e]))
  have HQ1 := Lib.hid (show o.st = o'.st → (∀ j, j < o.pos.length → o.pos.getD j 0 = o'.pos.getD j 0) → (∀ j, j < o.bk.length → o.bk.getD j [] = o'.bk.getD j []) → q = true from fun h0 h h' => by
    rw [← eq]; exact decide_eq_true (HOM.out.2 ⟨(ext_iff 0 _ _).2 ⟨hl1, h⟩, h0, (ext_iff [] _ _).2 ⟨hl2, h'⟩⟩))
  rw [eq]
  rw [← hl1] at P3' q1' d0 e2 ⊢
  rw [← hl2] at R3' r1' d2 RI' e2 ⊢
  clear eq hl1 hl2 HOM
  generalize o.pos.length = n at *
  generalize o.bk.length = m at *
  go_enter Try.func41, Try.ntmps41
  go_wp2_with fail
  clear e1 e2 eG1 eG2
  refine (l08Blocks U2 s s' o.st o'.st H2.out H2'.out).mono ?_
  rintro e w1 ⟨rfl, f0, rfl⟩
  by_cases h0 : o.st = o'.st
  case neg =>
    rw [decide_eq_false h0]
    obtain rfl : q = false := HQ3.out h0
    clear h0
    go_wp2_with fail
    go_ret
    exact ⟨rfl, below_drewN HB.out _⟩
  rw [decide_eq_true h0]
  have H0 := Lib.hid h0
  clear h0 H2 H2' HQ3
  generalize ew : U2.drewN f0 = U at *
  have u0 : U.cell? ⟨G1, 0, none⟩ = some (.slice pa n pc) := by rw [← ew]; exact c0
  have u2 : U.cell? ⟨G1, 2, none⟩ = some (.slice ba m bp) := by rw [← ew]; exact c2
  have t0 : U.cell? ⟨G2, 0, none⟩ = some (.slice pa' n pc') := by rw [← ew]; exact d0
  have t2 : U.cell? ⟨G2, 2, none⟩ = some (.slice ba' m bp') := by rw [← ew]; exact d2
  have P4 := Lib.hid (show 0 < n → ∃ b o_1, pa = some ⟨b, o_1, none⟩ ∧ ∀ j, j < n * 1 → U.cell? ⟨b, o_1 + j, none⟩ = some (nc o.pos j) from by rw [← ew]; exact P3.out)
  have P4' := Lib.hid (show 0 < n → ∃ b o_1, pa' = some ⟨b, o_1, none⟩ ∧ ∀ j, j < n * 1 → U.cell? ⟨b, o_1 + j, none⟩ = some (nc o'.pos j) from by rw [← ew]; exact P3'.out)
  have R4 := Lib.hid (show 0 < m → ∃ b o, ba = some ⟨b, o, none⟩ ∧ ∀ j, j < m * 1 → U.cell? ⟨b, o + j, none⟩ = some (vs j) from by rw [← ew]; exact R3.out)
  have R4' := Lib.hid (show 0 < m → ∃ b o, ba' = some ⟨b, o, none⟩ ∧ ∀ j, j < m * 1 → U.cell? ⟨b, o + j, none⟩ = some (vs' j) from by rw [← ew]; exact R3'.out)
  have RJ := Lib.hid (show ∀ j, j < m → Sl U 3 (vs j) (o.bk.getD j []).length (bc (o.bk.getD j [])) from by rw [← ew]; exact fun j hj => (RI.out j hj).below (below_drawn _ _))
  have RJ' := Lib.hid (show ∀ j, j < m → Sl U 3 (vs' j) (o'.bk.getD j []).length (bc (o'.bk.getD j [])) from by rw [← ew]; exact fun j hj => (RI'.out j hj).below (below_drawn _ _))
  have HBU := Lib.hid (show Below w.heap.size w U from by rw [← ew]; exact below_drewN HB.out _)
  clear ew c0 c1 c2 d0 d1 d2 P3 P3' R3 R3' RI RI' HB
  go_wp2
  go_loopw [5] (fun i wr => ∃ k e : Nat, k ≤ n ∧ i = .int .i64 k ∧ wr = U.drewN e ∧ Hid (∀ j, j < k → o.pos.getD j 0 = o'.pos.getD j 0)) (fun i _ => n - (intOf i).toNat)
  case atStart => exact ⟨0, 0, by omega, rfl, rfl, fun j hj => by omega⟩
  case round =>
    obtain ⟨k, e, hk, rfl, rfl, HJ⟩ := hrel
    by_cases hlt : k < n
    · obtain ⟨bb, ob, rfl, hc⟩ := P4.out (by omega)
      obtain ⟨bb', ob', rfl, hc'⟩ := P4'.out (by omega)
      have x0 := hc k (by omega)
      have x1 := hc' k (by omega)
      unfold nc at x0 x1
      have HN := Lib.hid (HQ0.out k hlt)
      have HM := Lib.hid (show o.pos.getD k 0 = o'.pos.getD k 0 → ∀ j, j < k + 1 → o.pos.getD j 0 = o'.pos.getD j 0 from fun e j hj => by
        by_cases ej : j = k
        · rw [ej]; exact e
        · exact HJ.out j (by omega))
      clear hc hc'
      generalize o.pos.getD k 0 = s1 at *
      generalize o'.pos.getD k 0 = s2 at *
      by_cases he : s1 = s2
      · subst he
        go_wp2
        go_quiet (fail)
        go_wp2
        go_roundw
        case rel => exact ⟨k + 1, _, by omega, by go_num, rfl, Lib.hid (HM.out (by trivial))⟩
        case measure => simp [intOf]; omega
      · obtain rfl : q = false := HN.out he
        have d3 : (s1 != s2) = true := bne_iff_ne.2 he
        go_wp2
        go_quiet (fail)
        go_wp2
        go_ret
        exact ⟨rfl, below_drewN (below_drewN HBU.out _) _⟩
    · have HK := Lib.hid (show ∀ j, j < n → o.pos.getD j 0 = o'.pos.getD j 0 from fun j hj => HJ.out j (by omega))
      clear HJ HQ0
      go_wp2
      generalize ew : U.drewN e = V at *
      have y2 : V.cell? ⟨G1, 2, none⟩ = some (.slice ba m bp) := by rw [← ew]; exact u2
      have z2 : V.cell? ⟨G2, 2, none⟩ = some (.slice ba' m bp') := by rw [← ew]; exact t2
      have R5 := Lib.hid (show 0 < m → ∃ b o, ba = some ⟨b, o, none⟩ ∧ ∀ j, j < m * 1 → V.cell? ⟨b, o + j, none⟩ = some (vs j) from by rw [← ew]; exact R4.out)
      have R5' := Lib.hid (show 0 < m → ∃ b o, ba' = some ⟨b, o, none⟩ ∧ ∀ j, j < m * 1 → V.cell? ⟨b, o + j, none⟩ = some (vs' j) from by rw [← ew]; exact R4'.out)
      have RK := Lib.hid (show ∀ j, j < m → Sl V 3 (vs j) (o.bk.getD j []).length (bc (o.bk.getD j [])) from by rw [← ew]; exact fun j hj => (RJ.out j hj).below (below_drawn _ _))
      have RK' := Lib.hid (show ∀ j, j < m → Sl V 3 (vs' j) (o'.bk.getD j []).length (bc (o'.bk.getD j [])) from by rw [← ew]; exact fun j hj => (RJ'.out j hj).below (below_drawn _ _))
      have HBV := Lib.hid (show Below w.heap.size w V from by rw [← ew]; exact below_drewN HBU.out _)
      clear ew u0 u2 t0 t2 P4 P4' R4 R4' RJ RJ' HBU
      go_loopw [6] (fun i wr => ∃ k e : Nat, k ≤ m ∧ i = .int .i64 k ∧ wr = V.drewN e ∧ Hid (∀ j, j < k → o.bk.getD j [] = o'.bk.getD j [])) (fun i _ => m - (intOf i).toNat)
      case atStart => exact ⟨0, 0, by omega, rfl, rfl, fun j hj => by omega⟩
      case round =>
        obtain ⟨k2, e2, hk2, rfl, rfl, HJ⟩ := hrel
        by_cases hlt2 : k2 < m
        · obtain ⟨bb, ob, rfl, hc⟩ := R5.out (by omega)
          obtain ⟨bb', ob', rfl, hc'⟩ := R5'.out (by omega)
          have x0 := hc k2 (by omega)
          have x1 := hc' k2 (by omega)
          have HU := Lib.hid (RK.out k2 hlt2)
          have HV := Lib.hid (RK'.out k2 hlt2)
          have HN := Lib.hid (HQ2.out k2 hlt2)
          have HM := Lib.hid (show o.bk.getD k2 [] = o'.bk.getD k2 [] → ∀ j, j < k2 + 1 → o.bk.getD j [] = o'.bk.getD j [] from fun e j hj => by
            by_cases ej : j = k2
            · rw [ej]; exact e
            · exact HJ.out j (by omega))
          clear hc hc'
          generalize o.bk.getD k2 [] = s1 at *
          generalize o'.bk.getD k2 [] = s2 at *
          obtain ⟨a5, cap5, e5, _, _⟩ := HU.out.form
          obtain ⟨a6, cap6, e6, _, _⟩ := HV.out.form
          rw [e5] at x0 HU
          rw [e6] at x1 HV
          have HC := Lib.hid (fun n9 => show Calls Try.prog 83 #[.slice a5 s1.length cap5, .slice a6 s2.length cap6] (V.drewN (e2 + n9)) fun e w' => e = .returned (.bool (decide (s1 = s2))) ∧ ∃ m, w' = V.drewN (e2 + m) from (l08Blocks (V.drewN (e2 + n9)) _ _ s1 s2 (HU.out.below (below_drawn _ _)) (HV.out.below (below_drawn _ _))).mono (fun e w' h => by
            obtain ⟨h1, m, h2⟩ := h
            exact ⟨h1, n9 + m, by rw [h2, drewN_drewN, Nat.add_assoc]⟩))
          have i1 : (k2 : Int) < (m : Int) := by omega
          have i3 : (0 : Int) ≤ (k2 : Int) := by omega
          by_cases he : s1 = s2
          · rw [decide_eq_true he] at HC
            have HEE := Lib.hid he
            clear he
            go_wp2
            go_quiet ((go_at_call 83; exact HC.out _))
            go_wp2
            go_roundw
            case rel => exact ⟨k2 + 1, _, by omega, by go_num, rfl, Lib.hid (HM.out HEE.out)⟩
            case measure => simp [intOf]; omega
          · rw [decide_eq_false he] at HC
            obtain rfl : q = false := HN.out he
            clear he
            go_wp2
            go_quiet ((go_at_call 83; exact HC.out _))
            go_wp2
            go_ret
            exact ⟨rfl, below_drewN (below_drewN HBV.out _) _⟩
        · obtain rfl : q = true := HQ1.out H0.out HK.out fun j hj => HJ.out j (by omega)
          go_wp2
          go_ret
          exact ⟨rfl, below_drewN HBV.out e2⟩
end Go.Proofs.Ytodhfpnfbdkefaa.SameO
