/-
  What is proved: operations, and transactions, are compared one by one (contracts for the walks).
-/
import Derived.Test.YtidbkamadclchaaRows
import Derived.Test.YtidbkamadclchaaBatB
import Derived.BigQuiet
namespace Go.Proofs.Ytidbkamadclchaa.SameB
open Go.ChangeShapes Go.WideShapes Go.ChangeAt Go.RowKit
open Sl (Sl Own Off)
open OpenSl (tc nc pc)
open Dev Orm Box3 BatB
set_option linter.unusedVariables false

theorem ext_iff {α : Type} (d : α) (a b : List α) : a = b ↔ a.length = b.length ∧ ∀ j, j < a.length → a.getD j d = b.getD j d := by
  constructor
  · rintro rfl; exact ⟨rfl, fun _ _ => rfl⟩
  · rintro ⟨hl, h⟩
    apply List.ext_getElem hl
    intro j h1 h2
    have := h j h1
    rwa [List.getD_eq_getElem?_getD, List.getD_eq_getElem?_getD, List.getElem?_eq_getElem h1, List.getElem?_eq_getElem h2] at this

theorem below_drawn (w : World) (m : Nat) : Below w.heap.size w (w.drewN m) := below_drewN (Below.refl _ _) m

theorem drewN_drewN (w : World) (a b : Nat) : (w.drewN a).drewN b = w.drewN (a + b) := by
  unfold World.drewN; simp [Nat.add_assoc]

theorem opEq (x y z x' y' z' : Int) (u : World) : (Op.equalIn Op.maxDepth 50 (.agg #[.int .i64 x, .int .i64 y, .int .i64 z]) (.agg #[.int .i64 x', .int .i64 y', .int .i64 z'])).run Try.prog u = .ok (decide (x = x' ∧ y = y' ∧ z = z')) u := by
  have u3 := Try.underlying3
  have a3 := Try.isAgg3
  have z3 := Try.sizeOf3
  rw [show Op.maxDepth = 9999 + 1 from rfl, Op.equalIn]
  simp only [Sem.run_bind, run_underlying Try.underlying50, Result.andThen_ok]
  go_simp
  by_cases h1 : x = x'
  · rw [if_pos h1]
    by_cases h2 : y = y'
    · rw [if_pos h2]
      by_cases h3 : z = z' <;> simp [h1, h2, h3]
    · rw [if_neg h2]; simp [h2]
  · rw [if_neg h1]; simp [h1]

theorem opNe (x y z x' y' z' : Int) (u : World) : (binOp .neq 50 (.agg #[.int .i64 x, .int .i64 y, .int .i64 z]) (.agg #[.int .i64 x', .int .i64 y', .int .i64 z'])).run Try.prog u = .ok (.bool (!decide (x = x' ∧ y = y' ∧ z = z'))) u := by
  simp [binOp, Op.equal, opEq]

set_option maxRecDepth 100000 in
set_option maxHeartbeats 800000 in
theorem equalOp (w : World) (u v : Value) (xs ys : List Bk) (hu : Sl w 3 u xs.length (bc xs)) (hv : Sl w 3 v ys.length (bc ys)) :
    Calls Try.prog 82 #[u, v] w fun e w' => e = .returned (.bool (decide (xs = ys))) ∧ ∃ m, w' = w.drewN m := by
  obtain ⟨a, cap, rfl, h1, h2, h3⟩ := hu
  obtain ⟨a', cap', rfl, h1', h2', h3'⟩ := hv
  have H3 := Lib.hid h3
  have H3' := Lib.hid h3'
  clear h3 h3'
  unfold maxLen at h2 h2'
  by_cases hl : xs.length = ys.length
  case neg =>
    rw [decide_eq_false (fun e => hl (by rw [e]))]
    have d1 : ((xs.length : Int) != (ys.length : Int)) = true := bne_iff_ne.2 (by omega)
    go_enter Try.func82, Try.ntmps82
    go_wp2_with fail
    go_ret
    exact ⟨rfl, 0, rfl⟩
  obtain ⟨q, eq⟩ : ∃ q : Bool, decide (xs = ys) = q := ⟨_, rfl⟩
  have HQ0 := Lib.hid (show ∀ j, j < xs.length → xs.getD j (0, 0, 0) ≠ ys.getD j (0, 0, 0) → q = false from fun j hj hne => by
    rw [← eq]; exact decide_eq_false fun e => hne (by rw [e]))
  have HQ1 := Lib.hid (show (∀ j, j < xs.length → xs.getD j (0, 0, 0) = ys.getD j (0, 0, 0)) → q = true from fun h => by
    rw [← eq]; exact decide_eq_true ((ext_iff (0, 0, 0) xs ys).2 ⟨hl, h⟩))
  rw [eq]
  rw [← hl] at H3' h1' ⊢
  clear eq hl
  generalize xs.length = n at *
  go_enter Try.func82, Try.ntmps82
  go_wp2
  go_loopw [13] (fun i wr => ∃ k m : Nat, k ≤ n ∧ i = .int .i64 k ∧ wr = w.drewN m ∧ Hid (∀ j, j < k → xs.getD j (0, 0, 0) = ys.getD j (0, 0, 0))) (fun i _ => n - (intOf i).toNat)
  case atStart => exact ⟨0, 0, by omega, rfl, rfl, fun j hj => by omega⟩
  case round =>
    obtain ⟨k, m, hk, rfl, rfl, HJ⟩ := hrel
    by_cases hlt : k < n
    · obtain ⟨b, o, rfl, hc⟩ := H3.out (by omega)
      obtain ⟨b', o', rfl, hc'⟩ := H3'.out (by omega)
      have c0 := hc (k * 3) (by omega)
      have c1 := hc (k * 3 + 1) (by omega)
      have c2 := hc (k * 3 + 2) (by omega)
      have d0 := hc' (k * 3) (by omega)
      have d1 := hc' (k * 3 + 1) (by omega)
      have d2 := hc' (k * 3 + 2) (by omega)
      rw [bc0] at c0 d0
      rw [bc1, ← Nat.add_assoc] at c1 d1
      rw [bc2, ← Nat.add_assoc] at c2 d2
      have HN := Lib.hid (HQ0.out k hlt)
      have HM := Lib.hid (show xs.getD k (0, 0, 0) = ys.getD k (0, 0, 0) → ∀ j, j < k + 1 → xs.getD j (0, 0, 0) = ys.getD j (0, 0, 0) from fun e j hj => by
        by_cases ej : j = k
        · rw [ej]; exact e
        · exact HJ.out j (by omega))
      clear hc hc'
      generalize xs.getD k (0, 0, 0) = s at *
      generalize ys.getD k (0, 0, 0) = s' at *
      obtain ⟨x, y, z⟩ := s
      obtain ⟨x', y', z'⟩ := s'
      simp only at c0 c1 c2 d0 d1 d2
      have hne := opNe x y z x' y' z'
      have i1 : (k : Int) < (n : Int) := by omega
      have i3 : (0 : Int) ≤ (k : Int) := by omega
      by_cases he : (x, y, z) = (x', y', z')
      · have hd := decide_eq_true (show x = x' ∧ y = y' ∧ z = z' by simpa using he)
        rw [hd] at hne
        have HEE := Lib.hid he
        clear he hd
        go_wp2
        go_quiet (fail)
        go_wp2
        go_roundw
        case rel => exact ⟨k + 1, _, by omega, by go_num, rfl, Lib.hid (HM.out HEE.out)⟩
        case measure => simp [intOf]; omega
      · obtain rfl : q = false := HN.out he
        have hd := decide_eq_false (show ¬ (x = x' ∧ y = y' ∧ z = z') from fun h => he (by rw [h.1, h.2.1, h.2.2]))
        rw [hd] at hne
        clear he hd
        go_wp2
        go_quiet (fail)
        go_wp2
        go_ret
        exact ⟨rfl, _, drewN_drewN _ _ _⟩
    · obtain rfl : q = true := HQ1.out fun j hj => HJ.out j (by omega)
      go_wp2
      go_ret
      exact ⟨rfl, m, rfl⟩

set_option maxRecDepth 100000 in
theorem litSame (w : World) (u v : Value) (xs ys : List Bk) (hu : Sl w 3 u xs.length (bc xs)) (hv : Sl w 3 v ys.length (bc ys)) :
    Calls Try.prog 81 #[.agg #[u], .agg #[v]] w fun e w' => e = .returned (.bool (decide (xs = ys))) ∧ Below w.heap.size w w' := by
  obtain ⟨U, e1, hb1, hz1, c1⟩ := box1 w 104 u
  obtain ⟨V, e2, hb2, hz2, c2⟩ := box1 U 104 v
  have c3 : V.cell? ⟨w.heap.size, 0, none⟩ = some u := (hb2.cell (World.block_lt_of_cell? U _ c1)).trans c1
  have hbx := hb1.trans (hb2.mono hb1.size)
  have HB := Lib.hid hbx
  have HU := Lib.hid (hu.below hbx)
  have HV := Lib.hid (hv.below hbx)
  obtain ⟨a, cap, rfl, _, _⟩ := hu.form
  obtain ⟨a2, cap2, rfl, _, _⟩ := hv.form
  obtain ⟨G, eG⟩ : ∃ G, w.heap.size = G := ⟨_, rfl⟩
  obtain ⟨G2, eG2⟩ : ∃ G2, U.heap.size = G2 := ⟨_, rfl⟩
  rw [eG] at c3
  rw [eG2] at c2
  clear hu hv hb1 hb2 hz1 hz2 c1 hbx
  go_enter Try.func81, Try.ntmps81
  go_wp2_with fail
  clear e1 e2 eG eG2
  refine (equalOp _ _ _ xs ys HU.out HV.out).mono ?_
  rintro e w1 ⟨rfl, m, rfl⟩
  go_wp2_with fail
  go_ret
  exact ⟨rfl, below_drewN HB.out _⟩
set_option maxRecDepth 100000 in
set_option maxHeartbeats 1600000 in
theorem equalTxn (w : World) (u v : Value) (ps qs : List (List Bk)) (hu : Ns w u ps) (hv : Ns w v qs) :
    Calls Try.prog 80 #[u, v, .func (.func 81) #[] #[]] w fun e w' => e = .returned (.bool (decide (ps = qs))) ∧ Below w.heap.size w w' := by
  obtain ⟨us, ⟨a, cap, rfl, h1, h2, h3⟩, hui⟩ := hu
  obtain ⟨vs, ⟨a', cap', rfl, h1', h2', h3'⟩, hvi⟩ := hv
  have H3 := Lib.hid h3
  have H3' := Lib.hid h3'
  have HI := Lib.hid hui
  have HI' := Lib.hid hvi
  clear h3 h3' hui hvi
  unfold maxLen at h2 h2'
  by_cases hl : ps.length = qs.length
  case neg =>
    rw [decide_eq_false (fun e => hl (by rw [e]))]
    have d1 : ((ps.length : Int) != (qs.length : Int)) = true := bne_iff_ne.2 (by omega)
    go_enter Try.func80, Try.ntmps80
    go_wp2_with fail
    go_ret
    exact ⟨rfl, Below.refl _ _⟩
  obtain ⟨q, eq⟩ : ∃ q : Bool, decide (ps = qs) = q := ⟨_, rfl⟩
  have HQ0 := Lib.hid (show ∀ j, j < ps.length → ps.getD j [] ≠ qs.getD j [] → q = false from fun j hj hne => by
    rw [← eq]; exact decide_eq_false fun e => hne (by rw [e]))
  have HQ1 := Lib.hid (show (∀ j, j < ps.length → ps.getD j [] = qs.getD j []) → q = true from fun h => by
    rw [← eq]; exact decide_eq_true ((ext_iff [] ps qs).2 ⟨hl, h⟩))
  rw [eq]
  rw [← hl] at H3' HI' h1' ⊢
  clear eq hl
  generalize ps.length = n at *
  go_enter Try.func80, Try.ntmps80
  go_wp2
  go_loopw [17] (fun i wz => ∃ (k : Nat) (wr : World), wr = wz ∧ k ≤ n ∧ i = .int .i64 k ∧ Hid (Below w.heap.size w wr ∧ ∀ j, j < k → ps.getD j [] = qs.getD j [])) (fun i _ => n - (intOf i).toNat)
  case atStart => exact ⟨0, _, rfl, by omega, rfl, Lib.hid ⟨Below.refl _ _, fun j hj => by omega⟩⟩
  case round =>
    obtain ⟨k, wr, rfl, hk, rfl, HJ⟩ := hrel
    by_cases hlt : k < n
    · obtain ⟨b, o, rfl, hc⟩ := H3.out (by omega)
      obtain ⟨b', o', rfl, hc'⟩ := H3'.out (by omega)
      have c0 := hc k (by omega)
      have d0 := hc' k (by omega)
      rw [← HJ.out.1.cell (World.block_lt_of_cell? w _ c0)] at c0
      rw [← HJ.out.1.cell (World.block_lt_of_cell? w _ d0)] at d0
      have HU := Lib.hid ((HI.out k hlt).below HJ.out.1)
      have HV := Lib.hid ((HI'.out k hlt).below HJ.out.1)
      have HN := Lib.hid (HQ0.out k hlt)
      have HM := Lib.hid (show ps.getD k [] = qs.getD k [] → ∀ j, j < k + 1 → ps.getD j [] = qs.getD j [] from fun e j hj => by
        by_cases ej : j = k
        · rw [ej]; exact e
        · exact HJ.out.2 j (by omega))
      clear hc hc'
      generalize ps.getD k [] = xs at *
      generalize qs.getD k [] = ys at *
      obtain ⟨a5, cap5, e5, _, _⟩ := HU.out.form
      obtain ⟨a6, cap6, e6, _, _⟩ := HV.out.form
      rw [e5] at c0 HU
      rw [e6] at d0 HV
      clear e5 e6
      obtain ⟨U, e1, hb1, hz1, c1⟩ := box1 wr 104 (.slice a5 xs.length cap5)
      have d1 := (hb1.cell (World.block_lt_of_cell? wr _ d0)).trans d0
      obtain ⟨V, e2, hb2, hz2, c2⟩ := box1 U 104 (.slice a6 ys.length cap6)
      have c3 := (hb2.cell (World.block_lt_of_cell? U _ c1)).trans c1
      have hbx := hb1.trans (hb2.mono hb1.size)
      have HBX := Lib.hid hbx
      have HU2 := Lib.hid (HU.out.below hbx)
      have HV2 := Lib.hid (HV.out.below hbx)
      clear hb1 hb2 hbx hz1 hz2
      go_wp2_with fail
      refine (litSame _ _ _ xs ys HU2.out HV2.out).mono ?_
      rintro e w1 ⟨rfl, hb⟩
      have HB := Lib.hid (HJ.out.1.trans ((HBX.out.trans (hb.mono HBX.out.size)).mono HJ.out.1.size))
      clear hb e1 e2 c0 d0 c1 d1 c2 c3
      by_cases hy : xs = ys
      · rw [decide_eq_true hy]
        have HN2 := Lib.hid (HM.out hy)
        clear hy
        go_wp2
        go_roundw
        case rel => exact ⟨k + 1, _, rfl, by omega, by go_num, Lib.hid ⟨HB.out, HN2.out⟩⟩
        case measure => simp [intOf]; omega
      · rw [decide_eq_false hy]
        obtain rfl : q = false := HN.out hy
        clear hy
        go_wp2
        go_ret
        exact ⟨rfl, HB.out⟩
    · obtain rfl : q = true := HQ1.out fun j hj => HJ.out.2 j (by omega)
      go_wp2
      go_ret
      exact ⟨rfl, HJ.out.1⟩
set_option maxRecDepth 100000 in
theorem impl (w : World) (u v : Value) (ps qs : List (List Bk)) (hu : Ns w u ps) (hv : Ns w v qs) :
    Calls Try.prog 32 #[u, v] w fun e w' => e = .returned (.bool (decide (BOk ps ∧ BOk qs ∧ ps = qs))) ∧ Below w.heap.size w w' := by
  have HU := Lib.hid hu
  have HV := Lib.hid hv
  have HI := Lib.hid (fun x => BatB.implOk x u ps)
  obtain ⟨us, hu1, _⟩ := hu
  obtain ⟨vs, hv1, _⟩ := hv
  obtain ⟨a, cap, rfl, _, _⟩ := hu1.form
  obtain ⟨a', cap', rfl, _, _⟩ := hv1.form
  clear hu1 hv1
  by_cases h : BOk ps
  · have e : decide (BOk ps ∧ BOk qs ∧ ps = qs) = decide (ps = qs) := decide_eq_decide.2 ⟨fun h => h.2.2, fun e => ⟨h, e ▸ h, e⟩⟩
    rw [e]
    rw [decide_eq_true h] at HI
    obtain ⟨q, eq⟩ : ∃ q, decide (ps = qs) = q := ⟨_, rfl⟩
    have HE := Lib.hid (fun x (hx : Ns x _ ps) (hy : Ns x _ qs) => eq ▸ equalTxn x (.slice a ps.length cap) (.slice a' qs.length cap') ps qs hx hy)
    rw [eq]
    clear e eq h
    go_enter Try.func32, Try.ntmps32
    go_wp2_with fail
    refine (HI.out _ HU.out).mono ?_
    rintro e w1 ⟨rfl, hb⟩
    have HB := Lib.hid hb
    clear hb
    go_wp2_with fail
    refine (HE.out _ (HU.out.below HB.out) (HV.out.below HB.out)).mono ?_
    rintro e w2 ⟨rfl, hb⟩
    have HB2 := Lib.hid (HB.out.trans (hb.mono HB.out.size))
    clear hb
    go_wp2_with fail
    go_ret
    exact ⟨rfl, HB2.out⟩
  · have e : decide (BOk ps ∧ BOk qs ∧ ps = qs) = false := decide_eq_false (fun g => h g.1)
    rw [e]
    rw [decide_eq_false h] at HI
    clear e h
    go_enter Try.func32, Try.ntmps32
    go_wp2_with fail
    refine (HI.out _ HU.out).mono ?_
    rintro e w1 ⟨rfl, hb⟩
    have HB := Lib.hid hb
    clear hb
    go_wp2_with fail
    go_ret
    exact ⟨rfl, HB.out⟩
end Go.Proofs.Ytidbkamadclchaa.SameB
