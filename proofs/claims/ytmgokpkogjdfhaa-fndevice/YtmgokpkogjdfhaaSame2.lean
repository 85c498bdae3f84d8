/-
  What is proved: the model's function that says whether two devices are alike answers the plain yes or no (contract for the walks).
-/
import Derived.Test.YtmgokpkogjdfhaaRows
import Derived.Test.YtmgokpkogjdfhaaSame
namespace Go.Proofs.Ytmgokpkogjdfhaa.Same2
open Go.ChangeShapes Go.WideShapes Go.ChangeAt Go.RowKit
open Sl (Sl Own Off)
open OpenSl (tc nc pc)
open Dev Same
open LawI (pc_even pc_odd)
set_option linter.unusedVariables false

theorem two (w : World) (t t' : TypeId) (a b c d : Value) : ∃ W, (w.alloc (.cells #[a, b] t)).alloc (.cells #[c, d] t') = W ∧ Below w.heap.size w W ∧ W.cell? ⟨w.heap.size, 0, none⟩ = some a ∧ W.cell? ⟨w.heap.size, 1, none⟩ = some b ∧ W.cell? ⟨w.heap.size + 1, 0, none⟩ = some c ∧ W.cell? ⟨w.heap.size + 1, 1, none⟩ = some d :=
  ⟨_, rfl, ((Below.refl _ w).alloc (Nat.le_refl _) _).alloc (by simp) _, by go_simp, by go_simp, by go_simp, by go_simp⟩

set_option maxRecDepth 100000 in
set_option maxHeartbeats 1600000 in
theorem spec (w : World) (u v : Value) (ts us : List ByteArray) (xs ys : List (Int × ByteArray)) (hu : Dev w u ts xs) (hv : Dev w v us ys) :
    Calls Try.prog 42 #[u, v] w fun e w' => e = .returned (.bool (decide (ts = us ∧ xs = ys))) ∧ Below w.heap.size w w' := by
  obtain ⟨sv, uv, rfl, ⟨a, cap, rfl, h1, h2, h3⟩, ⟨a', cap', rfl, h1', h2', h3'⟩⟩ := hu
  obtain ⟨sv2, uv2, rfl, ⟨b, dap, rfl, g1, g2, g3⟩, ⟨b', dap', rfl, g1', g2', g3'⟩⟩ := hv
  obtain ⟨W, eW, hB, c0, c1, c2, c3⟩ := two w 26 26 (.slice a ts.length cap) (.slice a' xs.length cap') (.slice b us.length dap) (.slice b' ys.length dap')
  have HB := Lib.hid hB
  have up : ∀ (x : Addr) (y : Value), w.cell? x = some y → W.cell? x = some y := fun x y h => (hB.cell (World.block_lt_of_cell? w _ h)).trans h
  have H3 := Lib.hid (show 0 < ts.length → ∃ b o, a = some ⟨b, o, none⟩ ∧ ∀ j, j < ts.length → W.cell? ⟨b, o + j, none⟩ = some (tc ts j) from fun hn => by
    obtain ⟨b, o, e, hc⟩ := h3 hn; exact ⟨b, o, e, fun j hj => up _ _ (hc j (by omega))⟩)
  have H3' := Lib.hid (show 0 < xs.length → ∃ b o, a' = some ⟨b, o, none⟩ ∧ ∀ j, j < xs.length * 2 → W.cell? ⟨b, o + j, none⟩ = some (pc xs j) from fun hn => by
    obtain ⟨b, o, e, hc⟩ := h3' hn; exact ⟨b, o, e, fun j hj => up _ _ (hc j (by omega))⟩)
  have G3 := Lib.hid (show 0 < us.length → ∃ c o, b = some ⟨c, o, none⟩ ∧ ∀ j, j < us.length → W.cell? ⟨c, o + j, none⟩ = some (tc us j) from fun hn => by
    obtain ⟨b, o, e, hc⟩ := g3 hn; exact ⟨b, o, e, fun j hj => up _ _ (hc j (by omega))⟩)
  have G3' := Lib.hid (show 0 < ys.length → ∃ c o, b' = some ⟨c, o, none⟩ ∧ ∀ j, j < ys.length * 2 → W.cell? ⟨c, o + j, none⟩ = some (pc ys j) from fun hn => by
    obtain ⟨b, o, e, hc⟩ := g3' hn; exact ⟨b, o, e, fun j hj => up _ _ (hc j (by omega))⟩)
  unfold maxLen at h2 h2' g2 g2'
  clear h3 h3' g3 g3' up hB
  by_cases hl : ts.length = us.length
  case neg =>
    have HQ := Lib.hid (decide_eq_false (fun hh : ts = us ∧ xs = ys => hl (by rw [hh.1])))
    have d1 : ((ts.length : Int) != (us.length : Int)) = true := bne_iff_ne.2 (by omega)
    clear hl
    go_enter Try.func42, Try.ntmps42
    go_wp2_with fail
    go_ret
    exact ⟨by rw [HQ.out]; rfl, HB.out⟩
  by_cases hl2 : xs.length = ys.length
  case neg =>
    have HQ := Lib.hid (decide_eq_false (fun hh : ts = us ∧ xs = ys => hl2 (by rw [hh.2])))
    have d1 : ((ts.length : Int) != (us.length : Int)) = false := by rw [hl]; simp
    have d2 : ((xs.length : Int) != (ys.length : Int)) = true := bne_iff_ne.2 (by omega)
    clear hl hl2
    go_enter Try.func42, Try.ntmps42
    go_wp2_with fail
    go_ret
    exact ⟨by rw [HQ.out]; rfl, HB.out⟩
  obtain ⟨q, eq⟩ : ∃ q : Bool, decide (ts = us ∧ xs = ys) = q := ⟨_, rfl⟩
  have HQ0 := Lib.hid (show ∀ j, j < ts.length → ts.getD j ByteArray.empty ≠ us.getD j ByteArray.empty → q = false from fun j hj hne => by
    rw [← eq]; exact decide_eq_false fun e => hne (by rw [e.1]))
  have HQ2 := Lib.hid (show ∀ j, j < xs.length → xs.getD j (0, ByteArray.empty) ≠ ys.getD j (0, ByteArray.empty) → q = false from fun j hj hne => by
    rw [← eq]; exact decide_eq_false fun e => hne (by rw [e.2]))
  have HQ1 := Lib.hid (show (∀ j, j < ts.length → ts.getD j ByteArray.empty = us.getD j ByteArray.empty) → (∀ j, j < xs.length → xs.getD j (0, ByteArray.empty) = ys.getD j (0, ByteArray.empty)) → q = true from fun h h' => by
    rw [← eq]; exact decide_eq_true ⟨(ext_iff ByteArray.empty ts us).2 ⟨hl, h⟩, (ext_iff (0, ByteArray.empty) xs ys).2 ⟨hl2, h'⟩⟩)
  rw [eq]
  rw [← hl] at G3 g1 c2 eW ⊢
  rw [← hl2] at G3' g1' c3 eW ⊢
  clear eq hl hl2
  generalize ts.length = n at *
  generalize xs.length = m at *
  go_enter Try.func42, Try.ntmps42
  go_wp2
  clear eW
  go_loopw [5] (fun i wr => ∃ k e : Nat, k ≤ n ∧ i = .int .i64 k ∧ wr = W.drewN e ∧ Hid (∀ j, j < k → ts.getD j ByteArray.empty = us.getD j ByteArray.empty)) (fun i _ => n - (intOf i).toNat)
  case atStart => exact ⟨0, 0, by omega, rfl, rfl, fun j hj => by omega⟩
  case round =>
    obtain ⟨k, e, hk, rfl, rfl, HJ⟩ := hrel
    by_cases hlt : k < n
    · obtain ⟨bb, o, rfl, hc⟩ := H3.out (by omega)
      obtain ⟨bb', o', rfl, hc'⟩ := G3.out (by omega)
      have x0 := hc k (by omega)
      have x1 := hc' k (by omega)
      unfold tc at x0 x1
      have HN := Lib.hid (HQ0.out k hlt)
      have HM := Lib.hid (show ts.getD k ByteArray.empty = us.getD k ByteArray.empty → ∀ j, j < k + 1 → ts.getD j ByteArray.empty = us.getD j ByteArray.empty from fun e j hj => by
        by_cases ej : j = k
        · rw [ej]; exact e
        · exact HJ.out j (by omega))
      clear hc hc'
      generalize ts.getD k ByteArray.empty = s at *
      generalize us.getD k ByteArray.empty = s' at *
      by_cases he : s = s'
      · subst he
        go_wp2
        go_quiet (fail)
        go_wp2
        go_roundw
        case rel => exact ⟨k + 1, _, by omega, by go_num, rfl, Lib.hid (HM.out (by trivial))⟩
        case measure => simp [intOf]; omega
      · obtain rfl : q = false := HN.out he
        have d2 := tl_ne he
        have d3 : (s.toList == s'.toList) = false := beq_eq_false_iff_ne.2 d2
        have d4 : (s.toList != s'.toList) = true := bne_iff_ne.2 d2
        go_wp2
        go_quiet (fail)
        go_wp2
        go_ret
        exact ⟨rfl, below_drewN (below_drewN HB.out _) _⟩
    · have HK := Lib.hid (show ∀ j, j < n → ts.getD j ByteArray.empty = us.getD j ByteArray.empty from fun j hj => HJ.out j (by omega))
      clear HJ HQ0
      go_wp2
      generalize hWe : W.drewN e = V at *
      have w1 : V.cell? ⟨w.heap.size, 1, none⟩ = some (.slice a' m cap') := by rw [← hWe]; exact c1
      have w3 : V.cell? ⟨w.heap.size + 1, 1, none⟩ = some (.slice b' m dap') := by rw [← hWe]; exact c3
      have HBV := Lib.hid (show Below w.heap.size w V by rw [← hWe]; exact below_drewN HB.out _)
      have K3 := Lib.hid (show 0 < m → ∃ b o, a' = some ⟨b, o, none⟩ ∧ ∀ j, j < m * 2 → V.cell? ⟨b, o + j, none⟩ = some (pc xs j) from by rw [← hWe]; exact H3'.out)
      have K3' := Lib.hid (show 0 < m → ∃ c o, b' = some ⟨c, o, none⟩ ∧ ∀ j, j < m * 2 → V.cell? ⟨c, o + j, none⟩ = some (pc ys j) from by rw [← hWe]; exact G3'.out)
      clear hWe c0 c1 c2 c3 H3' G3' H3 G3 HB
      go_loopw [6] (fun i wr => ∃ k f : Nat, k ≤ m ∧ i = .int .i64 k ∧ wr = V.drewN f ∧ Hid (∀ j, j < k → xs.getD j (0, ByteArray.empty) = ys.getD j (0, ByteArray.empty))) (fun i _ => m - (intOf i).toNat)
      case atStart => exact ⟨0, 0, by omega, rfl, rfl, fun j hj => by omega⟩
      case round =>
        obtain ⟨k2, f, hk2, rfl, rfl, HJ⟩ := hrel
        by_cases hlt2 : k2 < m
        · obtain ⟨bb, o, rfl, hc⟩ := K3.out (by omega)
          obtain ⟨bb', o', rfl, hc'⟩ := K3'.out (by omega)
          have x0 := hc (k2 * 2) (by omega)
          have x1 := hc (k2 * 2 + 1) (by omega)
          have x2 := hc' (k2 * 2) (by omega)
          have x3 := hc' (k2 * 2 + 1) (by omega)
          rw [pc_even] at x0 x2
          rw [pc_odd, ← Nat.add_assoc] at x1 x3
          have HN := Lib.hid (HQ2.out k2 hlt2)
          have HM := Lib.hid (show xs.getD k2 (0, ByteArray.empty) = ys.getD k2 (0, ByteArray.empty) → ∀ j, j < k2 + 1 → xs.getD j (0, ByteArray.empty) = ys.getD j (0, ByteArray.empty) from fun e j hj => by
            by_cases ej : j = k2
            · rw [ej]; exact e
            · exact HJ.out j (by omega))
          clear hc hc'
          generalize xs.getD k2 (0, ByteArray.empty) = s at *
          generalize ys.getD k2 (0, ByteArray.empty) = s' at *
          obtain ⟨z, s⟩ := s
          obtain ⟨z', s'⟩ := s'
          simp only at x0 x1 x2 x3
          have hne := ioNe z z' s s'
          have i1 : (k2 : Int) < (m : Int) := by omega
          have i3 : (0 : Int) ≤ (k2 : Int) := by omega
          by_cases he : (z, s) = (z', s')
          · have hd := decide_eq_true (show z = z' ∧ s = s' by simpa using he)
            rw [hd] at hne
            have HEE := Lib.hid he
            clear he hd
            go_wp2
            go_quiet (fail)
            go_wp2
            go_roundw
            case rel => exact ⟨k2 + 1, _, by omega, by go_num, rfl, Lib.hid (HM.out HEE.out)⟩
            case measure => simp [intOf]; omega
          · obtain rfl : q = false := HN.out he
            have hd := decide_eq_false (show ¬ (z = z' ∧ s = s') from fun h => he (by rw [h.1, h.2]))
            rw [hd] at hne
            clear he hd
            go_wp2
            go_quiet (fail)
            go_wp2
            go_ret
            exact ⟨rfl, below_drewN (below_drewN HBV.out _) _⟩
        · obtain rfl : q = true := HQ1.out HK.out fun j hj => HJ.out j (by omega)
          go_wp2
          go_ret
          exact ⟨rfl, below_drewN HBV.out f⟩
end Go.Proofs.Ytmgokpkogjdfhaa.Same2
