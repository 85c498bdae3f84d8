/-
  What is proved: a device's writes settled by their fates: the program's and the model's loops leave the plain list of texts, of the call's own (contracts for the walks).
-/
import Derived.Test.YtmgokpkogjdfhaaRows
import Derived.Test.YtmgokpkogjdfhaaSettle
import Derived.Test.YtmgokpkogjdfhaaWrites
namespace Go.Proofs.Ytmgokpkogjdfhaa.Crash
open Go.ChangeShapes Go.WideShapes Go.ChangeAt Go.RowKit
open Sl (Sl Own Off)
open OpenSl (tc nc pc)
open Dev Cop Copied Settle
open LawI (pc_even pc_odd)
open Right
open Writes (zero_dev)
set_option linter.unusedVariables false
set_option linter.unusedSimpArgs false

theorem tc_set (ts : List ByteArray) (q : Nat) (t : ByteArray) (h : q < ts.length) (j : Nat) : tc (ts.set q t) j = if j = q then .string t else tc ts j := by
  unfold tc
  by_cases e : j = q
  · subst e
    rw [if_pos rfl, List.getD_eq_getElem?_getD, List.getElem?_set_self h]; rfl
  · rw [if_neg e, List.getD_eq_getElem?_getD, List.getD_eq_getElem?_getD, List.getElem?_set_ne (fun h => e h.symm)]
theorem st_small {ts : List ByteArray} {xs : List (Int × ByteArray)} (hr : Rt ts xs) (fs : List Int) : ∀ k, k ≤ xs.length → ∀ j, ((st ts xs fs k).getD j ByteArray.empty).size ≤ 700
  | 0, _, j => by
    by_cases h : j < ts.length
    · exact hr.2.2.1 j h
    · show (ts.getD j _).size ≤ 700
      rw [List.getD_eq_getElem?_getD, List.getElem?_eq_none (by omega)]; exact Nat.zero_le _
  | k + 1, hk, j => by
    have ih := st_small hr fs k (by omega)
    show (((st ts xs fs k).set _ _).getD j _).size ≤ 700
    rw [List.getD_eq_getElem?_getD]
    by_cases e : (xs.getD k (0, ByteArray.empty)).1.toNat = j
    · rw [e]
      by_cases h : j < (st ts xs fs k).length
      · rw [List.getElem?_set_self h]
        exact met_size (ih _) (hr.2.2.2 k (by omega)).2
      · rw [List.getElem?_eq_none (by rw [List.length_set]; omega)]; exact Nat.zero_le _
    · rw [List.getElem?_set_ne e, ← List.getD_eq_getElem?_getD]
      exact ih j

set_option maxRecDepth 100000 in
set_option maxHeartbeats 3200000 in
theorem settled (w : World) (v fv : Value) (ts : List ByteArray) (xs : List (Int × ByteArray)) (fs : List Int) (h : Dev w v ts xs) (hr : Rt ts xs) (hfv : Sl w 1 fv fs.length (nc fs)) (hfl : fs.length ≤ 1048576) :
    Calls Try.prog 49 #[v, fv] w fun e w' => ∃ r, e = .returned r ∧ DevO w' w.heap.size r (st ts xs fs xs.length) [] ∧ Below w.heap.size w w' := by
  have HV := Lib.hid h
  obtain ⟨a, p, a', p', rfl⟩ := Ex.form h
  obtain ⟨W, eW, hB, hlt, c0, c1, r0, r1, f0, f1⟩ := boxed w 26 26 (.slice a ts.length p) (.slice a' xs.length p')
  obtain ⟨s1, s2, e12, k1, k2⟩ := HV.out.below hB
  obtain ⟨rfl, rfl⟩ : Value.slice a ts.length p = s1 ∧ Value.slice a' xs.length p' = s2 := by simpa using e12
  have H1 := Lib.hid k1
  have HFV := Lib.hid (hfv.below hB)
  obtain ⟨_, capx, ex, _, hcapx, kk⟩ := k2
  obtain ⟨rfl, rfl⟩ : a' = _ ∧ p' = capx := by simpa using ex
  have H2 := Lib.hid kk
  have HB := Lib.hid hB
  have HLT := Lib.hid hlt
  have HSIX := Lib.hid (fun u (hb : Below W.heap.size W u) => six hb hlt c0 c1 r0 r1 f0 f1)
  have HR := Lib.hid hr
  have h40 : ts.length ≤ 1048576 := by rw [hr.1]; omega
  have h60 : xs.length ≤ 60 := hr.2.1
  clear h hB k1 kk e12 hfv ex hr
  go_enter Try.func49, Try.ntmps49
  go_wp2_with fail
  clear eW
  refine (copiedSectors W _ ts H1.out h40).mono ?_
  rintro e u1 ⟨a1, cap1, rfl, ho1, hb1⟩
  have HO1 := Lib.hid ho1
  have HE1 := Lib.hid hb1
  obtain ⟨g0, g1, g2, g3, g4, g5⟩ := HSIX.out u1 hb1
  clear ho1 hb1 c0 c1 r0 r1 f0 f1
  obtain ⟨n, en⟩ : ∃ n, ts.length = n := ⟨_, rfl⟩
  have EN := Lib.hid en
  have HLEN := Lib.hid (fun k => (st_len ts xs fs k).trans en)
  have n40 : n ≤ 1048576 := by omega
  have HO1' : Hid (Own u1 W.heap.size 1 (.slice a1 n cap1) n (tc ts)) := by rw [en] at HO1; exact HO1
  rw [en] at g0 ⊢
  clear en HO1 h40
  obtain ⟨m, em⟩ : ∃ m, xs.length = m := ⟨_, rfl⟩
  have EM := Lib.hid em
  rw [em] at g1 h60 H2 ⊢
  clear em
  go_wp2_with fail
  go_loopw [14] (fun i wr => ∃ k : Nat, k ≤ m ∧ i = .int .i64 k ∧ Hid (Own wr W.heap.size 1 (.slice a1 n cap1) n (tc (st ts xs fs k)) ∧ Below W.heap.size W wr)) (fun i _ => m - (intOf i).toNat)
  case atStart => exact ⟨0, by omega, rfl, Lib.hid ⟨HO1'.out, HE1.out⟩⟩
  case round =>
    rename_i wr
    obtain ⟨k, hk, rfl, HX⟩ := hrel
    by_cases hlt2 : k < m
    · obtain ⟨b, o, rfl, hc⟩ := H2.out (by omega)
      have x0 := hc (k * 2) (by omega)
      have x1 := hc (k * 2 + 1) (by omega)
      rw [← HX.out.2.cell (World.block_lt_of_cell? W _ x0), pc_even] at x0
      rw [← HX.out.2.cell (World.block_lt_of_cell? W _ x1), pc_odd, ← Nat.add_assoc] at x1
      obtain ⟨hin, hsz⟩ := HR.out.2.2.2 k (by rw [EM.out]; exact hlt2)
      have HST := Lib.hid (show ∀ y, xs.getD k (0, ByteArray.empty) = y → st ts xs fs (k + 1) = (st ts xs fs k).set y.1.toNat (met ((st ts xs fs k).getD y.1.toNat ByteArray.empty) y.2 (fate fs k)) from fun y e => by rw [← e]; rfl)
      have HSM := Lib.hid (st_small HR.out fs k (by rw [EM.out]; omega))
      clear hc
      generalize xs.getD k (0, ByteArray.empty) = y at *
      obtain ⟨z, d⟩ := y
      simp only at x0 x1 hin hsz
      obtain ⟨hz0, hz1⟩ := hin
      obtain ⟨q, rfl⟩ : ∃ q : Nat, z = q := ⟨z.toNat, by omega⟩
      have hqn : q < n := by have h1 := HR.out.1; rw [EN.out] at h1; omega
      have HST2 := Lib.hid (HST.out (q, d) rfl)
      simp only [Int.toNat_natCast] at HST2
      obtain ⟨b1, o1, ea1, hbb1, hcc⟩ := HX.out.1.at (by omega)
      obtain rfl : a1 = some ⟨b1, o1, none⟩ := ea1
      obtain ⟨s0, hs0⟩ : ∃ s0, (st ts xs fs k).getD q ByteArray.empty = s0 := ⟨_, rfl⟩
      obtain ⟨cq, fq⟩ := hcc q (by omega)
      unfold tc at cq
      have hss := HSM.out q
      rw [hs0] at cq hss HST2
      obtain ⟨V, eV, hbV, hzV, v0, v1⟩ := Ex.boxU wr 64 (.int .i64 (q : Int)) (.string d)
      have cqV := (hbV.cell (World.block_lt_of_cell? wr _ cq)).trans cq
      have fqV := (hbV.frozen (p := ⟨b1, o1 + q, none⟩) (World.block_lt_of_cell? wr _ cq)).trans fq
      have HOV := Lib.hid (HX.out.1.below hbV)
      have HEV := Lib.hid (HX.out.2.trans (hbV.mono HX.out.2.size))
      have HV5 := Lib.hid (fun u (hb : Below V.heap.size V u) => Ex.box_below hb v0 v1)
      have HV6 := Lib.hid (show ∀ u, Below V.heap.size V u → u.cell? ⟨b1, o1 + q, none⟩ = some (.string s0) ∧ u.frozen? ⟨b1, o1 + q, none⟩ = false from fun u hb => ⟨(hb.cell (World.block_lt_of_cell? V _ cqV)).trans cqV, (hb.frozen (p := ⟨b1, o1 + q, none⟩) (World.block_lt_of_cell? V _ cqV)).trans fqV⟩)
      have CF := Lib.hid (fun u (hb : Below V.heap.size V u) => fateOf u fv fs (HFV.out.below (HEV.out.trans (hb.mono HEV.out.size))) k (by omega) hfl)
      have CM := Lib.hid (fun u => metI s0 d (fate fs k) hss hsz u)
      have HBB := Lib.hid hbb1
      generalize fate fs k = f at *
      obtain ⟨t, et⟩ : ∃ t, met s0 d f = t := ⟨_, rfl⟩
      rw [et] at CM HST2
      have i1 : (q : Int) < (n : Int) := by omega
      have i3 : (0 : Int) ≤ (q : Int) := by omega
      have i4 : (k : Int) < (m : Int) := by omega
      have lb1 : b1 < wr.heap.size := World.block_lt_of_cell? wr _ cq
      clear et hcc hbb1 hss hsz hz0 hz1 hbV hzV HST HSM cq fq hs0
      go_wp2_with fail
      clear eV
      have nb1 : ¬ b1 = wr.heap.size := by omega
      have nb2 : ¬ wr.heap.size = b1 := by omega
      refine wp_region_noPanic ?_
      refine wp_region_held_drew (S := fun w' => w'.cell? ⟨wr.heap.size, 0, none⟩ = some (.int .i64 (q : Int)) ∧ w'.cell? ⟨wr.heap.size, 1, none⟩ = some (.string d)) (by kernel_rfl) ?_ (fun hHeld => ?_)
      · exact ⟨v0, v1⟩
      refine wpAnyH_take (i := 0) (v := ?v0) rfl (by kernel_rfl) (by kernel_rfl) (by kernel_rfl) (fun _ _ _ h => h) (Or.inl ⟨by rfl, ?hy0⟩) (by assumption) ?rest0
      case hy0 =>
        intro w hSw
        (try dsimp only at hSw)
        go_simp
        (try with_reducible rfl)
      (try simp only [Act.put, List.setIfInBounds_toArray, List.set_cons_zero, List.set_cons_succ])
      refine wpAnyH_take (i := 1) (v := ?v1) rfl (by kernel_rfl) (by kernel_rfl) (by kernel_rfl) (fun _ _ _ h => h) (Or.inl ⟨by rfl, ?hy1⟩) (by assumption) ?rest1
      case hy1 =>
        intro w hSw
        (try dsimp only at hSw)
        go_simp
        (try with_reducible rfl)
      (try simp only [Act.put, List.setIfInBounds_toArray, List.set_cons_zero, List.set_cons_succ])
      refine wpAnyH_take (i := 2) (v := ?v2) rfl (by kernel_rfl) (by kernel_rfl) (by kernel_rfl) (fun _ _ _ h => h) (Or.inl ⟨by rfl, ?hy2⟩) (by assumption) ?rest2
      case hy2 =>
        intro w hSw
        (try dsimp only at hSw)
        go_simp
        (try with_reducible rfl)
      (try simp only [Act.put, List.setIfInBounds_toArray, List.set_cons_zero, List.set_cons_succ])
      refine wpAnyH_take (i := 3) (v := ?v3) rfl (by kernel_rfl) (by kernel_rfl) (by kernel_rfl) (fun _ _ _ h => h) (Or.inl ⟨by rfl, ?hy3⟩) (by assumption) ?rest3
      case hy3 =>
        intro w hSw
        (try dsimp only at hSw)
        go_simp
        (try with_reducible rfl)
      (try simp only [Act.put, List.setIfInBounds_toArray, List.set_cons_zero, List.set_cons_succ])
      refine wpAnyH_take (i := 4) (v := ?v4) rfl (by kernel_rfl) (by kernel_rfl) (by kernel_rfl) (fun _ _ _ h => h) (Or.inl ⟨by rfl, ?hy4⟩) (by assumption) ?rest4
      case hy4 =>
        intro w hSw
        (try dsimp only at hSw)
        go_simp
        (try with_reducible rfl)
      (try simp only [Act.put, List.setIfInBounds_toArray, List.set_cons_zero, List.set_cons_succ])
      refine wpAnyH_take (i := 5) (v := ?v5) rfl (by kernel_rfl) (by kernel_rfl) (by kernel_rfl) (fun _ _ _ h => h) (Or.inl ⟨by rfl, ?hy5⟩) (by assumption) ?rest5
      case hy5 =>
        intro w hSw
        (try dsimp only at hSw)
        go_simp
        (try with_reducible rfl)
      (try simp only [Act.put, List.setIfInBounds_toArray, List.set_cons_zero, List.set_cons_succ])
      refine wpAnyH_take (i := 6) (v := ?v6) rfl (by kernel_rfl) (by kernel_rfl) (by kernel_rfl) (fun _ _ _ h => h) (Or.inl ⟨by rfl, ?hy6⟩) (by assumption) ?rest6
      case hy6 =>
        intro w hSw
        (try dsimp only at hSw)
        go_simp
        (try with_reducible rfl)
      (try simp only [Act.put, List.setIfInBounds_toArray, List.set_cons_zero, List.set_cons_succ])
      refine wpAnyH_take (i := 8) (v := ?v8) rfl (by kernel_rfl) (by kernel_rfl) (by kernel_rfl) (fun _ _ _ h => h) (Or.inl ⟨by rfl, ?hy8⟩) (by assumption) ?rest8
      case hy8 =>
        intro w hSw
        (try dsimp only at hSw)
        go_simp
        (try with_reducible rfl)
      (try simp only [Act.put, List.setIfInBounds_toArray, List.set_cons_zero, List.set_cons_succ])
      refine wpAnyH_take (i := 9) (v := ?v9) rfl (by kernel_rfl) (by kernel_rfl) (by kernel_rfl) (fun _ _ _ h => h) (Or.inl ⟨by rfl, ?hy9⟩) (by assumption) ?rest9
      case hy9 =>
        intro w hSw
        (try dsimp only at hSw)
        go_simp
        (try with_reducible rfl)
      (try simp only [Act.put, List.setIfInBounds_toArray, List.set_cons_zero, List.set_cons_succ])
      refine wpAnyH_take (i := 10) (v := ?v10) rfl (by kernel_rfl) (by kernel_rfl) (by kernel_rfl) (fun _ _ _ h => h) (Or.inl ⟨by rfl, ?hy10⟩) (by assumption) ?rest10
      case hy10 =>
        intro w hSw
        (try dsimp only at hSw)
        go_simp
        (try with_reducible rfl)
      (try simp only [Act.put, List.setIfInBounds_toArray, List.set_cons_zero, List.set_cons_succ])
      refine wpAnyH_take (i := 11) (v := ?v11) rfl (by kernel_rfl) (by kernel_rfl) (by kernel_rfl) (fun _ _ _ h => h) (Or.inl ⟨by rfl, ?hy11⟩) (by assumption) ?rest11
      case hy11 =>
        intro w hSw
        (try dsimp only at hSw)
        go_simp
        (try with_reducible rfl)
      (try simp only [Act.put, List.setIfInBounds_toArray, List.set_cons_zero, List.set_cons_succ])
      refine wpAnyH_ready (rs := [7, 12]) (by kernel_rfl) (by simp) ?_
      refine AllReadyH.cons rfl (fun K hK => ?_) ?_
      · go_simp
        refine hK.out _ _ ?_ (fun hHeld => ?_)
        · (try dsimp only)
          exact ⟨v0, v1⟩
        clear hK K
        (try simp only [Act.put, List.setIfInBounds_toArray, List.set_cons_zero, List.set_cons_succ])
        refine wpAnyH_ready (rs := [12]) (by kernel_rfl) (by simp) ?_
        refine AllReadyH.cons rfl (fun K hK => ?_) ?_
        · go_simp
          refine (CF.out _ (below_drewN (Below.refl _ _) _)).mono ?_
          rintro e y ⟨rfl, rfl⟩
          go_wp2_with fail
          refine hK.out _ _ ?_ (fun hHeld => ?_)
          · (try dsimp only)
            exact ⟨v0, v1⟩
          clear hK K
          (try simp only [Act.put, List.setIfInBounds_toArray, List.set_cons_zero, List.set_cons_succ])
          refine wpAnyH_ready (rs := [13]) (by kernel_rfl) (by simp) ?_
          refine AllReadyH.cons rfl (fun K hK => ?_) ?_
          · go_simp
            refine (CM.out _).mono ?_
            rintro e y ⟨rfl, hb⟩
            have HYB := Lib.hid (of_drewN hb)
            obtain ⟨y0, y1⟩ := HV5.out y HYB.out
            obtain ⟨y2, y3⟩ := HV6.out y HYB.out
            clear hb
            go_wp2_with fail
            refine hK.out _ _ ?_ (fun hHeld => ?_)
            · (try dsimp only)
              exact ⟨y0, y1⟩
            clear hK K
            (try simp only [Act.put, List.setIfInBounds_toArray, List.set_cons_zero, List.set_cons_succ])
            refine wpAnyH_ready (rs := [14]) (by kernel_rfl) (by simp) ?_
            refine AllReadyH.cons rfl (fun K hK => ?_) ?_
            · go_simp
              refine hK.out _ _ ?_ (fun hHeld => ?_)
              · (try dsimp only)
                exact ⟨y0, y1⟩
              clear hK K
              (try simp only [Act.put, List.setIfInBounds_toArray, List.set_cons_zero, List.set_cons_succ])
              refine wpAnyH_ready (rs := [15]) (by kernel_rfl) (by simp) ?_
              refine AllReadyH.cons rfl (fun K hK => ?_) ?_
              · go_simp
                refine hK.out _ _ ?_ (fun hHeld => ?_)
                · (try dsimp only)
                  refine ⟨?_, ?_⟩ <;> go_simp
                clear hK K
                (try simp only [Act.put, List.setIfInBounds_toArray, List.set_cons_zero, List.set_cons_succ])
                refine wpAnyH_done (by kernel_rfl) ?_ _
                refine NoPanic.normal ?_
                have HYE := Lib.hid (HEV.out.trans (HYB.out.mono HEV.out.size))
                have HOY := Lib.hid (HOV.out.below HYB.out)
                go_wp2
                go_roundw
                case rel =>
                  refine ⟨k + 1, by omega, by go_num, Lib.hid ⟨(HOY.out.set q (by omega) (.string t)).congr (fun j hj => ?_), HYE.out.setCell HBB.out _⟩⟩
                  rw [HST2.out, tc_set _ _ _ (by rw [HLEN.out k]; exact hqn)]
                case measure => simp [intOf]; omega
              · exact AllReadyH.nil
            · exact AllReadyH.nil
          · exact AllReadyH.nil
        · exact AllReadyH.nil
      · refine AllReadyH.cons rfl (fun K hK => ?_) ?_
        · go_simp
          refine (CF.out _ (below_drewN (Below.refl _ _) _)).mono ?_
          rintro e y ⟨rfl, rfl⟩
          go_wp2_with fail
          refine hK.out _ _ ?_ (fun hHeld => ?_)
          · (try dsimp only)
            exact ⟨v0, v1⟩
          clear hK K
          (try simp only [Act.put, List.setIfInBounds_toArray, List.set_cons_zero, List.set_cons_succ])
          refine wpAnyH_ready (rs := [7]) (by kernel_rfl) (by simp) ?_
          refine AllReadyH.cons rfl (fun K hK => ?_) ?_
          · go_simp
            refine hK.out _ _ ?_ (fun hHeld => ?_)
            · (try dsimp only)
              exact ⟨v0, v1⟩
            clear hK K
            (try simp only [Act.put, List.setIfInBounds_toArray, List.set_cons_zero, List.set_cons_succ])
            refine wpAnyH_ready (rs := [13]) (by kernel_rfl) (by simp) ?_
            refine AllReadyH.cons rfl (fun K hK => ?_) ?_
            · go_simp
              refine (CM.out _).mono ?_
              rintro e y ⟨rfl, hb⟩
              have HYB := Lib.hid (of_drewN hb)
              obtain ⟨y0, y1⟩ := HV5.out y HYB.out
              obtain ⟨y2, y3⟩ := HV6.out y HYB.out
              clear hb
              go_wp2_with fail
              refine hK.out _ _ ?_ (fun hHeld => ?_)
              · (try dsimp only)
                exact ⟨y0, y1⟩
              clear hK K
              (try simp only [Act.put, List.setIfInBounds_toArray, List.set_cons_zero, List.set_cons_succ])
              refine wpAnyH_ready (rs := [14]) (by kernel_rfl) (by simp) ?_
              refine AllReadyH.cons rfl (fun K hK => ?_) ?_
              · go_simp
                refine hK.out _ _ ?_ (fun hHeld => ?_)
                · (try dsimp only)
                  exact ⟨y0, y1⟩
                clear hK K
                (try simp only [Act.put, List.setIfInBounds_toArray, List.set_cons_zero, List.set_cons_succ])
                refine wpAnyH_ready (rs := [15]) (by kernel_rfl) (by simp) ?_
                refine AllReadyH.cons rfl (fun K hK => ?_) ?_
                · go_simp
                  refine hK.out _ _ ?_ (fun hHeld => ?_)
                  · (try dsimp only)
                    refine ⟨?_, ?_⟩ <;> go_simp
                  clear hK K
                  (try simp only [Act.put, List.setIfInBounds_toArray, List.set_cons_zero, List.set_cons_succ])
                  refine wpAnyH_done (by kernel_rfl) ?_ _
                  refine NoPanic.normal ?_
                  have HYE := Lib.hid (HEV.out.trans (HYB.out.mono HEV.out.size))
                  have HOY := Lib.hid (HOV.out.below HYB.out)
                  go_wp2
                  go_roundw
                  case rel =>
                    refine ⟨k + 1, by omega, by go_num, Lib.hid ⟨(HOY.out.set q (by omega) (.string t)).congr (fun j hj => ?_), HYE.out.setCell HBB.out _⟩⟩
                    rw [HST2.out, tc_set _ _ _ (by rw [HLEN.out k]; exact hqn)]
                  case measure => simp [intOf]; omega
                · exact AllReadyH.nil
              · exact AllReadyH.nil
            · exact AllReadyH.nil
          · exact AllReadyH.nil
        · exact AllReadyH.nil
    · have hk2 := Lib.hid (show k = m by omega)
      obtain ⟨g0, g1, g2, g3, g4, g5⟩ := HSIX.out wr HX.out.2
      have HDW : Hid (DevO wr W.heap.size (.agg #[.slice a1 n cap1, .slice none 0 0]) (st ts xs fs m) []) := Lib.hid ⟨_, _, rfl, by rw [HLEN.out m, ← hk2.out]; exact HX.out.1, ⟨none, 0, rfl, Nat.le_refl _, by unfold maxLen; omega, fun h => absurd h (by simp)⟩, apart_empty _ _ _⟩
      obtain ⟨F, eF, hd, R0, R1, hbF⟩ := put_dev HDW.out HLT.out g2 g3
      have HD2 := Lib.hid (hd.base HB.out.size)
      have HBF := Lib.hid (HB.out.trans ((HX.out.2.mono HB.out.size).trans (hbF w.heap.size (by omega))))
      clear hd hbF
      go_wp2_with fail
      refine bodyPost_ret (v := .agg #[.slice a1 n cap1, .slice none 0 0]) (by simp [results, Try.results49, go_sem, R0, R1]) rfl ⟨_, rfl, by rw [EM.out]; exact HD2.out, HBF.out⟩
end Go.Proofs.Ytmgokpkogjdfhaa.Crash
