/-
  What is proved: the laws' functions on slices of blocks and slices of such slices: their size counted, copied, compared (contracts for the walks).
-/
import Derived.Test.YtealdpkgfmokpaaRows
import Derived.Test.YtealdpkgfmokpaaOrm
import Derived.Test.YtealdpkgfmokpaaLawN
namespace Go.Proofs.Ytealdpkgfmokpaa.LawO
open Go.ChangeShapes Go.WideShapes Go.ChangeAt Go.RowKit
open Sl (Sl Own Off)
open OpenSl (tc nc pc)
open Dev Orm
set_option linter.unusedVariables false

theorem szIntS (w : World) (v : Value) (zs : List Int) (h : Sl w 1 v zs.length (nc zs)) (L : Nat) (hL : L ≤ 1048576) :
    Calls Try.prog 56 #[v, .int .i64 L] w fun e w' => (∃ r : Int, e = .returned (.int .i64 r) ∧ (r = -1 ∨ ∃ R : Nat, r = R ∧ R + zs.length = L)) ∧ w' = w := by
  obtain ⟨a, cap, rfl, h1, h2, h3⟩ := h
  clear h3
  unfold maxLen at h2
  by_cases hlt : L < zs.length
  · go_enter Try.func56, Try.ntmps56
    go_wp2
    go_ret
    exact ⟨⟨_, rfl, .inl rfl⟩, rfl⟩
  · obtain ⟨R, eR⟩ : ∃ R, L - zs.length = R := ⟨_, rfl⟩
    have hR : R + zs.length = L := by omega
    have e1 : (L : Int) - (zs.length : Int) = (R : Int) := by omega
    have HR := Lib.hid hR
    go_enter Try.func56, Try.ntmps56
    go_wp2
    go_ret
    exact ⟨⟨_, rfl, .inr ⟨R, rfl, HR.out⟩⟩, rfl⟩
theorem szBlockS (w : World) (v : Value) (xs : List Bk) (h : Sl w 3 v xs.length (bc xs)) (L : Nat) (hL : L ≤ 1048576) :
    Calls Try.prog 57 #[v, .int .i64 L] w fun e w' => (∃ r : Int, e = .returned (.int .i64 r) ∧ (r = -1 ∨ ∃ R : Nat, r = R ∧ R + xs.length = L)) ∧ w' = w := by
  obtain ⟨a, cap, rfl, h1, h2, h3⟩ := h
  clear h3
  unfold maxLen at h2
  by_cases hlt : L < xs.length
  · go_enter Try.func57, Try.ntmps57
    go_wp2
    go_ret
    exact ⟨⟨_, rfl, .inl rfl⟩, rfl⟩
  · obtain ⟨R, eR⟩ : ∃ R, L - xs.length = R := ⟨_, rfl⟩
    have hR : R + xs.length = L := by omega
    have e1 : (L : Int) - (xs.length : Int) = (R : Int) := by omega
    have HR := Lib.hid hR
    go_enter Try.func57, Try.ntmps57
    go_wp2
    go_ret
    exact ⟨⟨_, rfl, .inr ⟨R, rfl, HR.out⟩⟩, rfl⟩

/-- The lengths of the first k, in all. -/
def sm (bss : List (List Bk)) (k : Nat) : Nat := ((bss.take k).map List.length).sum
theorem sm_zero (bss : List (List Bk)) : sm bss 0 = 0 := rfl
theorem sm_succ (bss : List (List Bk)) (k : Nat) (h : k < bss.length) : sm bss (k + 1) = sm bss k + (bss.getD k []).length := by
  unfold sm
  rw [List.take_add_one, List.getElem?_eq_getElem h, List.getD_eq_getElem?_getD, List.getElem?_eq_getElem h, List.map_append, List.sum_append]
  rfl
theorem sm_all (bss : List (List Bk)) : sm bss bss.length = (bss.map List.length).sum := by unfold sm; rw [List.take_length]

set_option maxRecDepth 100000 in
set_option maxHeartbeats 800000 in
theorem szBlockSS (w : World) (v : Value) (bss : List (List Bk)) (h : Ns w v bss) (L : Nat) (hL : L ≤ 1048576) :
    Calls Try.prog 58 #[v, .int .i64 L] w fun e w' => (∃ r : Int, e = .returned (.int .i64 r) ∧ (r = -1 ∨ ∃ R : Nat, r = R ∧ R + bss.length + (bss.map List.length).sum = L)) ∧ w' = w := by
  obtain ⟨vs, h, hin⟩ := h
  have HI := Lib.hid hin
  have HS := Lib.hid (sm_succ bss)
  have HA := Lib.hid (sm_all bss)
  obtain ⟨a, cap, rfl, h1, h2, h3⟩ := h
  have H3 := Lib.hid h3
  clear h3 hin
  unfold maxLen at h2
  by_cases hlt : L < bss.length
  · go_enter Try.func58, Try.ntmps58
    go_wp2
    go_ret
    exact ⟨⟨_, rfl, .inl rfl⟩, rfl⟩
  · generalize en : bss.length = n at *
    have EN := Lib.hid en
    clear en
    obtain ⟨R0, eR⟩ : ∃ R0, L - n = R0 := ⟨_, rfl⟩
    have e1 : (L : Int) - (n : Int) = (R0 : Int) := by omega
    have e2 : R0 + n = L := by omega
    go_enter Try.func58, Try.ntmps58
    go_wp2
    clear e1
    go_loopw [1, 5] (fun l i wr => ∃ k R : Nat, k ≤ n ∧ R ≤ L ∧ l = .int .i64 R ∧ i = .int .i64 k ∧ wr = w ∧ Hid (R + n + sm bss k = L)) (fun l i _ => n - (intOf i).toNat)
    case atStart => exact ⟨0, R0, by omega, by omega, rfl, rfl, rfl, Lib.hid (by rw [sm_zero]; omega)⟩
    case round =>
      obtain ⟨k, R, hk, hR, rfl, rfl, rfl, HJ⟩ := hrel
      by_cases hkn : k < n
      · obtain ⟨b, o, rfl, hc⟩ := H3.out (by omega)
        have c0 := hc k (by omega)
        have HK := Lib.hid (HI.out k hkn)
        have HS2 := Lib.hid (HS.out k hkn)
        clear hc
        generalize bss.getD k [] = xs at *
        obtain ⟨a', cap', e9, _, _⟩ := HK.out.form
        rw [e9] at c0 HK
        go_wp2_with fail
        refine (szBlockS _ _ xs HK.out R (by omega)).mono ?_
        rintro e w1 ⟨⟨r, rfl, hr⟩, rfl⟩
        rcases hr with rfl | ⟨R', rfl, hR'⟩
        · go_wp2
          go_ret
          exact ⟨⟨_, rfl, .inl rfl⟩, rfl⟩
        · have HR' := Lib.hid hR'
          have e4 : R' ≤ L := by omega
          clear hR'
          go_wp2
          go_roundw
          case rel => exact ⟨k + 1, R', by omega, e4, by go_num, by go_num, by trivial, Lib.hid (by have := HJ.out; have := HS2.out; have := HR'.out; omega)⟩
          case measure => simp [intOf]; omega
      · have hkn2 := Lib.hid (show k = n by omega)
        go_wp2
        go_ret
        exact ⟨⟨_, rfl, .inr ⟨R, rfl, by have := HJ.out; rw [hkn2.out, HA.out] at this; exact this⟩⟩, rfl⟩

set_option maxRecDepth 100000 in
set_option maxHeartbeats 800000 in
theorem szOram (w : World) (v : Value) (o : Om) (h : Rd w v o) (L : Nat) (hL : L ≤ 1048576) :
    Calls Try.prog 10 #[v, .int .i64 L] w fun e w' => (∃ r : Int, e = .returned (.int .i64 r) ∧ (r = -1 ∨ ∃ R : Nat, r = R ∧ R + tot o = L)) ∧ Below w.heap.size w w' := by
  obtain ⟨p, s, b, rfl, h1, h2, h3⟩ := h
  have HB := Lib.hid ((Below.refl w.heap.size w).alloc (Nat.le_refl _) (.cells #[p, s, b] 26))
  have H1 := Lib.hid (h1.below HB.out)
  have H2 := Lib.hid (h2.below HB.out)
  have H3 := Lib.hid (h3.below HB.out)
  clear h1 h2 h3
  go_enter Try.func10, Try.ntmps10
  go_wp2_with fail
  refine (szIntS _ p o.pos H1.out L hL).mono ?_
  rintro e w1 ⟨⟨r, rfl, hr⟩, rfl⟩
  rcases hr with rfl | ⟨R, rfl, hR⟩
  · go_wp2_with fail
    go_ret
    exact ⟨⟨_, rfl, .inl rfl⟩, HB.out⟩
  have HR := Lib.hid hR
  have hR1 : R ≤ 1048576 := by omega
  clear hR
  go_wp2_with fail
  refine (szBlockS _ s o.st H2.out R hR1).mono ?_
  rintro e w2 ⟨⟨r, rfl, hr⟩, rfl⟩
  rcases hr with rfl | ⟨R2, rfl, hR⟩
  · go_wp2_with fail
    go_ret
    exact ⟨⟨_, rfl, .inl rfl⟩, HB.out⟩
  have HR2 := Lib.hid hR
  have hR2 : R2 ≤ 1048576 := by omega
  clear hR
  go_wp2_with fail
  refine (szBlockSS _ b o.bk H3.out R2 hR2).mono ?_
  rintro e w3 ⟨⟨r, rfl, hr⟩, rfl⟩
  rcases hr with rfl | ⟨R3, rfl, hR⟩
  · go_wp2_with fail
    go_ret
    exact ⟨⟨_, rfl, .inl rfl⟩, HB.out⟩
  have HR3 := Lib.hid hR
  clear hR
  go_wp2_with fail
  go_ret
  exact ⟨⟨_, rfl, .inr ⟨R3, rfl, by have := HR.out; have := HR2.out; have := HR3.out; unfold tot; omega⟩⟩, HB.out⟩

theorem eqBlock (x y z : Int) (w : World) :
    Calls Try.prog 115 #[.agg #[.int .i64 x, .int .i64 y, .int .i64 z], .agg #[.int .i64 x, .int .i64 y, .int .i64 z]] w fun e w' => e = .returned (.bool true) ∧ Below w.heap.size w w' := by
  go_enter Try.func115, Try.ntmps115
  go_wp2
  go_ret
  exact ⟨rfl, ((Below.refl _ _).alloc (Nat.le_refl _) _).alloc (by simp) _⟩
theorem toBlock (x y z : Int) (w : World) :
    Calls Try.prog 108 #[.agg #[.int .i64 x, .int .i64 y, .int .i64 z]] w fun e w' => e = .returned (.agg #[.int .i64 x, .int .i64 y, .int .i64 z]) ∧ Below w.heap.size w w' := by
  go_enter Try.func108, Try.ntmps108
  go_wp2
  refine bodyPost_ret (v := .agg #[.int .i64 x, .int .i64 y, .int .i64 z]) (by simp [results, Try.results108, go_sem]) rfl ⟨rfl, ?_⟩
  repeat (first | exact Below.refl _ _ | refine Below.alloc ?_ (by simp; try omega) _ | refine Below.setCell ?_ (by simp; try omega) _)

set_option maxRecDepth 100000 in
set_option maxHeartbeats 800000 in
theorem eqBlockS (w : World) (u v : Value) (xs : List Bk) (hu : Sl w 3 u xs.length (bc xs)) (hv : Sl w 3 v xs.length (bc xs)) :
    Calls Try.prog 70 #[u, v] w fun e w' => e = .returned (.bool true) ∧ Below w.heap.size w w' := by
  obtain ⟨a, cap, rfl, h1, h2, h3⟩ := hu
  obtain ⟨a', cap', rfl, h1', h2', h3'⟩ := hv
  have H3 := Lib.hid h3
  have H3' := Lib.hid h3'
  clear h3 h3'
  unfold maxLen at h2 h2'
  generalize xs.length = n at *
  go_enter Try.func70, Try.ntmps70
  go_wp2
  go_loopw [5] (fun i wr => ∃ k : Nat, k ≤ n ∧ i = .int .i64 k ∧ Hid (Below w.heap.size w wr)) (fun i _ => n - (intOf i).toNat)
  case atStart => exact ⟨0, by omega, rfl, Lib.hid (Below.refl _ _)⟩
  case round =>
    rename_i wr
    obtain ⟨k, hk, rfl, HB⟩ := hrel
    by_cases hlt : k < n
    · obtain ⟨b, o, rfl, hc⟩ := H3.out (by omega)
      obtain ⟨b', o', rfl, hc'⟩ := H3'.out (by omega)
      have c0 := hc (k * 3) (by omega)
      have c1 := hc (k * 3 + 1) (by omega)
      have c2 := hc (k * 3 + 2) (by omega)
      have d0 := hc' (k * 3) (by omega)
      have d1 := hc' (k * 3 + 1) (by omega)
      have d2 := hc' (k * 3 + 2) (by omega)
      rw [← HB.out.cell (World.block_lt_of_cell? w _ c0)] at c0
      rw [← HB.out.cell (World.block_lt_of_cell? w _ c1)] at c1
      rw [← HB.out.cell (World.block_lt_of_cell? w _ c2)] at c2
      rw [← HB.out.cell (World.block_lt_of_cell? w _ d0)] at d0
      rw [← HB.out.cell (World.block_lt_of_cell? w _ d1)] at d1
      rw [← HB.out.cell (World.block_lt_of_cell? w _ d2)] at d2
      rw [bc0] at c0 d0
      rw [bc1] at c1 d1
      rw [bc2] at c2 d2
      clear hc hc'
      generalize xs.getD k _ = y at *
      obtain ⟨y0, y1, y2⟩ := y
      simp only at c0 c1 c2 d0 d1 d2
      rw [← Nat.add_assoc] at c1 d1 c2 d2
      have i1 : (k : Int) < (n : Int) := by omega
      have i3 : (0 : Int) ≤ (k : Int) := by omega
      go_wp2
      go_region_with ((go_at_call 115; refine (eqBlock y0 y1 y2 _).mono ?_; rintro e u1 ⟨rfl, hb⟩))
      all_goals
        have HB2 := Lib.hid ((below_drewN HB.out _).trans (hb.mono HB.out.size))
        clear hb
        go_wp2
        go_roundw
        case rel => exact ⟨k + 1, by omega, by go_num, HB2⟩
        case measure => simp [intOf]; omega
    · go_wp2
      go_ret
      exact ⟨rfl, HB.out⟩

set_option maxRecDepth 100000 in
set_option maxHeartbeats 800000 in
theorem eqBlockSS (w : World) (u v : Value) (bss : List (List Bk)) (hu : Ns w u bss) (hv : Ns w v bss) :
    Calls Try.prog 71 #[u, v] w fun e w' => e = .returned (.bool true) ∧ Below w.heap.size w w' := by
  obtain ⟨us, hu, hui⟩ := hu
  obtain ⟨vs, hv, hvi⟩ := hv
  obtain ⟨a, cap, rfl, h1, h2, h3⟩ := hu
  obtain ⟨a', cap', rfl, h1', h2', h3'⟩ := hv
  have H3 := Lib.hid h3
  have H3' := Lib.hid h3'
  have HI := Lib.hid hui
  have HI' := Lib.hid hvi
  clear h3 h3' hui hvi
  unfold maxLen at h2 h2'
  generalize bss.length = n at *
  go_enter Try.func71, Try.ntmps71
  go_wp2
  go_loopw [5] (fun i wr => ∃ k : Nat, k ≤ n ∧ i = .int .i64 k ∧ Hid (Below w.heap.size w wr)) (fun i _ => n - (intOf i).toNat)
  case atStart => exact ⟨0, by omega, rfl, Lib.hid (Below.refl _ _)⟩
  case round =>
    rename_i wr
    obtain ⟨k, hk, rfl, HB⟩ := hrel
    by_cases hlt : k < n
    · obtain ⟨b, o, rfl, hc⟩ := H3.out (by omega)
      obtain ⟨b', o', rfl, hc'⟩ := H3'.out (by omega)
      have c0 := hc k (by omega)
      have d0 := hc' k (by omega)
      rw [← HB.out.cell (World.block_lt_of_cell? w _ c0)] at c0
      rw [← HB.out.cell (World.block_lt_of_cell? w _ d0)] at d0
      have HU := Lib.hid ((HI.out k hlt).below HB.out)
      have HV := Lib.hid ((HI'.out k hlt).below HB.out)
      clear hc hc'
      generalize bss.getD k [] = xs at *
      obtain ⟨a2, cap2, e2, _, _⟩ := HU.out.form
      obtain ⟨a3, cap3, e3, _, _⟩ := HV.out.form
      rw [e2] at c0 HU
      rw [e3] at d0 HV
      have i1 : (k : Int) < (n : Int) := by omega
      have i3 : (0 : Int) ≤ (k : Int) := by omega
      go_wp2
      go_region_with ((go_at_call 70; refine (eqBlockS _ _ _ xs (HU.out.below (below_drewN (Below.refl _ _) _)) (HV.out.below (below_drewN (Below.refl _ _) _))).mono ?_; rintro e u1 ⟨rfl, hb⟩))
      all_goals
        have HB2 := Lib.hid ((below_drewN HB.out _).trans (hb.mono HB.out.size))
        clear hb
        go_wp2
        go_roundw
        case rel => exact ⟨k + 1, by omega, by go_num, HB2⟩
        case measure => simp [intOf]; omega
    · go_wp2
      go_ret
      exact ⟨rfl, HB.out⟩
theorem bcell {W w1 : World} (hb : Below W.heap.size W w1) : (∀ b o, b < W.heap.size → w1.cell? ⟨b, o, none⟩ = W.cell? ⟨b, o, none⟩) ∧ (∀ b o, b < W.heap.size → w1.frozen? ⟨b, o, none⟩ = W.frozen? ⟨b, o, none⟩) :=
  ⟨fun b o h => hb.cell (p := ⟨b, o, none⟩) h, fun b o h => hb.frozen (p := ⟨b, o, none⟩) h⟩

set_option maxRecDepth 100000 in
set_option maxHeartbeats 800000 in
theorem eqOram (w : World) (u v : Value) (o : Om) (h : Rd w u o) (h' : Rd w v o) :
    Calls Try.prog 14 #[u, v] w fun e w' => e = .returned (.bool true) ∧ Below w.heap.size w w' := by
  obtain ⟨p, s, b, rfl, h1, h2, h3⟩ := h
  obtain ⟨p', s', b', rfl, h1', h2', h3'⟩ := h'
  have H1 := Lib.hid h1
  have H2 := Lib.hid h2
  have H3 := Lib.hid h3
  have H1' := Lib.hid h1'
  have H2' := Lib.hid h2'
  have H3' := Lib.hid h3'
  clear h1 h2 h3 h1' h2' h3'
  have HB := Lib.hid (((Below.refl w.heap.size w).alloc (Nat.le_refl _) (.cells #[p, s, b] 31)).alloc (by simp) (.cells #[p', s', b'] 31))
  go_enter Try.func14, Try.ntmps14
  go_wp2_with fail
  refine (LawN.eqIntS _ p p' o.pos (H1.out.below HB.out) (H1'.out.below HB.out)).mono ?_
  rintro e w1 ⟨rfl, hb⟩
  obtain ⟨hc, hf⟩ := bcell hb
  have HB2 := Lib.hid (HB.out.trans (hb.mono HB.out.size))
  have HZ2 := Lib.hid hb.size
  clear hb hf
  simp only [World.size_alloc] at hc
  go_wp2_with fail
  refine (eqBlockS _ s s' o.st (H2.out.below HB2.out) (H2'.out.below HB2.out)).mono ?_
  rintro e w2 ⟨rfl, hb⟩
  have hc2 : ∀ b o, b < w.heap.size + 1 + 1 → w2.cell? ⟨b, o, none⟩ = w1.cell? ⟨b, o, none⟩ := fun b o h => hb.cell (p := ⟨b, o, none⟩) (by have := HZ2.out; simp at this; show b < _; omega)
  have HB3 := Lib.hid (HB2.out.trans (hb.mono HB2.out.size))
  clear hb
  go_wp2_with fail
  refine (eqBlockSS _ b b' o.bk (H3.out.below HB3.out) (H3'.out.below HB3.out)).mono ?_
  rintro e w3 ⟨rfl, hb⟩
  have HB4 := Lib.hid (HB3.out.trans (hb.mono HB3.out.size))
  clear hb
  go_wp2_with fail
  go_ret
  exact ⟨rfl, HB4.out⟩
end Go.Proofs.Ytealdpkgfmokpaa.LawO
