/-
  What is proved: the program's work on a map: how it is kept, how it is made of entries, and what the faults of a map are (contracts for the walks).
-/
import Derived.Test.YtealdpkgfmokpaaRows
import Derived.Test.YtealdpkgfmokpaaMapOk
import Derived.Test.YtealdpkgfmokpaaOtB
namespace Go.Proofs.Ytealdpkgfmokpaa.MapW
open Go.ChangeShapes Go.WideShapes Go.ChangeAt Go.RowKit Go.Maps
open Sl (Sl Own Off)
open Dev Orm LawE MapP MapOk OtB
set_option linter.unusedVariables false

theorem law3 : Keyed Try.prog 3 := int_keyed Try.underlying3
theorem zero3 (w : World) : (zeroValue 3).run Try.prog w = .ok (.int .i64 0) w := by kernel_rfl
abbrev owns (w : World) (B n : Nat) (D : DataW Unit) : Prop := w.ownsMap Try.prog 3 (plainElem Try.prog 3) B n D
theorem owns_below {w w' : World} {B n : Nat} {D : DataW Unit} (h : owns w B n D) (hb : Below w.heap.size w w') : owns w' B n D :=
  h.kept (row := none) ⟨hb.os, hb.tape, hb.output, hb.size, fun i hi _ => hb.block i hi⟩ (by simp)
theorem owns_tight {w : World} {B n : Nat} {xs : List En} (h : owns w B n (dm xs)) : owns w B xs.length (dm xs) := by
  obtain ⟨es, clock, hb, F, hs, hD⟩ := h
  refine ⟨es, clock, hb, F, ?_, hD⟩
  have : Maps.size (dm xs) = es.size := by rw [hD]; simp [Maps.size, length_sorted]
  rw [dm_size] at this
  omega
theorem wf_key {x : En} (h : Kv x) : (Lit.int .i64 x.1).wf = true := by unfold Kv at h; exact WalkArith.wf_i64 (by omega)
theorem wf_val {x : En} (h : Kv x) : (Lit.int .i64 x.2).wf = true := by unfold Kv at h; exact WalkArith.wf_i64 (by omega)

/-- The work: its struct in block g, its map in block B, what was ahead of changes in pv. -/
structure Wk (w : World) (lo g B : Nat) (xs : List En) (pv : Value) : Prop where
  c0 : w.cell? ⟨g, 0, none⟩ = some (.map (some B))
  c1 : w.cell? ⟨g, 1, none⟩ = some pv
  f0 : w.frozen? ⟨g, 0, none⟩ = false
  f1 : w.frozen? ⟨g, 1, none⟩ = false
  own : owns w B xs.length (dm xs)
  lg : lo ≤ g
  lb : lo ≤ B
  ne : g ≠ B
  ty : Ty w g 167
theorem Wk.gt {w : World} {lo g B : Nat} {xs : List En} {pv : Value} (h : Wk w lo g B xs pv) : g < w.heap.size := World.block_lt_of_cell? w _ h.c0
theorem Wk.bt {w : World} {lo g B : Nat} {xs : List En} {pv : Value} (h : Wk w lo g B xs pv) : B < w.heap.size := h.own.lt
theorem Wk.below {w w' : World} {lo g B : Nat} {xs : List En} {pv : Value} (h : Wk w lo g B xs pv) (hb : Below w.heap.size w w') : Wk w' lo g B xs pv :=
  have e := hb.block g h.gt
  ⟨(World.cell?_of_block (w := w) e).trans h.c0, (World.cell?_of_block (w := w) e).trans h.c1, (World.frozen?_of_block (w := w) e).trans h.f0, (World.frozen?_of_block (w := w) e).trans h.f1, owns_below h.own hb, h.lg, h.lb, h.ne, h.ty.below hb⟩
theorem Wk.base {w : World} {lo lo' g B : Nat} {xs : List En} {pv : Value} (h : Wk w lo g B xs pv) (hl : lo' ≤ lo) : Wk w lo' g B xs pv :=
  ⟨h.c0, h.c1, h.f0, h.f1, h.own, Nat.le_trans hl h.lg, Nat.le_trans hl h.lb, h.ne, h.ty⟩
theorem take_succ_d {α : Type} (xs : List α) (d : α) (k : Nat) (h : k < xs.length) : xs.take (k + 1) = xs.take k ++ [xs.getD k d] := by
  rw [List.take_add_one, List.getElem?_eq_getElem h, List.getD_eq_getElem?_getD, List.getElem?_eq_getElem h]
  rfl
theorem ri_take {xs : List En} (h : Ri xs) (k : Nat) : Ri (xs.take k) := List.Pairwise.sublist (List.take_sublist _ _) h
theorem take_pu {xs : List En} (h : Ri xs) (k : Nat) (hk : k < xs.length) : pu (xs.take k) (xs.getD k (0, 0)).1 (xs.getD k (0, 0)).2 = xs.take (k + 1) := by
  have e := take_succ_d xs (0, 0) k hk
  rw [e]
  have hr : Ri (xs.take (k + 1)) := ri_take h _
  rw [e] at hr
  unfold Ri at hr
  rw [List.pairwise_append] at hr
  exact pu_snoc (x := xs.getD k (0, 0)) (fun y hy => hr.2.2 y hy _ (by simp))
theorem grown_cell {u w' : World} {B : Nat} (h : u.grownBy w' (some B)) {lo : Nat} (hB : lo ≤ B) (hlo : lo ≤ u.heap.size) {w : World} (hb : Below lo w u) : Below lo w w' :=
  ⟨h.os.trans hb.os, h.tape.trans hb.tape, h.output.trans hb.output, Nat.le_trans hb.size h.size, fun i hi => (h.block i (Nat.lt_of_lt_of_le hi hlo) (by simp; omega)).trans (hb.block i hi)⟩

set_option maxRecDepth 100000 in
set_option maxHeartbeats 1600000 in
theorem workOn (w : World) (v : Value) (xs : List En) (h : Sl w 2 v xs.length (ec xs)) (hok : MOk xs) :
    Calls Try.prog 86 #[v] w fun e w' => ∃ g B, e = .returned (.pointer (some ⟨g, 0, none⟩)) ∧ Wk w' w.heap.size g B xs (.slice none 0 0) ∧ Below w.heap.size w w' := by
  have hmm := @run_makeMap Try.prog
  have HV := Lib.hid h
  obtain ⟨a, cap, rfl, h1, h2, h3⟩ := h
  clear h3
  unfold maxLen at h2
  have hl := hok.1
  have HRI := Lib.hid hok.ri
  have HKV := Lib.hid (fun k (hk : k < xs.length) => hok.kv _ (getD_in xs k hk))
  have HTP := Lib.hid (fun k (hk : k < xs.length) => take_pu hok.ri k hk)
  have HTL := Lib.hid (List.take_length (l := xs))
  obtain ⟨W, eW⟩ : ∃ W, w.alloc (.map #[] 0) = W := ⟨_, rfl⟩
  obtain ⟨M, eM⟩ : ∃ M, w.heap.size = M := ⟨_, rfl⟩
  have hb2 : Below w.heap.size w W := by rw [← eW]; exact (Below.refl _ _).alloc (Nat.le_refl _) _
  have HOW := Lib.hid (show owns W M 0 (dm []) from by rw [← eW, ← eM]; exact World.ownsMap_made w _ _ _)
  have HBW := Lib.hid (show Below M w W from eM ▸ hb2)
  have HVW := Lib.hid (HV.out.below hb2)
  have HMW := Lib.hid (show M < W.heap.size by rw [← eM, ← eW]; simp)
  have HEM := Lib.hid eM
  clear hb2 hok
  rw [eM]
  obtain ⟨n, en⟩ : ∃ n, xs.length = n := ⟨_, rfl⟩
  have HEN := Lib.hid en
  rw [en] at HVW HKV HTP HTL h1 hl ⊢
  clear en
  go_enter Try.func86, Try.ntmps86
  go_wp2
  clear eW eM
  go_loopw [9] (fun i wz => ∃ (k : Nat) (wr : World), wr = wz ∧ k ≤ n ∧ i = .int .i64 k ∧ Hid (Below M w wr ∧ owns wr M k (dm (xs.take k)) ∧ W.heap.size ≤ wr.heap.size)) (fun i _ => n - (Go.RowKit.intOf i).toNat)
  case atStart => exact ⟨0, _, rfl, by omega, rfl, Lib.hid ⟨HBW.out, by rw [List.take_zero]; exact HOW.out, Nat.le_refl _⟩⟩
  case round =>
    obtain ⟨k, wr, rfl, hk, rfl, HJ⟩ := hrel
    by_cases hlt : k < n
    · obtain ⟨b, o, hsa, hc⟩ := HV.out.at (by have := HEN.out; omega)
      obtain rfl : a = some ⟨b, o, none⟩ := by simpa using hsa
      have c0 := hc (k * 2) (by have := HEN.out; omega)
      have c1 := hc (k * 2 + 1) (by have := HEN.out; omega)
      rw [← HJ.out.1.cell (p := ⟨b, o + k * 2, none⟩) (by have := World.block_lt_of_cell? _ _ c0; have := HEM.out; omega), ec0] at c0
      rw [← HJ.out.1.cell (p := ⟨b, o + (k * 2 + 1), none⟩) (by have := World.block_lt_of_cell? _ _ c1; have := HEM.out; omega), ec1, ← Nat.add_assoc] at c1
      have HP := Lib.hid (HTP.out k hlt)
      have HKK := Lib.hid (HKV.out k hlt)
      have HPU := Lib.hid (dm_put (ri_take HRI.out k) (xs.getD k (0, 0)).1 (xs.getD k (0, 0)).2)
      rw [HP.out] at HPU
      clear hc hsa HP
      generalize xs.getD k (0, 0) = z at *
      obtain ⟨z0, z1⟩ := z
      simp only at c0 c1 HPU
      obtain ⟨U, e1, hb, hz, d0, d1, _, _⟩ := box2 wr 117 (.int .i64 z0) (.int .i64 z1)
      obtain ⟨G, eG⟩ : ∃ G, wr.heap.size = G := ⟨_, rfl⟩
      rw [eG] at d0 d1
      have HB := Lib.hid (HJ.out.1.trans (hb.mono (by have := HJ.out.1.size; have := HEM.out; omega)))
      have HO := Lib.hid (owns_below HJ.out.2.1 hb)
      have HS := Lib.hid (Nat.le_trans HJ.out.2.2 hb.size)
      have HKEY := Lib.hid (keyOf_int_mk Try.underlying3 (wf_key HKK.out))
      have HVAL := Lib.hid (plainElem_int (H := Unit) Try.underlying3 (wf_val HKK.out))
      clear hb hz
      generalize dm (xs.take k) = D at *
      go_wp2_with (at_mapUpdate; refine wpList_mapUpdate_own _ rfl _ _ _ 137 rfl 3 3 law3 Try.underlying137 (plainElem Try.prog 3) M k D rfl HO.out (by unfold maxLen; omega) _ _ _ rfl rfl HKEY.out _ [] HVAL.out ?_; intro w1 hown1 hgrow1)
      have HO1 := Lib.hid hown1
      have HB1 := Lib.hid (grown_cell hgrow1 (Nat.le_refl _) (by have := HB.out.size; have := HEM.out; omega) HB.out)
      have HS1 := Lib.hid (Nat.le_trans HS.out hgrow1.size)
      clear hown1 hgrow1 e1 eG
      rw [HPU.out] at HO1
      go_roundw
      case rel => exact ⟨k + 1, _, rfl, by omega, by go_num, Lib.hid ⟨HB1.out, HO1.out, HS1.out⟩⟩
      case measure => simp [Go.RowKit.intOf]; omega
    · have hk2 := Lib.hid (show k = n by omega)
      have HO := Lib.hid HJ.out.2.1
      rw [hk2.out, HTL.out, ← HEN.out] at HO
      obtain ⟨U, e1, hb, hz, d0, d1, f0, f1⟩ := box2 wr 167 (.map (some M)) (.slice none 0 0)
      have hty : Ty U wr.heap.size 167 := by rw [← e1]; exact boxed_ty wr _ _
      obtain ⟨G, eG⟩ : ∃ G, wr.heap.size = G := ⟨_, rfl⟩
      have HWK := Lib.hid (show Wk U M G M xs (.slice none 0 0) from by
        rw [eG] at d0 d1 f0 f1 hty
        have := HO.out.lt
        have := HJ.out.1.size
        have := HEM.out
        exact ⟨d0, d1, f0, f1, owns_tight (owns_below HO.out hb), by omega, by omega, by omega, hty⟩)
      have HB := Lib.hid (HJ.out.1.trans (hb.mono (by have := HJ.out.1.size; have := HEM.out; omega)))
      clear hb hz d0 d1 f0 f1 hty
      go_wp2
      go_ret
      exact ⟨_, _, rfl, HWK.out, HB.out⟩
end Go.Proofs.Ytealdpkgfmokpaa.MapW
