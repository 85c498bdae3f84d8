/-
  What is proved: the program's and the model's new hidden maps are the plain one, of the call's own (contracts for the walks).
-/
import Derived.Test.YtealdpkgfmokpaaRows
import Derived.Test.YtealdpkgfmokpaaEncP
import Derived.Test.YtealdpkgfmokpaaNewO3
import Derived.Deep.RegionHeld3
import Derived.Deep.CutRange
namespace Go.Proofs.Ytealdpkgfmokpaa.NewE
open Go.ChangeShapes Go.WideShapes Go.ChangeAt Go.RowKit
open Sl (Sl Own Off)
open OpenSl (tc nc pc)
open Dev Orm Wy Box3 OkP Cop NewO EncP
set_option linter.unusedVariables false

/-- A new hidden map: no key is there. -/
def neE (zs : List Int) (q : Bool) : Em := if nwC zs q = 0 then ⟨List.replicate 11 0, nt zs⟩ else ⟨[], zt⟩
theorem bad_e {zs : List Int} {q : Bool} (h : nwC zs q ≠ 0) : neE zs q = ⟨[], zt⟩ := by unfold neE; rw [if_neg h]
theorem ok_e {zs : List Int} {q : Bool} (h : nwC zs q = 0) : neE zs q = ⟨List.replicate 11 0, nt zs⟩ := by unfold neE; rw [if_pos h]
theorem eO_zero (w : World) (lo hi : Nat) : EO w lo hi (.agg #[.slice none 0 0, .slice none 0 0, .slice none 0 0, .slice none 0 0]) ⟨[], zt⟩ :=
  have e : ∀ sz (c : Nat → Value), Own w lo sz (.slice none 0 0) 0 c := fun sz c => ⟨none, 0, rfl, Nat.le_refl _, by unfold maxLen; omega, fun h => absurd h (by omega)⟩
  ⟨_, _, _, _, fun _ => .slice none 0 0, rfl, ⟨e _ _, lies_nil _ _ _ _⟩, ⟨e _ _, e _ _, ⟨e _ _, fun j hj => absurd hj (by simp [zt]), fun j hj => absurd hj (by simp [zt]), fun i j hi => absurd hi (by simp [zt])⟩, ⟨apart_empty _ _ _, apart_empty _ _ _, apart_empty _ _ _, fun j hj => absurd hj (by simp [zt]), fun j hj => absurd hj (by simp [zt])⟩, lies_nil _ _ _ _, lies_nil _ _ _ _, lies_nil _ _ _ _, fun j hj => absurd hj (by simp [zt])⟩, apart_empty _ _ _, apart_empty _ _ _, apart_empty _ _ _, fun j hj => absurd hj (by simp [zt])⟩
/-- A new map's four values are stored into a block of four. -/
theorem put4 {u : World} {g : Nat} {x y z t : Value} (X : B4 u g x y z t) (a b c d : Value) :
    ∃ F, (((u.setCell ⟨g, 0, none⟩ a).setCell ⟨g, 1, none⟩ b).setCell ⟨g, 2, none⟩ c).setCell ⟨g, 3, none⟩ d = F ∧ B4 F g a b c d ∧ F.heap.size = u.heap.size ∧ (∀ B, B ≤ g → Below B u F) ∧ ∀ lo hi v o, RdO u lo hi v o → g < lo ∨ hi ≤ g → RdO F lo hi v o :=
  ⟨_, rfl, (((X.set0 a).set1 b).set2 c).set3 d, by simp, fun B hB => ((((Below.refl B u).setCell (p := ⟨g, 0, none⟩) hB a).setCell (p := ⟨g, 1, none⟩) hB b).setCell (p := ⟨g, 2, none⟩) hB c).setCell (p := ⟨g, 3, none⟩) hB d,
    fun lo hi v o h hg => rdO_set_off (rdO_set_off (rdO_set_off (rdO_set_off h hg 0 a) hg 1 b) hg 2 c) hg 3 d⟩
/-- A made row of eleven noughts. -/
theorem nc_zero (n j : Nat) (h : j < n) : nc (List.replicate n 0) j = .int .i64 0 := by
  unfold nc
  rw [List.getD_eq_getElem?_getD, List.getElem?_replicate, if_pos h]
  rfl
theorem own11 (x : World) : Own (x.alloc (.cells (madeCells #[Value.int .i64 0] 11) 3)) x.heap.size 1 (.slice (some ⟨x.heap.size, 0, none⟩) 11 11) 11 (nc (List.replicate 11 0)) := by
  refine ⟨_, 11, rfl, Nat.le_refl _, by unfold maxLen; omega, fun _ => ⟨x.heap.size, 0, rfl, Nat.le_refl _, fun j hj => ⟨?_, frozen_of_row _ x.heap.size _ _ 3 (heap_alloc_new x _)⟩⟩⟩
  rw [cell_of_row _ x.heap.size _ _ 3 (0, 0) (heap_alloc_new x _), Nat.zero_add, nc_zero 11 j (by omega)]
  exact LawS.made_one (.int .i64 0) rfl 11 j (by omega)
/-- .. beside a tree it is a new hidden map. -/
theorem new_enc {V : World} {lo n : Nat} {p s b : Value} {zs : List Int} (h : RdO V lo n (.agg #[p, s, b]) (nt zs)) (h1 : lo ≤ n) (h2 : n ≤ V.heap.size) :
    EO (V.alloc (.cells (madeCells #[Value.int .i64 0] 11) 3)) lo (V.heap.size + 1) (.agg #[.slice (some ⟨V.heap.size, 0, none⟩) 11 11, p, s, b]) ⟨List.replicate 11 0, nt zs⟩ := by
  have h0 := own11 V
  have hb : Below V.heap.size V (V.alloc (.cells (madeCells #[Value.int .i64 0] 11) 3)) := (Below.refl _ _).alloc (Nat.le_refl _) _
  have hl := lies_of h0 (by omega)
  have e := EO.mk' (e := ⟨List.replicate 11 0, nt zs⟩) (h0.base (base' := n) h2) (hl.mono h2 (by simp)) (h.below hb) h1 (show n ≤ V.heap.size + 1 by omega)
  exact e

set_option maxRecDepth 100000 in
set_option maxHeartbeats 3200000 in
theorem impl (w : World) (v : Value) (zs : List Int) (h : Sl w 1 v zs.length (nc zs)) (q : Bool) (hq : q = true ↔ ∀ z ∈ zs, P8 z) :
    Calls Try.prog 44 #[v] w fun e w' => ∃ r, e = .returned (.tuple #[r, .int .i64 (nwC zs q)]) ∧ EO w' w.heap.size w'.heap.size r (neE zs q) ∧ Below w.heap.size w w' := by
  have hmk := run_make_row' (P := Try.prog) 22 3 (.int .i64 0) 8 Try.underlying22 LawN.info3 rfl .i64 .i64 11 (by omega) (by omega)
  simp only [Int.cast_ofNat_Int] at hmk
  obtain ⟨U, e1, hb, hz, X⟩ := box4 w 77 (.slice none 0 0) (.slice none 0 0) (.slice none 0 0) (.slice none 0 0)
  obtain ⟨G, eG⟩ : ∃ G, w.heap.size = G := ⟨_, rfl⟩
  have HN := Lib.hid (NewO.impl U v zs (h.below hb) q hq)
  have HB := Lib.hid hb
  have HZ := Lib.hid hz
  have HG := Lib.hid eG
  rw [eG] at X
  have HX := Lib.hid X
  obtain ⟨c0, c1, c2, c3, f0, f1, f2, f3⟩ := X
  obtain ⟨a, cap, rfl, _, m2⟩ := h.form
  have HBE := Lib.hid (bad_e (zs := zs) (q := q))
  have HOE := Lib.hid (ok_e (zs := zs) (q := q))
  have HBO := Lib.hid (bad_c (zs := zs) (q := q))
  have HOO := Lib.hid (ok_c (zs := zs) (q := q))
  obtain ⟨C, eC⟩ : ∃ C, nwC zs q = C := ⟨_, rfl⟩
  rw [eC] at HBE HOE HBO HOO HN ⊢
  clear hb hz h hq eC
  by_cases hc : C = 0
  · have HE := Lib.hid (HOE.out hc)
    have HO := Lib.hid (HOO.out hc)
    subst hc
    rw [HO.out] at HN
    rw [HE.out]
    clear HBE HOE HBO HOO
    go_enter Try.func44, Try.ntmps44
    go_wp2_with fail
    clear e1 eG c0 c1 c2 c3 f0 f1 f2 f3
    refine HN.out.mono ?_
    rintro e w1 ⟨r, rfl, ho, hb1⟩
    have HX1 := Lib.hid (HX.out.below hb1)
    have HB1 := Lib.hid (HB.out.trans (hb1.mono HB.out.size))
    have HZ1 := Lib.hid hb1.size
    obtain ⟨ap, cp, as5, cs, ab, cb, rfl⟩ := form ho.rd
    obtain ⟨V, eV, hbV, hzV, Y⟩ := box3 w1 31 (.slice ap (nt zs).pos.length cp) (.slice as5 (nt zs).st.length cs) (.slice ab (nt zs).bk.length cb)
    obtain ⟨K, eK⟩ : ∃ K, w1.heap.size = K := ⟨_, rfl⟩
    have XV := (HX1.out.below hbV)
    have hgv : G < V.heap.size := XV.lt
    have hgu : G < U.heap.size := by have := HZ.out; have := HG.out; omega
    obtain ⟨F, eF, XF, hsF, hbF, hrF⟩ := put4 XV (.slice (some ⟨V.heap.size, 0, none⟩) 11 11) (.slice ap (nt zs).pos.length cp) (.slice as5 (nt zs).st.length cs) (.slice ab (nt zs).bk.length cb)
    have he := new_enc (hrF _ _ _ _ (ho.below hbV) (.inl hgu)) (by have := HZ1.out; omega) (by have := hbV.size; omega)
    rw [hsF] at he
    have HE1 := Lib.hid he
    have HFW := Lib.hid (show Below w.heap.size w F from (HB1.out.trans (hbV.mono HB1.out.size)).trans (hbF _ (by have := HG.out; omega)))
    have HSF := Lib.hid hsF
    have HZV := Lib.hid (show w.heap.size ≤ U.heap.size ∧ w.heap.size ≤ V.heap.size from ⟨HB.out.size, by have := HB1.out.size; have := hbV.size; omega⟩)
    have HEF := Lib.hid eF
    rw [eK] at Y
    have hgk : ¬ G = K := by have := HZ1.out; omega
    have hkg : ¬ K = G := fun e => hgk e.symm
    have hkv : K < V.heap.size := Y.lt
    have HFY := Lib.hid (show ∀ o : Obj, B4 ((F.alloc o).drew) G (.slice (some ⟨V.heap.size, 0, none⟩) 11 11) (.slice ap (nt zs).pos.length cp) (.slice as5 (nt zs).st.length cs) (.slice ab (nt zs).bk.length cb) from fun o => XF.below (((Below.refl _ _).alloc (Nat.le_refl _) _).drew))
    obtain ⟨y0, y1, y2, _, _, _⟩ := Y
    obtain ⟨x0, x1, x2, x3, j0, j1, j2, j3⟩ := XV
    clear ho hb1 hbV hzV he HN hsF hbF hrF XF hgu eF
    go_upto_region 4 with fail
    go_region_held3 (fun w' => w'.cell? ⟨K, 0, none⟩ = some (.slice ap (nt zs).pos.length cp) ∧ w'.cell? ⟨K, 1, none⟩ = some (.slice as5 (nt zs).st.length cs) ∧ w'.cell? ⟨K, 2, none⟩ = some (.slice ab (nt zs).bk.length cb))
      (first | exact ⟨y0, y1, y2⟩ | (refine ⟨?_, ?_, ?_⟩ <;> go_simp))
      (fail)
    rw [HEF.out]
    obtain ⟨R0, R1, R2, R3, _, _, _, _⟩ := HFY.out (.cells (madeCells #[Value.int .i64 0] 11) 3)
    go_wp2
    refine bodyPost_ret (v := .tuple #[.agg #[.slice (some ⟨V.heap.size, 0, none⟩) 11 11, .slice ap (nt zs).pos.length cp, .slice as5 (nt zs).st.length cs, .slice ab (nt zs).bk.length cb], .int .i64 0]) (by simp [results, Try.results44, go_sem, R0, R1, R2, R3]) rfl ⟨_, rfl, ?_, ?_⟩
    · refine ((HE1.out.wide (lo' := w.heap.size) (hi' := V.heap.size + 1) HZV.out.1 (Nat.le_refl _)).below ((Below.refl _ _).drew)).wide (Nat.le_refl _) ?_
      have := HSF.out
      simp
      omega
    · exact (HFW.out.alloc (by have := HSF.out; have := HZV.out; omega) _).drew
  · have HE := Lib.hid (HBE.out hc)
    have HO := Lib.hid (HBO.out hc)
    rw [HO.out] at HN
    rw [HE.out]
    have d1 : (C != 0) = true := bne_iff_ne.2 hc
    clear HBE HOE HBO HOO hc
    go_enter Try.func44, Try.ntmps44
    go_wp2_with fail
    clear e1 eG c0 c1 c2 c3 f0 f1 f2 f3
    refine HN.out.mono ?_
    rintro e w1 ⟨r, rfl, ho, hb1⟩
    have HB1 := Lib.hid (HB.out.trans (hb1.mono HB.out.size))
    obtain ⟨ap, cp, as5, cs, ab, cb, rfl⟩ := form ho.rd
    obtain ⟨V, eV, hbV, hzV, Y⟩ := box3 w1 31 (.slice ap zt.pos.length cp) (.slice as5 zt.st.length cs) (.slice ab zt.bk.length cb)
    have XV := (HX.out.below hb1).below hbV
    have hl : G < V.heap.size := XV.lt
    obtain ⟨F, eF, hF, XF, hsF, hbF⟩ := put_enc (eO_zero V V.heap.size V.heap.size) (.inl hl) XV
    have HFE := Lib.hid (show EO F w.heap.size F.heap.size _ ⟨[], zt⟩ from eO_zero F w.heap.size F.heap.size)
    have HFB := Lib.hid (show Below w.heap.size w F from (HB1.out.trans (hbV.mono HB1.out.size)).trans (hbF _ (by have := HG.out; omega)))
    obtain ⟨x0, x1, x2, x3, _, _, _, _⟩ := XV
    obtain ⟨R0, R1, R2, R3, _, _, _, _⟩ := XF
    obtain ⟨y0, y1, y2, _, _, _⟩ := Y
    clear ho hb1 hbV hzV hl hF hsF hbF HN
    go_wp2_with fail
    refine bodyPost_ret (v := .tuple #[.agg #[.slice none 0 0, .slice none 0 0, .slice none 0 0, .slice none 0 0], .int .i64 C]) (by simp [results, Try.results44, go_sem, R0, R1, R2, R3]) rfl ⟨_, rfl, HFE.out, HFB.out⟩
set_option maxRecDepth 100000 in
set_option maxHeartbeats 3200000 in
theorem spec (w : World) (v : Value) (zs : List Int) (h : Sl w 1 v zs.length (nc zs)) (q : Bool) (hq : q = true ↔ ∀ z ∈ zs, P8 z) :
    Calls Try.prog 42 #[v] w fun e w' => ∃ r, e = .returned (.tuple #[r, .int .i64 (nwC zs q)]) ∧ EO w' w.heap.size w'.heap.size r (neE zs q) ∧ Below w.heap.size w w' := by
  have hmk := run_make_row' (P := Try.prog) 22 3 (.int .i64 0) 8 Try.underlying22 LawN.info3 rfl .i64 .i64 11 (by omega) (by omega)
  simp only [Int.cast_ofNat_Int] at hmk
  obtain ⟨U, e1, hb, hz, X⟩ := box4 w 77 (.slice none 0 0) (.slice none 0 0) (.slice none 0 0) (.slice none 0 0)
  obtain ⟨G, eG⟩ : ∃ G, w.heap.size = G := ⟨_, rfl⟩
  have HN := Lib.hid (NewO3.spec U v zs (h.below hb) q hq)
  have HB := Lib.hid hb
  have HZ := Lib.hid hz
  have HG := Lib.hid eG
  rw [eG] at X
  have HX := Lib.hid X
  obtain ⟨c0, c1, c2, c3, f0, f1, f2, f3⟩ := X
  obtain ⟨a, cap, rfl, _, m2⟩ := h.form
  have HBE := Lib.hid (bad_e (zs := zs) (q := q))
  have HOE := Lib.hid (ok_e (zs := zs) (q := q))
  have HBO := Lib.hid (bad_c (zs := zs) (q := q))
  have HOO := Lib.hid (ok_c (zs := zs) (q := q))
  obtain ⟨C, eC⟩ : ∃ C, nwC zs q = C := ⟨_, rfl⟩
  rw [eC] at HBE HOE HBO HOO HN ⊢
  have HC2 := Lib.hid (show 4096 < zs.length → C = 2 from fun hl => by rw [← eC]; unfold nwC; rw [if_pos hl])
  clear hb hz h hq eC
  by_cases hl : 4096 < zs.length
  · obtain rfl := HC2.out hl
    rw [HBE.out (by decide)]
    have hgu : G < U.heap.size := HX.out.lt
    obtain ⟨F, eF, hF, XF, hsF, hbF⟩ := put_enc (eO_zero U U.heap.size U.heap.size) (.inl hgu) HX.out
    have HFE := Lib.hid (show EO F w.heap.size F.heap.size _ ⟨[], zt⟩ from eO_zero F w.heap.size F.heap.size)
    have HFB := Lib.hid (show Below w.heap.size w F from HB.out.trans (hbF _ (by have := HG.out; omega)))
    obtain ⟨R0, R1, R2, R3, _, _, _, _⟩ := XF
    clear hgu hF hsF hbF HN HBE HOE HBO HOO
    go_enter Try.func42, Try.ntmps42
    go_wp2_with fail
    refine bodyPost_ret (v := .tuple #[.agg #[.slice none 0 0, .slice none 0 0, .slice none 0 0, .slice none 0 0], .int .i64 2]) (by simp [results, Try.results42, go_sem, R0, R1, R2, R3]) rfl ⟨_, rfl, by first | exact HFE.out | (rw [← HG.out]; exact HFE.out), by first | exact HFB.out | (rw [← HG.out]; exact HFB.out)⟩
  by_cases hc : C = 0
  · have HE := Lib.hid (HOE.out hc)
    have HO := Lib.hid (HOO.out hc)
    subst hc
    rw [HO.out] at HN
    rw [HE.out]
    clear HBE HOE HBO HOO
    go_enter Try.func42, Try.ntmps42
    go_wp2_with fail
    clear e1 eG c0 c1 c2 c3 f0 f1 f2 f3
    refine HN.out.mono ?_
    rintro e w1 ⟨r, rfl, ho, hb1⟩
    have HX1 := Lib.hid (HX.out.below hb1)
    have HB1 := Lib.hid (HB.out.trans (hb1.mono HB.out.size))
    have HZ1 := Lib.hid hb1.size
    obtain ⟨ap, cp, as5, cs, ab, cb, rfl⟩ := form ho.rd
    obtain ⟨V, eV, hbV, hzV, Y⟩ := box3 w1 31 (.slice ap (nt zs).pos.length cp) (.slice as5 (nt zs).st.length cs) (.slice ab (nt zs).bk.length cb)
    obtain ⟨K, eK⟩ : ∃ K, w1.heap.size = K := ⟨_, rfl⟩
    have XV := (HX1.out.below hbV)
    have hgv : G < V.heap.size := XV.lt
    have hgu : G < U.heap.size := by have := HZ.out; have := HG.out; omega
    obtain ⟨F, eF, XF, hsF, hbF, hrF⟩ := put4 XV (.slice (some ⟨V.heap.size, 0, none⟩) 11 11) (.slice ap (nt zs).pos.length cp) (.slice as5 (nt zs).st.length cs) (.slice ab (nt zs).bk.length cb)
    have he := new_enc (hrF _ _ _ _ (ho.below hbV) (.inl hgu)) (by have := HZ1.out; omega) (by have := hbV.size; omega)
    rw [hsF] at he
    have HE1 := Lib.hid he
    have HFW := Lib.hid (show Below w.heap.size w F from (HB1.out.trans (hbV.mono HB1.out.size)).trans (hbF _ (by have := HG.out; omega)))
    have HSF := Lib.hid hsF
    have HZV := Lib.hid (show w.heap.size ≤ U.heap.size ∧ w.heap.size ≤ V.heap.size from ⟨HB.out.size, by have := HB1.out.size; have := hbV.size; omega⟩)
    have HEF := Lib.hid eF
    rw [eK] at Y
    have hgk : ¬ G = K := by have := HZ1.out; omega
    have hkg : ¬ K = G := fun e => hgk e.symm
    have hkv : K < V.heap.size := Y.lt
    have HFY := Lib.hid (show ∀ o : Obj, B4 ((F.alloc o).drew) G (.slice (some ⟨V.heap.size, 0, none⟩) 11 11) (.slice ap (nt zs).pos.length cp) (.slice as5 (nt zs).st.length cs) (.slice ab (nt zs).bk.length cb) from fun o => XF.below (((Below.refl _ _).alloc (Nat.le_refl _) _).drew))
    obtain ⟨y0, y1, y2, _, _, _⟩ := Y
    obtain ⟨x0, x1, x2, x3, j0, j1, j2, j3⟩ := XV
    clear ho hb1 hbV hzV he HN hsF hbF hrF XF hgu eF
    go_upto_region 6 with fail
    go_region_held3 (fun w' => w'.cell? ⟨K, 0, none⟩ = some (.slice ap (nt zs).pos.length cp) ∧ w'.cell? ⟨K, 1, none⟩ = some (.slice as5 (nt zs).st.length cs) ∧ w'.cell? ⟨K, 2, none⟩ = some (.slice ab (nt zs).bk.length cb))
      (first | exact ⟨y0, y1, y2⟩ | (refine ⟨?_, ?_, ?_⟩ <;> go_simp))
      (fail)
    rw [HEF.out]
    obtain ⟨R0, R1, R2, R3, _, _, _, _⟩ := HFY.out (.cells (madeCells #[Value.int .i64 0] 11) 3)
    go_wp2
    refine bodyPost_ret (v := .tuple #[.agg #[.slice (some ⟨V.heap.size, 0, none⟩) 11 11, .slice ap (nt zs).pos.length cp, .slice as5 (nt zs).st.length cs, .slice ab (nt zs).bk.length cb], .int .i64 0]) (by simp [results, Try.results42, go_sem, R0, R1, R2, R3]) rfl ⟨_, rfl, ?_, ?_⟩
    · refine ((HE1.out.wide (lo' := w.heap.size) (hi' := V.heap.size + 1) HZV.out.1 (Nat.le_refl _)).below ((Below.refl _ _).drew)).wide (Nat.le_refl _) ?_
      have := HSF.out
      simp
      omega
    · exact (HFW.out.alloc (by have := HSF.out; have := HZV.out; omega) _).drew
  · have HE := Lib.hid (HBE.out hc)
    have HO := Lib.hid (HBO.out hc)
    rw [HO.out] at HN
    rw [HE.out]
    have d1 : (C != 0) = true := bne_iff_ne.2 hc
    clear HBE HOE HBO HOO hc
    go_enter Try.func42, Try.ntmps42
    go_wp2_with fail
    clear e1 eG c0 c1 c2 c3 f0 f1 f2 f3
    refine HN.out.mono ?_
    rintro e w1 ⟨r, rfl, ho, hb1⟩
    have HB1 := Lib.hid (HB.out.trans (hb1.mono HB.out.size))
    obtain ⟨ap, cp, as5, cs, ab, cb, rfl⟩ := form ho.rd
    obtain ⟨V, eV, hbV, hzV, Y⟩ := box3 w1 31 (.slice ap zt.pos.length cp) (.slice as5 zt.st.length cs) (.slice ab zt.bk.length cb)
    have XV := (HX.out.below hb1).below hbV
    have hl : G < V.heap.size := XV.lt
    obtain ⟨F, eF, hF, XF, hsF, hbF⟩ := put_enc (eO_zero V V.heap.size V.heap.size) (.inl hl) XV
    have HFE := Lib.hid (show EO F w.heap.size F.heap.size _ ⟨[], zt⟩ from eO_zero F w.heap.size F.heap.size)
    have HFB := Lib.hid (show Below w.heap.size w F from (HB1.out.trans (hbV.mono HB1.out.size)).trans (hbF _ (by have := HG.out; omega)))
    obtain ⟨x0, x1, x2, x3, _, _, _, _⟩ := XV
    obtain ⟨R0, R1, R2, R3, _, _, _, _⟩ := XF
    obtain ⟨y0, y1, y2, _, _, _⟩ := Y
    clear ho hb1 hbV hzV hl hF hsF hbF HN
    go_wp2_with fail
    refine bodyPost_ret (v := .tuple #[.agg #[.slice none 0 0, .slice none 0 0, .slice none 0 0, .slice none 0 0], .int .i64 C]) (by simp [results, Try.results42, go_sem, R0, R1, R2, R3]) rfl ⟨_, rfl, HFE.out, HFB.out⟩
end Go.Proofs.Ytealdpkgfmokpaa.NewE
