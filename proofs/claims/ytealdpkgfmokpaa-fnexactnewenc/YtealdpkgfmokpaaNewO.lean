/-
  What is proved: the program's and the model's new trees are the plain one, of the call's own (contracts for the walks).
-/
import Derived.Test.YtealdpkgfmokpaaRows
import Derived.Test.YtealdpkgfmokpaaOkS2
import Derived.Deep.OwnRows
import Derived.Deep.RegionHeld3
namespace Go.Proofs.Ytealdpkgfmokpaa.NewO
open Go.ChangeShapes Go.WideShapes Go.ChangeAt Go.RowKit
open Sl (Sl Own Off)
open OpenSl (tc nc pc)
open Dev Orm Wy Box3 OkP Cop
set_option linter.unusedVariables false

theorem int_one (zs : List Int) (j : Nat) : (nc zs j).oneCell' = true := rfl
set_option maxRecDepth 100000 in
set_option maxHeartbeats 800000 in
theorem clone (w : World) (v : Value) (xs : List Int) (h : Sl w 1 v xs.length (nc xs)) (hn : xs.length ≤ 1048576) :
    Calls Try.prog 110 #[v] w fun e w' => ∃ a cap, e = .returned (.slice a xs.length cap) ∧ Own w' w.heap.size 1 (.slice a xs.length cap) xs.length (nc xs) ∧ Below w.heap.size w w' := by
  obtain ⟨a, cap, rfl, h1, h2⟩ := h.form
  have HS := Lib.hid h
  have HN : Hid (a = none → xs.length = 0) := Lib.hid fun e => by
    subst e
    by_cases h0 : 0 < xs.length
    · obtain ⟨b, o, hb, _⟩ := h.at h0; cases hb
    · omega
  clear h
  unfold maxLen at h2
  have heq := fun u => Go.run_eql_slice_nil (P := Try.prog) u 22 3 a xs.length cap Try.underlying22
  cases a with
  | none =>
    have h0 := HN.out rfl
    rw [h0] at heq
    have HZ := Lib.hid h0
    go_enter Try.func110, Try.ntmps110
    go_wp2
    go_ret
    exact ⟨none, 0, rfl, ⟨none, 0, rfl, Nat.le_refl _, by unfold maxLen; omega, fun h => absurd h (by omega)⟩, Below.refl _ _⟩
  | some x =>
    go_enter Try.func110, Try.ntmps110
    have HB0 := Lib.hid ((Below.refl w.heap.size w).alloc (Nat.le_refl _) (.cells #[] 3))
    have HM := Lib.hid (World.ownsRow_made (base := w.heap.size) (e := 3) (size := 1) w #[] 0 (Nat.le_refl _) (by unfold maxLen; omega) rfl)
    go_wp2_with (at_builtin; refine wpList_appR _ rfl (.tmp 5) (.tmp 6) 22 rfl w.heap.size 3 1 8 _ Try.underlying22 LawN.info3 rfl (by omega) (.slice (some ⟨w.heap.size, 0, none⟩) 0 0) (by simp [Act.eval]) 0 [] HM.out HB0.out.size (.slice (some x) xs.length cap) (by simp [Act.eval]) xs.length (nc xs) (HS.out.below HB0.out) (fun j _ => int_one xs j) (by unfold maxLen; omega) (by omega) ?_; intro a' cap' w' ho hb; rw [Nat.zero_add, List.nil_append] at ho; rw [Nat.zero_add]; have HO := Lib.hid ho; have HB := Lib.hid hb; clear ho hb)
    go_ret
    exact ⟨_, _, rfl, row_own HO.out, HB0.out.grown HB.out (by simp) (fun k hk => by cases hk; exact Nat.le_refl _)⟩

/-- A new tree: no block is anywhere. -/
def nt (zs : List Int) : Om := ⟨zs, [], List.replicate 15 []⟩
def zt : Om := ⟨[], [], []⟩
def nwC (zs : List Int) (q : Bool) : Int := if 4096 < zs.length then 2 else if zs.length = 12 then if q = true then 0 else 4 else 8
def nwO (zs : List Int) (q : Bool) : Om := if nwC zs q = 0 then nt zs else zt
theorem rdO_zero (w : World) (lo hi : Nat) : RdO w lo hi (.agg #[.slice none 0 0, .slice none 0 0, .slice none 0 0]) zt :=
  have e : ∀ sz (c : Nat → Value), Own w lo sz (.slice none 0 0) 0 c := fun sz c => ⟨none, 0, rfl, Nat.le_refl _, by unfold maxLen; omega, fun h => absurd h (by omega)⟩
  ⟨_, _, _, fun _ => .slice none 0 0, rfl, e _ _, e _ _, ⟨e _ _, fun j hj => absurd hj (by simp [zt]), fun j hj => absurd hj (by simp [zt]), fun i j hi => absurd hi (by simp [zt])⟩, ⟨apart_empty _ _ _, apart_empty _ _ _, apart_empty _ _ _, fun j hj => absurd hj (by simp [zt]), fun j hj => absurd hj (by simp [zt])⟩, lies_nil _ _ _ _, lies_nil _ _ _ _, lies_nil _ _ _ _, fun j hj => absurd hj (by simp [zt])⟩
theorem nt_bk (zs : List Int) (j : Nat) : (nt zs).bk.getD j [] = [] := by
  unfold nt
  show (List.replicate 15 ([] : List Bk)).getD j [] = []
  rw [List.getD_eq_getElem?_getD, List.getElem?_replicate]
  split <;> rfl
theorem nt_len (zs : List Int) : (nt zs).bk.length = 15 := by simp [nt]
/-- A new tree's parts make it. -/
theorem rdO_new {w : World} {lo hi : Nat} {zs : List Int} {p s b : Value} {c : Nat → Value} (hp : Own w lo 1 p zs.length (nc zs)) (hs : ∃ a cap, s = .slice a 0 cap ∧ cap ≤ maxLen) (hb : Own w lo 1 b 15 c) (hc : ∀ j, j < 15 → c j = .slice none 0 0) (ha : Apart p b) (h1 : Lies lo hi p) (h2 : Lies lo hi b) : RdO w lo hi (.agg #[p, s, b]) (nt zs) := by
  obtain ⟨a, cap, rfl, hcap⟩ := hs
  refine ⟨p, _, b, fun _ => .slice none 0 0, rfl, hp, ⟨a, cap, rfl, Nat.zero_le _, hcap, fun h => absurd h (by simp [nt])⟩, ⟨?_, fun j hj => ?_, fun j hj => apart_empty _ _ _, fun i j hi hj hn => apart_empty _ _ _⟩, ⟨apart_empty _ _ _, ha, (apart_empty b a cap).symm, fun j hj => apart_empty _ _ _, fun j hj => apart_empty _ _ _⟩, h1, lies_nil _ _ _ _, h2, fun j hj => lies_nil _ _ _ _⟩
  · rw [nt_len]
    exact hb.congr fun j hj => hc j (by omega)
  · rw [nt_bk]
    exact ⟨none, 0, rfl, Nat.le_refl _, by unfold maxLen; omega, fun h => absurd h (by simp)⟩
theorem made15 (w : World) : ∃ g o w1, (Instr.makeSlice 29 (.int .i64 15) (.int .i64 15)).run Try.prog w = .ok (.slice (some ⟨g, o, none⟩) 15 15) w1 ∧ Own w1 w.heap.size 1 (.slice (some ⟨g, o, none⟩) 15 15) 15 (fun _ => .slice none 0 0) ∧ Below w.heap.size w w1 := by
  have := made (P := Try.prog) w 29 28 1 (.slice none 0 0) 24 Try.underlying29 LawO2.infoBS 15 (by omega) (by unfold maxLen; omega) (fun _ => .slice none 0 0) (LawS.made_one _ rfl 15)
  exact this
/-- A tree is stored into a place that is none of its own. -/
theorem put_or {u : World} {lo hi : Nat} {a b c : Value} {o : Om} (h : RdO u lo hi (.agg #[a, b, c]) o) {g : Nat} (hg : g < lo ∨ hi ≤ g) {x y z : Value} (X : Bx u g x y z) :
    ∃ F, ((u.setCell ⟨g, 0, none⟩ a).setCell ⟨g, 1, none⟩ b).setCell ⟨g, 2, none⟩ c = F ∧ RdO F lo hi (.agg #[a, b, c]) o ∧ Bx F g a b c ∧ F.heap.size = u.heap.size ∧ ∀ B, B ≤ g → Below B u F :=
  ⟨_, rfl, rdO_set_off (rdO_set_off (rdO_set_off h hg 0 a) hg 1 b) hg 2 c, ((X.set0 a).set1 b).set2 c, by simp, fun B hB => (((Below.refl B u).setCell (p := ⟨g, 0, none⟩) hB a).setCell (p := ⟨g, 1, none⟩) hB b).setCell (p := ⟨g, 2, none⟩) hB c⟩

theorem ga {w w' : World} {G : Nat} (h : w.grownBy w' (some G)) (o : Obj) : w.grownBy (w'.alloc o) (some G) := Src.grown_then h (World.grownBy_alloc w' o (some G)) (fun _ _ => .inr rfl)
theorem gs {w w' : World} {G : Nat} (h : w.grownBy w' (some G)) (j : Nat) (v : Value) : w.grownBy (w'.setCell ⟨G, j, none⟩ v) (some G) := Src.grown_set h j v
theorem gb {w x u : World} {G : Nat} (hb : Below x.heap.size x u) (h : w.grownBy x (some G)) : w.grownBy u (some G) := Src.grown_then h (OkI2.grown_below hb G) (fun _ _ => .inr rfl)
theorem gr (w : World) (G : Nat) : w.grownBy w (some G) := ⟨rfl, rfl, rfl, Nat.le_refl _, fun _ _ _ => rfl⟩
/-- A made row of fifteen nil lists. -/
theorem own15 (x : World) : Own (x.alloc (.cells (madeCells #[Value.slice none 0 0] 15) 28)) x.heap.size 1 (.slice (some ⟨x.heap.size, 0, none⟩) 15 15) 15 (fun _ => .slice none 0 0) := by
  refine ⟨_, 15, rfl, Nat.le_refl _, by unfold maxLen; omega, fun _ => ⟨x.heap.size, 0, rfl, Nat.le_refl _, fun j hj => ⟨?_, frozen_of_row _ x.heap.size _ _ 28 (heap_alloc_new x _)⟩⟩⟩
  rw [cell_of_row _ x.heap.size _ _ 28 (0, 0) (heap_alloc_new x _), Nat.zero_add]
  exact LawS.made_one (.slice none 0 0) rfl 15 j (by omega)
theorem bad_c {zs : List Int} {q : Bool} (h : nwC zs q ≠ 0) : nwO zs q = zt := by unfold nwO; rw [if_neg h]
theorem ok_c {zs : List Int} {q : Bool} (h : nwC zs q = 0) : nwO zs q = nt zs := by unfold nwO; rw [if_pos h]

set_option maxRecDepth 100000 in
set_option maxHeartbeats 3200000 in
theorem impl (w : World) (v : Value) (zs : List Int) (h : Sl w 1 v zs.length (nc zs)) (q : Bool) (hq : q = true ↔ ∀ z ∈ zs, P8 z) :
    Calls Try.prog 96 #[v] w fun e w' => ∃ r, e = .returned (.tuple #[r, .int .i64 (nwC zs q)]) ∧ RdO w' w.heap.size w'.heap.size r (nwO zs q) ∧ Below w.heap.size w w' := by
  have hmk := run_make_row' (P := Try.prog) 29 28 (.slice none 0 0) 24 Try.underlying29 LawO2.infoBS rfl .i64 .i64 15 (by omega) (by omega)
  simp only [Int.cast_ofNat_Int] at hmk
  have HP := Lib.hid (fun u x (hx : Sl u 1 x zs.length (nc zs)) => OkI.arePaths u x zs hx q hq)
  have HCL := Lib.hid (fun u x (hx : Sl u 1 x zs.length (nc zs)) (hn : zs.length ≤ 1048576) => clone u x zs hx hn)
  obtain ⟨U, e1, hb, hz, X⟩ := box3 w 31 (.slice none 0 0) (.slice none 0 0) (.slice none 0 0)
  obtain ⟨G, eG⟩ : ∃ G, w.heap.size = G := ⟨_, rfl⟩
  have H1 := Lib.hid (h.below hb)
  have HB := Lib.hid hb
  have HBX := Lib.hid (fun u (hb : Below U.heap.size U u) => X.below hb)
  have HX0 := Lib.hid X
  rw [eG] at X HBX HX0
  have HG := Lib.hid eG
  have lG : G < U.heap.size := by omega
  have HLG := Lib.hid lG
  obtain ⟨F, eF, hF, XF, hsz, hbF⟩ := put_or (rdO_zero U U.heap.size U.heap.size) (.inl lG) HX0.out
  have HF := Lib.hid hF
  have HFB := Lib.hid (show Below w.heap.size w F from hb.trans (hbF _ (by omega)))
  have HFZ := Lib.hid hsz
  obtain ⟨a, cap, rfl, _, m2⟩ := h.form
  unfold maxLen at m2
  have HC := Lib.hid (show nwC zs q = nwC zs q from rfl)
  obtain ⟨r0, r1, r2, _, _, _⟩ := XF
  have HZT := Lib.hid (show RdO F w.heap.size F.heap.size (.agg #[.slice none 0 0, .slice none 0 0, .slice none 0 0]) zt from rdO_zero _ _ _)
  by_cases hl : 4096 < zs.length
  · have hc : nwC zs q = 2 := by unfold nwC; rw [if_pos hl]
    rw [hc, bad_c (by rw [hc]; decide)]
    obtain ⟨c0, c1, c2, f0, f1, f2⟩ := X
    clear hc h hb hz hF hbF hq
    go_enter Try.func96, Try.ntmps96
    go_wp2_with fail
    refine bodyPost_ret (v := .tuple #[.agg #[.slice none 0 0, .slice none 0 0, .slice none 0 0], .int .i64 2]) (by simp [results, Try.results96, go_sem, r0, r1, r2]) rfl ⟨_, rfl, by first | exact HZT.out | (rw [← HG.out]; exact HZT.out), by first | exact HFB.out | (rw [← HG.out]; exact HFB.out)⟩
  by_cases hl2 : zs.length = 12
  case neg =>
    have hc : nwC zs q = 8 := by unfold nwC; rw [if_neg hl, if_neg hl2]
    rw [hc, bad_c (by rw [hc]; decide)]
    have d1 : ((zs.length : Int) != 12) = true := bne_iff_ne.2 (by omega)
    obtain ⟨c0, c1, c2, f0, f1, f2⟩ := X
    clear hc h hb hz hF hbF hq
    go_enter Try.func96, Try.ntmps96
    go_wp2_with fail
    refine bodyPost_ret (v := .tuple #[.agg #[.slice none 0 0, .slice none 0 0, .slice none 0 0], .int .i64 8]) (by simp [results, Try.results96, go_sem, r0, r1, r2]) rfl ⟨_, rfl, by first | exact HZT.out | (rw [← HG.out]; exact HZT.out), by first | exact HFB.out | (rw [← HG.out]; exact HFB.out)⟩
  have HL := Lib.hid hl2
  have d1 : ((zs.length : Int) != 12) = false := by rw [hl2]; rfl
  cases q with
  | false =>
    have hc : nwC zs false = 4 := by unfold nwC; rw [if_neg hl, if_pos hl2, if_neg (by decide)]
    rw [hc, bad_c (by rw [hc]; decide)]
    have hlz : zs.length ≤ 12 := by omega
    obtain ⟨c0, c1, c2, f0, f1, f2⟩ := X
    clear hc h hb hz hF hbF hq hl2
    go_enter Try.func96, Try.ntmps96
    go_wp2_with fail
    refine (HP.out _ _ H1.out).mono ?_
    rintro e w1 ⟨rfl, rfl⟩
    go_wp2_with fail
    refine bodyPost_ret (v := .tuple #[.agg #[.slice none 0 0, .slice none 0 0, .slice none 0 0], .int .i64 4]) (by simp [results, Try.results96, go_sem, r0, r1, r2]) rfl ⟨_, rfl, by first | exact HZT.out | (rw [← HG.out]; exact HZT.out), by first | exact HFB.out | (rw [← HG.out]; exact HFB.out)⟩
  | true =>
    have hc : nwC zs true = 0 := by unfold nwC; rw [if_neg hl, if_pos hl2, if_pos rfl]
    rw [hc, ok_c hc]
    have hlz : zs.length ≤ 12 := by omega
    obtain ⟨c0, c1, c2, f0, f1, f2⟩ := X
    clear hc h hb hz hq hl2 r0 r1 r2 HZT HFB HF HFZ eF hsz hF hbF
    go_enter Try.func96, Try.ntmps96
    go_wp2_with fail
    refine (HP.out _ _ H1.out).mono ?_
    rintro e w1 ⟨rfl, rfl⟩
    go_wp2_with fail
    clear e1 eG
    go_region_held3 (fun _ => True)
      (trivial)
      ((go_at_call 110; refine (HCL.out _ _ (H1.out.below (by repeat (with_reducible (first | exact Below.refl _ _ | refine Below.drew ?_ | refine below_drewN ?_ _ | refine Below.alloc ?_ (by first | exact Nat.le_refl _ | omega | (simp; done) | (simp; omega)) _)))) (by omega)).mono ?_; rintro e u1 ⟨a1, cap1, rfl, ho1, hb1⟩; have HO1 := Lib.hid ho1; have HF1 := Lib.hid hb1; have HE1 : Hid (Below w1.heap.size w1 u1) := Lib.hid (Below.trans (by repeat (with_reducible (first | exact Below.refl _ _ | refine Below.drew ?_ | refine below_drewN ?_ _ | refine Below.alloc ?_ (by first | exact Nat.le_refl _ | omega | (simp; done) | (simp; omega)) _))) (hb1.mono (by first | exact Nat.le_refl _ | omega | (simp; done) | (simp; omega)))); obtain ⟨g0, g1, g2, g3, g4, g5⟩ := HBX.out u1 HE1.out; have hz1 := HE1.out.size; have lz1 : G < u1.heap.size := (by omega); clear ho1 hb1))
    · have HU := Lib.hid (show w.heap.size ≤ w1.heap.size ∧ w1.heap.size ≤ u1.heap.size from ⟨HB.out.size, HE1.out.size⟩)
      have HK := Lib.hid (show u1.grownBy (((u1.setCell ⟨G, 0, none⟩ (.slice a1 zs.length cap1)).setCell ⟨G, 1, none⟩ (.slice none 0 0)).setCell ⟨G, 2, none⟩ (.slice (some ⟨u1.heap.size, 0, none⟩) 15 15)) (some G) from gs (gs (gs (gr _ _) _ _) _ _) _ _)
      have HS := Lib.hid (show (((u1.setCell ⟨G, 0, none⟩ (.slice a1 zs.length cap1)).setCell ⟨G, 1, none⟩ (.slice none 0 0)).setCell ⟨G, 2, none⟩ (.slice (some ⟨u1.heap.size, 0, none⟩) 15 15)).heap.size = u1.heap.size by simp)
      have X2 := (((HBX.out u1 HE1.out).set0 (.slice a1 zs.length cap1)).set1 (.slice none 0 0)).set2 (.slice (some ⟨u1.heap.size, 0, none⟩) 15 15)
      generalize World.setCell (World.setCell (World.setCell _ _ _) _ _) _ _ = V at *
      have X3 := X2.below (w' := V.alloc (.cells (madeCells #[Value.slice none 0 0] 15) 28)) ((Below.refl _ _).alloc (Nat.le_refl _) _)
      have HKF := Lib.hid (ga HK.out (.cells (madeCells #[Value.slice none 0 0] 15) 28))
      have hb0 := own15 V
      rw [HS.out] at hb0
      have HBf0 := Lib.hid hb0
      generalize World.alloc V _ = Wf at *
      have HPf := Lib.hid ((HO1.out.base (base' := w.heap.size) (by have := HU.out; first | omega | (simp; omega))).grown HKF.out (own_low HO1.out G (by have := HLG.out; first | omega | (simp; omega))))
      have HBf := Lib.hid (HBf0.out.base (base' := w.heap.size) (by have := HU.out; omega))
      have HAP := Lib.hid (apart_of HO1.out.sl (by omega) HBf0.out (Nat.le_refl _))
      have HRR := Lib.hid (And.intro X3.c0 (And.intro X3.c1 X3.c2))
      clear hb0 X2 X3
      have HR := Lib.hid (rdO_new (s := .slice none 0 0) (lo := w.heap.size) (hi := Wf.heap.size) HPf.out ⟨none, 0, rfl, by unfold maxLen; omega⟩ HBf.out (fun j _ => rfl) HAP.out (lies_of HPf.out (by omega)) (lies_of HBf.out (by omega)))
      have HBW := Lib.hid (show Below w.heap.size w Wf from (HB.out.trans (HE1.out.mono HB.out.size)).grown HKF.out (by have := HU.out; omega) (fun k hk => by cases hk; have := HG.out; omega))
      obtain ⟨R0, R1, R2⟩ := HRR.out
      go_wp2
      refine bodyPost_ret (v := .tuple #[.agg #[.slice a1 zs.length cap1, .slice none 0 0, .slice (some ⟨u1.heap.size, 0, none⟩) 15 15], .int .i64 0]) (by simp [results, Try.results96, go_sem, R0, R1, R2]) rfl ⟨_, rfl, HR.out, HBW.out⟩
    · have HU := Lib.hid (show w.heap.size ≤ w1.heap.size ∧ w1.heap.size < u1.heap.size from ⟨HB.out.size, by have := HF1.out.size; simp at this; omega⟩)
      have hb0 : Own u1 w1.heap.size 1 (.slice (some ⟨w1.heap.size, 0, none⟩) 15 15) 15 (fun _ => .slice none 0 0) := (own15 w1).below ⟨HF1.out.os, HF1.out.tape, HF1.out.output, HF1.out.size, HF1.out.block⟩
      have hap : Apart (.slice a1 zs.length cap1) (.slice (some ⟨w1.heap.size, 0, none⟩) 15 15) := (apart_of (own15 w1).sl (by omega) HO1.out (by first | exact Nat.le_refl _ | simp)).symm
      have HKF := Lib.hid (show u1.grownBy (((u1.setCell ⟨G, 0, none⟩ (.slice a1 zs.length cap1)).setCell ⟨G, 1, none⟩ (.slice none 0 0)).setCell ⟨G, 2, none⟩ (.slice (some ⟨w1.heap.size, 0, none⟩) 15 15)) (some G) from gs (gs (gs (gr _ _) _ _) _ _) _ _)
      have X3 := (((HBX.out u1 HE1.out).set0 (.slice a1 zs.length cap1)).set1 (.slice none 0 0)).set2 (.slice (some ⟨w1.heap.size, 0, none⟩) 15 15)
      generalize World.setCell (World.setCell (World.setCell _ _ _) _ _) _ _ = Wf at *
      have HPf := Lib.hid ((HO1.out.base (base' := w.heap.size) (by have := HU.out; first | omega | (simp; omega))).grown HKF.out (own_low HO1.out G (by have := HLG.out; first | omega | (simp; omega))))
      have HBf := Lib.hid ((hb0.base (base' := w.heap.size) (by have := HU.out; omega)).grown HKF.out (own_low hb0 G (by have := HLG.out; omega)))
      have HAP := Lib.hid hap
      have HRR := Lib.hid (And.intro X3.c0 (And.intro X3.c1 X3.c2))
      clear hb0 hap X3
      have HR := Lib.hid (rdO_new (s := .slice none 0 0) (lo := w.heap.size) (hi := Wf.heap.size) HPf.out ⟨none, 0, rfl, by unfold maxLen; omega⟩ HBf.out (fun j _ => rfl) HAP.out (lies_of HPf.out (by omega)) (lies_of HBf.out (by omega)))
      have HBW := Lib.hid (show Below w.heap.size w Wf from (HB.out.trans (HE1.out.mono HB.out.size)).grown HKF.out (by have := HU.out; omega) (fun k hk => by cases hk; have := HG.out; omega))
      obtain ⟨R0, R1, R2⟩ := HRR.out
      go_wp2
      refine bodyPost_ret (v := .tuple #[.agg #[.slice a1 zs.length cap1, .slice none 0 0, .slice (some ⟨w1.heap.size, 0, none⟩) 15 15], .int .i64 0]) (by simp [results, Try.results96, go_sem, R0, R1, R2]) rfl ⟨_, rfl, HR.out, HBW.out⟩
end Go.Proofs.Ytealdpkgfmokpaa.NewO
