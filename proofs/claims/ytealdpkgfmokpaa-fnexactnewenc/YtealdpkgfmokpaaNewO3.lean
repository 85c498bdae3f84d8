/-
  What is proved: the model's NewOram answers the plain one (a contract for the walks).
-/
import Derived.Test.YtealdpkgfmokpaaRows
import Derived.Test.YtealdpkgfmokpaaNewO
import Derived.Test.YtealdpkgfmokpaaNewO2
namespace Go.Proofs.Ytealdpkgfmokpaa.NewO3
open Go.ChangeShapes Go.WideShapes Go.ChangeAt Go.RowKit
open Sl (Sl Own Off)
open OpenSl (tc nc pc)
open Dev Orm Wy Box3 OkP Cop NewO NewO2
set_option linter.unusedVariables false

set_option maxRecDepth 100000 in
set_option maxHeartbeats 3200000 in
theorem spec (w : World) (v : Value) (zs : List Int) (h : Sl w 1 v zs.length (nc zs)) (q : Bool) (hq : q = true ↔ ∀ z ∈ zs, P8 z) :
    Calls Try.prog 95 #[v] w fun e w' => ∃ r, e = .returned (.tuple #[r, .int .i64 (nwC zs q)]) ∧ RdO w' w.heap.size w'.heap.size r (nwO zs q) ∧ Below w.heap.size w w' := by
  have HP := Lib.hid (fun u x (hx : Sl u 1 x zs.length (nc zs)) => OkS.l08Leaves u x zs hx q hq)
  obtain ⟨U, e1, hb, hz, X⟩ := box3 w 31 (.slice none 0 0) (.slice none 0 0) (.slice none 0 0)
  obtain ⟨G, eG⟩ : ∃ G, w.heap.size = G := ⟨_, rfl⟩
  have H1 := Lib.hid (h.below hb)
  have HB := Lib.hid hb
  have HBX := Lib.hid (fun u (hb : Below U.heap.size U u) => X.below hb)
  have HX0 := Lib.hid X
  rw [eG] at X HBX HX0
  have HG := Lib.hid eG
  have lG : G < U.heap.size := by omega
  have HLG := Lib.hid lG
  obtain ⟨F, eF, hF, XF, hsz, hbF⟩ := put_or (rdO_zero U U.heap.size U.heap.size) (.inl lG) HX0.out
  have HF := Lib.hid hF
  have HFB := Lib.hid (show Below w.heap.size w F from hb.trans (hbF _ (by omega)))
  have HFZ := Lib.hid hsz
  obtain ⟨a, cap, rfl, _, m2⟩ := h.form
  unfold maxLen at m2
  have HC := Lib.hid (show nwC zs q = nwC zs q from rfl)
  obtain ⟨r0, r1, r2, _, _, _⟩ := XF
  have HZT := Lib.hid (show RdO F w.heap.size F.heap.size (.agg #[.slice none 0 0, .slice none 0 0, .slice none 0 0]) zt from rdO_zero _ _ _)
  by_cases hl : 4096 < zs.length
  · have hc : nwC zs q = 2 := by unfold nwC; rw [if_pos hl]
    rw [hc, bad_c (by rw [hc]; decide)]
    obtain ⟨c0, c1, c2, f0, f1, f2⟩ := X
    clear hc h hb hz hF hbF hq
    go_enter Try.func95, Try.ntmps95
    go_wp2_with fail
    refine bodyPost_ret (v := .tuple #[.agg #[.slice none 0 0, .slice none 0 0, .slice none 0 0], .int .i64 2]) (by simp [results, Try.results95, go_sem, r0, r1, r2]) rfl ⟨_, rfl, by first | exact HZT.out | (rw [← HG.out]; exact HZT.out), by first | exact HFB.out | (rw [← HG.out]; exact HFB.out)⟩
  by_cases hl2 : zs.length = 12
  case neg =>
    have hc : nwC zs q = 8 := by unfold nwC; rw [if_neg hl, if_neg hl2]
    rw [hc, bad_c (by rw [hc]; decide)]
    have d1 : ((zs.length : Int) != 12) = true := bne_iff_ne.2 (by omega)
    obtain ⟨c0, c1, c2, f0, f1, f2⟩ := X
    clear hc h hb hz hF hbF hq
    go_enter Try.func95, Try.ntmps95
    go_wp2_with fail
    refine bodyPost_ret (v := .tuple #[.agg #[.slice none 0 0, .slice none 0 0, .slice none 0 0], .int .i64 8]) (by simp [results, Try.results95, go_sem, r0, r1, r2]) rfl ⟨_, rfl, by first | exact HZT.out | (rw [← HG.out]; exact HZT.out), by first | exact HFB.out | (rw [← HG.out]; exact HFB.out)⟩
  have HL := Lib.hid hl2
  have d1 : ((zs.length : Int) != 12) = false := by rw [hl2]; rfl
  cases q with
  | false =>
    have hc : nwC zs false = 4 := by unfold nwC; rw [if_neg hl, if_pos hl2, if_neg (by decide)]
    rw [hc, bad_c (by rw [hc]; decide)]
    have hlz : zs.length ≤ 12 := by omega
    obtain ⟨c0, c1, c2, f0, f1, f2⟩ := X
    clear hc h hb hz hF hbF hq hl2
    go_enter Try.func95, Try.ntmps95
    go_wp2_with fail
    refine (HP.out _ _ H1.out).mono ?_
    rintro e w1 ⟨rfl, rfl⟩
    go_wp2_with fail
    refine bodyPost_ret (v := .tuple #[.agg #[.slice none 0 0, .slice none 0 0, .slice none 0 0], .int .i64 4]) (by simp [results, Try.results95, go_sem, r0, r1, r2]) rfl ⟨_, rfl, by first | exact HZT.out | (rw [← HG.out]; exact HZT.out), by first | exact HFB.out | (rw [← HG.out]; exact HFB.out)⟩
  | true =>
    have hc : nwC zs true = 0 := by unfold nwC; rw [if_neg hl, if_pos hl2, if_pos rfl]
    rw [hc, ok_c hc]
    have hlz : zs.length ≤ 12 := by omega
    obtain ⟨c0, c1, c2, f0, f1, f2⟩ := X
    clear hc h hb hz hq hl2 r0 r1 r2 HZT HFB HF HFZ eF hsz hF hbF
    go_enter Try.func95, Try.ntmps95
    go_wp2_with fail
    refine (HP.out _ _ H1.out).mono ?_
    rintro e w1 ⟨rfl, rfl⟩
    go_wp2_with fail
    refine (l08New _ _ zs H1.out (by omega)).mono ?_
    rintro e u1 ⟨r, rfl, hr, hb1⟩
    obtain ⟨ap, cp, as5, cs, ab, cb, rfl⟩ := form hr.rd
    obtain ⟨F2, eF2, hF2, XF2, hsz2, hbF2⟩ := put_or hr (.inl lG) (HBX.out u1 hb1)
    have HFR := Lib.hid (show RdO F2 w.heap.size F2.heap.size _ (nt zs) from hF2.wide (by have := HB.out.size; omega) (by omega))
    have HFW := Lib.hid (show Below w.heap.size w F2 from (HB.out.trans (hb1.mono HB.out.size)).trans (hbF2 _ (by have := HG.out; omega)))
    obtain ⟨c0, c1, c2, f0, f1, f2⟩ := HBX.out u1 hb1
    obtain ⟨R0, R1, R2, _, _, _⟩ := XF2
    clear e1 eG hr hb1 hF2 hbF2
    go_wp2_with fail
    refine bodyPost_ret (v := .tuple #[.agg #[.slice ap (nt zs).pos.length cp, .slice as5 (nt zs).st.length cs, .slice ab (nt zs).bk.length cb], .int .i64 0]) (by simp [results, Try.results95, go_sem, R0, R1, R2]) rfl ⟨_, rfl, HFR.out, HFW.out⟩
end Go.Proofs.Ytealdpkgfmokpaa.NewO3
