/-
  What is proved: the law on ways (a way goes from the root to a leaf, each bucket being one of the two below the one ahead) returns true (the walk).
-/
import Derived.Test.YtodhfpnfbdkefaaRows
import Derived.Test.YtodhfpnfbdkefaaWyS
import Derived.Test.YtodhfpnfbdkefaaNewO
import Derived.Test.YtodhfpnfbdkefaaWhW
import Derived.Test.YtodhfpnfbdkefaaLeaves
import Derived.Test.YtodhfpnfbdkefaaAt
import Derived.Deep.RegionHeld3
namespace Go.Proofs.Ytodhfpnfbdkefaa.FnPath
open Go.ChangeShapes Go.WideShapes Go.ChangeAt Go.RowKit
open Sl (Sl Own Off)
open OpenSl (tc nc pc)
open Dev Orm Wy WyS ExO
open Src (IsRow)
set_option linter.unusedVariables false

theorem isRow_below {w w' : World} {a : Option Addr} {len cap : Nat} {zs : List Int} (h : IsRow .u8 w a len cap zs) (hb : Below w.heap.size w w') : IsRow .u8 w' a len cap zs := by
  rcases h with h | ⟨x, rfl, hl, hm, hz, hc, hw⟩
  · exact .inl h
  · refine .inr ⟨x, rfl, hl, hm, hz, fun j hj => ?_, hw⟩
    exact (hb.cell (World.block_lt_of_cell? w _ (hc j hj))).trans (hc j hj)
theorem ok_new {fs : List Int} (h : fs.length = 12) (hp : ∀ x ∈ fs, 0 ≤ x ∧ x < 8) : OkP.Ok (NewO.nt fs) := by
  refine ⟨h, hp, NewO.nt_len fs, fun j _ => ?_, fun k hk => ?_, fun j k _ hk => ?_⟩
  · rw [NewO.nt_bk]; exact Nat.zero_le _
  · exact absurd hk (by simp [NewO.nt])
  · rw [NewO.nt_bk] at hk; exact absurd hk (by simp)
theorem al_new (fs : List Int) : OkP.al (NewO.nt fs) = [] := by
  unfold OkP.al NewO.nt
  simp
theorem va_new (fs : List Int) (z : Int) : VlW.va (NewO.nt fs) true z = 0 := by
  unfold VlW.va
  split
  · split
    · unfold OkP.vl; rw [al_new]; rfl
    · rfl
  · rfl
theorem vc_new {z : Int} (h : I12 z) : VlW.vc true z = 0 := by unfold VlW.vc; rw [if_pos rfl, if_pos h]
theorem wc_new (fs : List Int) {z : Int} (h : I12 z) : WhW.wc (NewO.nt fs) true z = 5 := by
  have := (WhW.ans (NewO.nt fs) true z).none rfl h (by simp [NewO.nt, OkP.ids]) (fun j _ => by rw [NewO.nt_bk]; simp [OkP.ids])
  exact this.2
theorem wa_new (fs : List Int) {z : Int} (h : I12 z) : WhW.wa (NewO.nt fs) true z = 0 := by
  have := (WhW.ans (NewO.nt fs) true z).none rfl h (by simp [NewO.nt, OkP.ids]) (fun j _ => by rw [NewO.nt_bk]; simp [OkP.ids])
  exact this.1

set_option maxRecDepth 100000 in
set_option maxHeartbeats 6400000 in
theorem walk (a0 : Option Addr) (len0 cap0 : Nat) (z0 : List Int) (w : World) (h0 : IsRow .u8 w a0 len0 cap0 z0) :
    Calls Try.prog 4 #[.slice a0 len0 cap0] w fun e w' => e = .returned (.bool true) ∧ Below w.heap.size w w' := by
  have m0 := h0.code.1
  unfold maxLen at m0
  have H0 := Lib.hid h0
  clear h0
  by_cases b0 : 1048576 < len0
  · go_enter Try.func4, Try.ntmps4
    go_wp2_with fail
    go_ret
    exact ⟨rfl, Below.refl _ _⟩
  have d0 : decide (1048576 < (len0 : Int)) = false := decide_eq_false (by omega)
  have hlen : len0 ≤ 1048576 := by omega
  have HLEN := Lib.hid hlen
  clear b0
  have HLF := Lib.hid (show 0 ≤ At.val z0 len0 0 8 ∧ At.val z0 len0 0 8 < 8 from ⟨At.val_nonneg _ _ _ _, At.val_lt _ _ _ _ (by omega)⟩)
  have HAT0 := Lib.hid (At.at_ w a0 len0 cap0 z0 H0.out hlen 0 (by omega) 0 rfl 8 (by omega))
  generalize At.val z0 len0 0 8 = l at *
  have HI12 := Lib.hid (show I12 (At.val z0 len0 1 12) from ⟨At.val_nonneg _ _ _ _, At.val_lt _ _ _ _ (by omega)⟩)
  have HAT1 := Lib.hid (fun u (h : IsRow .u8 u a0 len0 cap0 z0) => At.at_ u a0 len0 cap0 z0 h hlen 1 (by omega) 1 rfl 12 (by omega))
  generalize At.val z0 len0 1 12 = id9 at *
  have HP8 := Lib.hid (show P8 l from HLF.out)
  have HL1 := Lib.hid (show pathC l = 0 by unfold pathC; rw [if_pos HP8.out])
  have HL2 := Lib.hid (show pathL l = wl l by unfold pathL; rw [if_pos HP8.out])
  have HIP := Lib.hid (fun u => implPath l u)
  rw [HL1.out, HL2.out] at HIP
  have HNC := Lib.hid (show nc (wl l) 0 = .int .i64 0 ∧ nc (wl l) 1 = .int .i64 (1 + l / 4) ∧ nc (wl l) 2 = .int .i64 (3 + l / 2) ∧ nc (wl l) 3 = .int .i64 (7 + l) from ⟨rfl, rfl, rfl, rfl⟩)
  have hl := HLF.out
  have HON := Lib.hid (show ∀ b : Int, On b l ↔ (0 = b ∨ 1 + l / 4 = b ∨ 3 + l / 2 = b ∨ 7 + l = b) from fun b => by unfold On; omega)
  have HX := Lib.hid (show 1 ≤ 1 + l / 4 ∧ 1 + l / 4 ≤ 2 ∧ (3 + l / 2 = 2 * (1 + l / 4) + 1 ∨ 3 + l / 2 = 2 * (1 + l / 4) + 2) ∧ 3 + l / 2 ≤ 6 by omega)
  have HCAL := Lib.hid (show ∀ i : Int, 0 ≤ i → i < 15 → ∀ u, Calls Try.prog 21 #[.int .i64 i, .int .i64 l] u fun e w' => e = .returned (.tuple #[.bool (decide (On i l)), .int .i64 0]) ∧ Below u.heap.size u w' from fun i h1 h2 u => by
    have := implOn i l u
    unfold onB onC at this
    rw [if_pos ⟨⟨h1, h2⟩, HP8.out⟩, show decide (B15 i ∧ P8 l ∧ On i l) = decide (On i l) from decide_eq_decide.2 ⟨fun h => h.2.2, fun h => ⟨⟨h1, h2⟩, HP8.out, h⟩⟩] at this
    exact this)
  have HB0 := Lib.hid (Below.refl w.heap.size w)
  obtain ⟨x3, e3⟩ : ∃ x3, 7 + l = x3 := ⟨_, rfl⟩
  rw [e3] at HNC HON
  generalize 1 + l / 4 = x1 at *
  generalize 3 + l / 2 = x2 at *
  go_enter Try.func4, Try.ntmps4
  go_wp2_with fail
  refine HAT0.out.mono ?_
  rintro e w1 ⟨rfl, m, rfl⟩
  have HB1 := Lib.hid (below_drewN HB0.out m)
  generalize w.drewN m = w1 at *
  go_wp2_with fail
  refine (HIP.out w1).mono ?_
  rintro e w2 ⟨r, rfl, ho, hb⟩
  have HB2 := Lib.hid (HB1.out.trans (hb.mono HB1.out.size))
  have HO := Lib.hid ho.sl
  obtain ⟨ap, cp, rfl, hcp, _⟩ := ho.sl.form
  have hc4 : (wl l).length = 4 := rfl
  rw [hc4] at HO ⊢
  obtain ⟨bp, op, rfl, hc⟩ := HO.out.at (by omega)
  have q0 := hc 0 (by omega)
  have q1 := hc 1 (by omega)
  have q2 := hc 2 (by omega)
  have q3 := hc 3 (by omega)
  rw [HNC.out.1] at q0
  rw [HNC.out.2.1] at q1
  rw [HNC.out.2.2.1] at q2
  rw [HNC.out.2.2.2] at q3
  rw [Nat.add_zero] at q0
  have HQ := Lib.hid (show ∀ u, Below w2.heap.size w2 u → u.cell? ⟨bp, op, none⟩ = some (.int .i64 0) ∧ u.cell? ⟨bp, op + 1, none⟩ = some (.int .i64 x1) ∧ u.cell? ⟨bp, op + 2, none⟩ = some (.int .i64 x2) ∧ u.cell? ⟨bp, op + 3, none⟩ = some (.int .i64 x3) from fun u hb => ⟨(hb.cell (World.block_lt_of_cell? _ _ q0)).trans q0, (hb.cell (World.block_lt_of_cell? _ _ q1)).trans q1, (hb.cell (World.block_lt_of_cell? _ _ q2)).trans q2, (hb.cell (World.block_lt_of_cell? _ _ q3)).trans q3⟩)
  have b3 : (x3 != 7 + l) = false := by rw [← e3]; simp
  clear hc ho hb HB0 HB1 HIP HAT0 HO hc4
  go_wp2_with fail
  clear q0 q1 q2 q3 b3
  go_loopw [6] (fun i wz => ∃ (k : Nat) (wr : World), wr = wz ∧ k ≤ 15 ∧ i = .int .i64 k ∧ Hid (Below w2.heap.size w2 wr)) (fun i _ => 15 - (intOf i).toNat)
  case atStart => exact ⟨0, _, rfl, by omega, rfl, Lib.hid (Below.refl _ _)⟩
  case round =>
    obtain ⟨k, wr, rfl, hk, rfl, HJ⟩ := hrel
    by_cases hlt : k < 15
    · have dk : decide ((k : Int) < 15) = true := decide_eq_true (by omega)
      go_wp2_with fail
      refine (HCAL.out k (by omega) (by omega) wr).mono ?_
      rintro e w3 ⟨rfl, hb⟩
      have HB3 := Lib.hid (HJ.out.trans (hb.mono HJ.out.size))
      obtain ⟨q0, q1, q2, q3⟩ := HQ.out w3 HB3.out
      have hon := HON.out k
      clear hb
      by_cases k0 : (0 : Int) = k
      · have K0 := Lib.hid k0
        have b0 : ((0 : Int) == (k : Int)) = true := by rw [k0]; simp
        rw [decide_eq_true (hon.2 (.inl K0.out))]
        clear hon k0
        go_wp2_with fail
        go_roundw
        case rel => exact ⟨k + 1, _, rfl, by omega, by go_num, HB3⟩
        case measure => simp [intOf]; omega
      have K0 := Lib.hid k0
      have b0 : ((0 : Int) == (k : Int)) = false := beq_eq_false_iff_ne.2 k0
      have f0 : decide ((0 : Int) = (k : Int)) = false := decide_eq_false k0
      clear k0
      by_cases k1 : x1 = k
      · have K1 := Lib.hid k1
        have b1 : (x1 == (k : Int)) = true := by rw [k1]; simp
        rw [decide_eq_true (hon.2 (.inr (.inl K1.out)))]
        clear hon k1
        go_wp2_with fail
        go_roundw
        case rel => exact ⟨k + 1, _, rfl, by omega, by go_num, HB3⟩
        case measure => simp [intOf]; omega
      have K1 := Lib.hid k1
      have b1 : (x1 == (k : Int)) = false := beq_eq_false_iff_ne.2 k1
      have f1 : decide (x1 = (k : Int)) = false := decide_eq_false k1
      clear k1
      by_cases k2 : x2 = k
      · have K2 := Lib.hid k2
        have b2 : (x2 == (k : Int)) = true := by rw [k2]; simp
        rw [decide_eq_true (hon.2 (.inr (.inr (.inl K2.out))))]
        clear hon k2
        go_wp2_with fail
        go_roundw
        case rel => exact ⟨k + 1, _, rfl, by omega, by go_num, HB3⟩
        case measure => simp [intOf]; omega
      have K2 := Lib.hid k2
      have b2 : (x2 == (k : Int)) = false := beq_eq_false_iff_ne.2 k2
      have f2 : decide (x2 = (k : Int)) = false := decide_eq_false k2
      clear k2
      by_cases k3 : x3 = k
      · have K3 := Lib.hid k3
        have b3 : (x3 == (k : Int)) = true := by rw [k3]; simp
        rw [decide_eq_true (hon.2 (.inr (.inr (.inr K3.out))))]
        clear hon k3
        go_wp2_with fail
        go_roundw
        case rel => exact ⟨k + 1, _, rfl, by omega, by go_num, HB3⟩
        case measure => simp [intOf]; omega
      have K3 := Lib.hid k3
      have b3 : (x3 == (k : Int)) = false := beq_eq_false_iff_ne.2 k3
      have f3 : decide (x3 = (k : Int)) = false := decide_eq_false k3
      clear k3
      rw [decide_eq_false (fun h => by rcases hon.1 h with h | h | h | h; exact K0.out h; exact K1.out h; exact K2.out h; exact K3.out h)]
      clear hon
      go_wp2_with fail
      go_roundw
      case rel => exact ⟨k + 1, _, rfl, by omega, by go_num, HB3⟩
      case measure => simp [intOf]; omega
    · have dk : decide ((k : Int) < 15) = false := decide_eq_false (by omega)
      have HBW := Lib.hid (HB2.out.trans (HJ.out.mono HB2.out.size))
      have HR := Lib.hid (isRow_below H0.out HBW.out)
      go_wp2_with fail
      refine (Leaves.drawsOf 12 (by omega) wr a0 len0 cap0 z0 HR.out).mono ?_
      rintro e w4 ⟨v, fs, rfl, hf, ho, hb⟩
      have HF := Lib.hid hf
      have HOF := Lib.hid ho
      have HB4 := Lib.hid (HJ.out.trans (hb.mono HJ.out.size))
      clear hf ho hb
      go_wp2_with fail
      refine (NewO.impl w4 v fs HOF.out.sl true (by simp only [true_iff]; exact HF.out.2)).mono ?_
      have hcc : NewO.nwC fs true = 0 := by unfold NewO.nwC; rw [if_neg (by have := HF.out.1; omega), if_pos HF.out.1, if_pos rfl]
      rw [hcc, NewO.ok_c hcc]
      rintro e w5 ⟨r5, rfl, ho, hb⟩
      have HOK := Lib.hid (ok_new HF.out.1 HF.out.2)
      have HRD := Lib.hid ho.rd
      have HB5 := Lib.hid (HB4.out.trans (hb.mono HB4.out.size))
      obtain ⟨a5, p5, b5, q5, c5, r5', rfl⟩ := form ho.rd
      clear ho hb hcc
      obtain ⟨U, eU, hbU, hzU, n0, n1, n2⟩ := boxU w5 27 (.slice a5 (NewO.nt fs).pos.length p5) (.slice b5 (NewO.nt fs).st.length q5) (.slice c5 (NewO.nt fs).bk.length r5')
      obtain ⟨G, eG⟩ : ∃ G, w5.heap.size = G := ⟨_, rfl⟩
      rw [eG] at n0 n1 n2
      have HBU := Lib.hid (HB5.out.trans (hbU.mono HB5.out.size))
      have HRU := Lib.hid (HRD.out.below hbU)
      have HBX := Lib.hid (fun u (hb : Below U.heap.size U u) => box_below hb n0 n1 n2)
      have HRW := Lib.hid (isRow_below H0.out (HB2.out.trans (HBU.out.mono HB2.out.size)))
      have HFV := Lib.hid (show ∀ u, Below U.heap.size U u → Calls Try.prog 19 #[.agg #[.slice a5 (NewO.nt fs).pos.length p5, .slice b5 (NewO.nt fs).st.length q5, .slice c5 (NewO.nt fs).bk.length r5'], .int .i64 id9] u fun e w' => e = .returned (.tuple #[.int .i64 0, .int .i64 0]) ∧ Below u.heap.size u w' from fun u hb => by
        have := VlW.implV u _ (NewO.nt fs) (HRU.out.below hb) (by simp [NewO.nt]) true (by simp only [true_iff]; exact HOK.out) id9
        rw [va_new, vc_new HI12.out] at this
        exact this)
      have HFW := Lib.hid (show ∀ u, Below U.heap.size U u → Calls Try.prog 20 #[.agg #[.slice a5 (NewO.nt fs).pos.length p5, .slice b5 (NewO.nt fs).st.length q5, .slice c5 (NewO.nt fs).bk.length r5'], .int .i64 id9] u fun e w' => e = .returned (.tuple #[.int .i64 0, .int .i64 5]) ∧ Below u.heap.size u w' from fun u hb => by
        have := WhW.impl u _ (NewO.nt fs) (HRU.out.below hb) (by simp [NewO.nt]) true (by simp only [true_iff]; exact HOK.out) id9
        rw [wa_new _ HI12.out, wc_new _ HI12.out] at this
        exact this)
      have HQU := Lib.hid (show ∀ u, Below U.heap.size U u → u.cell? ⟨bp, op, none⟩ = some (.int .i64 0) ∧ u.cell? ⟨bp, op + 1, none⟩ = some (.int .i64 x1) ∧ u.cell? ⟨bp, op + 2, none⟩ = some (.int .i64 x2) ∧ u.cell? ⟨bp, op + 3, none⟩ = some (.int .i64 x3) from fun u hb => HQ.out u (HBU.out.trans (hb.mono HBU.out.size)))
      have HWU := Lib.hid (HB2.out.trans (HBU.out.mono HB2.out.size))
      clear hbU hzU HCAL HJ HB4 HB5 HRD
      generalize (NewO.nt fs).pos.length = l1 at *
      generalize (NewO.nt fs).st.length = l2 at *
      generalize (NewO.nt fs).bk.length = l3 at *
      go_wp2_with fail
      clear eU eG
      go_region_held3 (fun w' => w'.cell? ⟨G, 0, none⟩ = some (.slice a5 l1 p5) ∧ w'.cell? ⟨G, 1, none⟩ = some (.slice b5 l2 q5) ∧ w'.cell? ⟨G, 2, none⟩ = some (.slice c5 l3 r5'))
        (first | exact ⟨n0, n1, n2⟩ | exact ⟨e0, e1, e2⟩)
        (first
        | (go_at_call 14; refine (HAT1.out _ (isRow_below HRW.out (below_drewN (Below.refl _ _) _))).mono ?_; rintro e y9 ⟨rfl, m9, rfl⟩)
        | (go_at_call 19; refine (HFV.out _ (by repeat (with_reducible (first | exact Below.refl _ _ | refine Below.drew ?_ | refine below_drewN ?_ _)))).mono ?_; rintro e z9 ⟨rfl, hb⟩; have HEZ : Hid (Below U.heap.size U z9) := Lib.hid (Below.trans (by repeat (with_reducible (first | exact Below.refl _ _ | refine Below.drew ?_ | refine below_drewN ?_ _))) (hb.mono (Nat.le_refl _))); obtain ⟨e0, e1, e2⟩ := HBX.out z9 HEZ.out; clear hb))
      have HBX2 := Lib.hid (fun u (hb : Below z9.heap.size z9 u) => box_below hb e0 e1 e2)
      have HZS := Lib.hid HEZ.out.size
      clear n0 n1 n2
      go_wp2_with fail
      go_region_held3 (fun w' => w'.cell? ⟨G, 0, none⟩ = some (.slice a5 l1 p5) ∧ w'.cell? ⟨G, 1, none⟩ = some (.slice b5 l2 q5) ∧ w'.cell? ⟨G, 2, none⟩ = some (.slice c5 l3 r5'))
        (first | exact ⟨e0, e1, e2⟩ | exact ⟨e10, e11, e12⟩)
        (first
        | (go_at_call 14; refine (HAT1.out _ (isRow_below HRW.out (below_drewN HEZ.out _))).mono ?_; rintro e y9 ⟨rfl, m9, rfl⟩)
        | (go_at_call 20; refine (HFW.out _ (by repeat (with_reducible (first | exact HEZ.out | exact Below.refl _ _ | refine Below.drew ?_ | refine below_drewN ?_ _)))).mono ?_; rintro e zz ⟨rfl, hb⟩; have HEY : Hid (Below z9.heap.size z9 zz) := Lib.hid (Below.trans (by repeat (with_reducible (first | exact Below.refl _ _ | refine Below.drew ?_ | refine below_drewN ?_ _))) (hb.mono (Nat.le_refl _))); obtain ⟨e10, e11, e12⟩ := HBX2.out zz HEY.out; clear hb))
      have HEZ2 := Lib.hid (HEZ.out.trans (HEY.out.mono HZS.out))
      obtain ⟨q0, q1, q2, q3⟩ := HQU.out zz HEZ2.out
      have HFIN := Lib.hid (HWU.out.trans (HEZ2.out.mono HWU.out.size))
      obtain ⟨t1, t2, t3, t4⟩ := HX.out
      have k1 : decide (x1 ≥ 1) = true := decide_eq_true t1
      have k1' : decide (1 ≤ x1) = true := decide_eq_true t1
      have k2 : decide (x1 ≤ 2) = true := decide_eq_true t2
      clear e0 e1 e2 e10 e11 e12
      by_cases hx : x2 = 2 * x1 + 1
      · have k3 : (x2 == 2 * x1 + 1) = true := by rw [hx]; simp
        have HH := Lib.hid hx
        clear hx t3
        go_wp2
        go_quiet (fail)
        go_wp2
        go_ret
        exact ⟨rfl, below_drewN HFIN.out _⟩
      · have hx2 : x2 = 2 * x1 + 2 := by rcases t3 with h | h; exact absurd h hx; exact h
        have k3 : (x2 == 2 * x1 + 1) = false := beq_eq_false_iff_ne.2 hx
        have k4 : (x2 == 2 * x1 + 2) = true := by rw [hx2]; simp
        clear hx hx2 t3
        go_wp2
        go_quiet (fail)
        go_wp2
        go_ret
        exact ⟨rfl, below_drewN HFIN.out _⟩
end Go.Proofs.Ytodhfpnfbdkefaa.FnPath
