/-
  What is proved: the model's doing of one operation on a map: what it leaves, what it tells, its code (contracts for the walks): drops.
-/
import Derived.Test.YtealdpkgfmokpaaRows
import Derived.Test.YtealdpkgfmokpaaDoM
import Derived.Deep.RegionHeld3
import Derived.OwnWalk
namespace Go.Proofs.Ytealdpkgfmokpaa.DoM3
open Go.ChangeShapes Go.WideShapes Go.ChangeAt Go.RowKit Go.Maps
open Sl (Sl Own Off)
open OpenSl (nc)
open Dev Orm LawE MapP MapOk OtB MapD MapGet EntI PutM DoM MapW
open DoI (lit1 lit2 bit_of)
set_option linter.unusedVariables false

section
variable {P : Program} {w : World}
/-- An append onto a slice of the call's own, of whatever slice, inside a region that draws. -/
theorem step_appR {ops : Array Oper} {o : Oper} {a : Act} {K : Act → World → Prop} {Q : Exit → Act → World → Prop} {E : Prop} (hgd : o.guard = none) (s x : Operand) (t : TypeId)
    (ho : o.op = .call { callee := .builtin .append, args := #[s, x], argTypes := #[t, t] })
    (base : Nat) (e : TypeId) (sz bytes : Nat) (z : Value) (ht : P.underlying t = some (.slice e)) (hi : (P.info? e).map (fun i => (i.zero, i.size, i.bytes)) = some (some z, sz, bytes)) (hzs : z.cells.size = sz) (hsz : 0 < sz)
    (v : Value) (hs : a.eval s = v) (n : Nat) (olds : List Value) (hown : w.ownsRow base e sz v n olds) (hb : base ≤ w.heap.size) (u : Value) (hx : a.eval x = u) (m : Nat) (c : Nat → Value) (hu : Sl w sz u m c) (h1 : ∀ j, j < m * sz → (c j).oneCell' = true) (hm : n + m ≤ maxLen) (hbytes : (n + m) * bytes ≤ 140737488355328)
    (h : ∀ a' cap' w', w'.ownsRow base e sz (.slice a' (n + m) cap') (n + m) (olds ++ Cop.cl c (m * sz)) → w.grownBy w' v.ownBlock → K (a.put o.dst (.slice a' (n + m) cap')) w') :
    if Region.wanted o (yielded ops a.tmps) = true then Oper.wp P o a w K Q else E := by
  have hw : Region.wanted o (yielded ops a.tmps) = true := by simp [Region.wanted, hgd]
  rw [if_pos hw]
  obtain ⟨v', w', hr, h2, h3⟩ := Cop.run_appR (P := P) w base t o.type e sz bytes z ht hi hzs hsz v n olds hown hb u m c hu h1 hm hbytes
  obtain ⟨a', cap', rfl⟩ : ∃ a' cap', v' = .slice a' (n + m) cap' := by
    rcases h2.2 with ⟨rfl, h0⟩ | ⟨g, cap2, cur, rfl, _⟩
    · exact ⟨none, 0, by rw [h0]⟩
    · exact ⟨_, _, rfl⟩
  unfold Oper.wp execOp
  simp only [ho, resolve, invoke, builtin, Sem.run_bind, Sem.run_pure, Result.andThen_ok, List.map_toArray, List.map_cons, List.map_nil, hs, hx, hr]
  exact h a' cap' w' h2 h3
end
theorem row_base {w : World} {base base' : Nat} {e : TypeId} {sz : Nat} {v : Value} {n : Nat} {xs : List Value} (h : w.ownsRow base e sz v n xs) (hb : base' ≤ base) : w.ownsRow base' e sz v n xs :=
  ⟨h.1, h.2.imp id (fun ⟨g, cap, cur, e1, hg, r⟩ => ⟨g, cap, cur, e1, Nat.le_trans hb hg, r⟩)⟩
theorem dl_at {xs : List En} (h : Ri xs) {j : Nat} (hj : j < xs.length) : dl xs (xs.getD j (0, 0)).1 = xs.take j ++ xs.drop (j + 1) := by
  have e : xs = xs.take j ++ (xs.getD j (0, 0) :: xs.drop (j + 1)) := by
    have h1 : xs.drop j = xs.getD j (0, 0) :: xs.drop (j + 1) := by
      rw [List.getD_eq_getElem?_getD, List.getElem?_eq_getElem hj]
      exact List.drop_eq_getElem_cons hj
    rw [← h1, List.take_append_drop]
  generalize xs.getD j (0, 0) = q at *
  have hr := h
  unfold Ri at hr
  rw [e] at hr
  rw [List.pairwise_append] at hr
  obtain ⟨_, h2, h3⟩ := hr
  obtain ⟨h4, _⟩ := List.pairwise_cons.1 h2
  have : dl xs q.1 = dl (xs.take j ++ (q :: xs.drop (j + 1))) q.1 := by rw [← e]
  rw [this]
  unfold dl
  rw [List.filter_append, List.filter_cons_of_neg (by simp), filter_all (fun x hx => by have := h3 x hx q List.mem_cons_self; simp only [decide_eq_true_eq]; omega), filter_all (fun x hx => by have := h4 x hx; simp only [decide_eq_true_eq]; omega)]
theorem fin2 {u : World} {s0 N k m : Nat} {r : Value} {A T P : List En} (h : u.ownsRow s0 117 2 r N (([] ++ Cop.cl (ec A) (k * 2)) ++ Cop.cl (ec T) (m * 2))) (hA : A.length = k) (hT : T.length = m) (hP : P = A ++ T) : Own u s0 2 r P.length (ec P) := by
  have e : ([] ++ Cop.cl (ec A) (k * 2)) ++ Cop.cl (ec T) (m * 2) = es P := by
    subst hA
    subst hT
    rw [List.nil_append, es_cl, es_cl, hP, es_app]
  rw [e] at h
  have hl := h.1
  have h2 : (es P).length = P.length * 2 := by unfold es; rw [List.length_map, fl_len]
  have : N = P.length := by omega
  rw [this] at h
  exact es_own h

set_option maxRecDepth 100000 in
set_option maxHeartbeats 1200000 in
theorem mDrop (w : World) (v : Value) (xs : List En) (h : Sl w 2 v xs.length (ec xs)) (z y : Int) (hri : Ri xs) (hl : xs.length ≤ 11) :
    Calls Try.prog 119 #[v, .agg #[.int .i64 3, .int .i64 z, .int .i64 y]] w fun e w' => MQ w.heap.size v (dl xs z) [bit (z ∈ ks xs)] 0 w' e ∧ Below w.heap.size w w' := by
  obtain ⟨U, e1, hb, hsz, X⟩ := Box3.box3 w 159 (.int .i64 3) (.int .i64 z) (.int .i64 y)
  have HF := Lib.hid (l10Find U v xs (h.below hb) z)
  have HVU := Lib.hid (h.below hb)
  have HB := Lib.hid hb
  have HSZ := Lib.hid (show w.heap.size ≤ U.heap.size from hb.size)
  obtain ⟨M, eM⟩ : ∃ M, w.heap.size = M := ⟨_, rfl⟩
  rw [eM] at X
  obtain ⟨x0, x1, x2, _, _, _⟩ := X
  obtain ⟨a, cap, rfl, h1, h2, _⟩ := h
  unfold maxLen at h2
  have HVN := Lib.hid (vl_not (xs := xs) (k := z))
  have HVA := Lib.hid (fun (j : Nat) h1 h2 h3 => found (xs := xs) (z := z) (j := j) h1 h2 h3)
  have HBY := Lib.hid (bit_yes (p := z ∈ ks xs))
  have HBN := Lib.hid (bit_no (p := z ∈ ks xs))
  have HEC := Lib.hid (ec1 xs)
  have HD0 := Lib.hid (fun (hn : ¬ z ∈ ks xs) => dl_not hn)
  have HD1 := Lib.hid (fun (j : Nat) (hj : j < xs.length) (hy : (xs.getD j (0, 0)).1 = z) => show dl xs z = xs.take j ++ xs.drop (j + 1) by rw [← hy]; exact dl_at hri hj)
  generalize dl xs z = D at *
  generalize bit (z ∈ ks xs) = bb at *
  generalize vl xs z = V at *
  obtain ⟨n, en⟩ : ∃ n, xs.length = n := ⟨_, rfl⟩
  have HEN := Lib.hid en
  rw [en] at HVU HVA HF HD1 h1 hl ⊢
  clear en hb hsz
  go_enter Try.func119, Try.ntmps119
  go_wp2_with fail
  refine HF.out.mono ?_
  rintro e w2 ⟨⟨r, rfl, HR⟩, hu⟩
  have hu2 := hu.symm
  subst hu2
  clear e1 hu eM
  rcases HR.out with ⟨rfl, hn⟩ | ⟨j, rfl, hj, hy, hf⟩
  · obtain ⟨U2, e2, hb2, ho2⟩ := lit1 U 0
    have HO2 := Lib.hid (ho2.base HSZ.out)
    have HB2 := Lib.hid (HB.out.trans (hb2.mono HSZ.out))
    have HV2 := Lib.hid (HVU.out.below hb2)
    clear hb2 ho2
    have e0 := HBN.out hn
    subst e0
    have HDX := Lib.hid (HD0.out hn)
    clear hn
    go_wp2_with (go_at_call 144; refine (l01Bit _ _).mono ?_; rintro e u ⟨rfl, rfl⟩)
    go_ret3
    exact ⟨⟨_, _, rfl, Lib.hid ⟨by rw [HDX.out, HEN.out]; exact HV2.out, HO2.out, fun _ _ h => h⟩⟩, HB2.out⟩
  · rw [HEN.out] at hj
    obtain ⟨ev, hm2⟩ := HVA.out j hj hy hf
    have e0 := HBY.out hm2
    subst e0
    have HDX := Lib.hid (HD1.out j hj hy)
    obtain ⟨b, o, e5, hc⟩ := HVU.out.at (by omega)
    obtain rfl : a = some ⟨b, o, none⟩ := by simpa using e5
    have c1 := hc (j * 2 + 1) (by omega)
    rw [HEC.out, ← Nat.add_assoc, ← ev] at c1
    clear hc hy hf hm2 e5 ev
    obtain ⟨U0, eU0, hb0, HM0⟩ := empty_row U 117
    have HM := Lib.hid (row_base HM0 HSZ.out)
    have HT0 := Lib.hid (sl_take (HVU.out.below hb0) j (by omega))
    have HB0 := Lib.hid (HB.out.trans (hb0.mono HSZ.out))
    have HTT := Lib.hid (fun u (hu : Below U.heap.size U u) => sl_drop_s (HVU.out.below hu) (j + 1) (by omega))
    have hm1 : 0 + j ≤ maxLen := by unfold maxLen; omega
    have hy1 : (0 + j) * 16 ≤ 140737488355328 := by omega
    have hm3 : j + (n - (j + 1)) ≤ maxLen := by unfold maxLen; omega
    have hy3 : (j + (n - (j + 1))) * 16 ≤ 140737488355328 := by omega
    by_cases hcf : cap = j + 1
    · have hn1 : n = j + 1 := by omega
      have HFIN := Lib.hid (fun (u : World) (r : Value) (N : Nat) (hr : u.ownsRow w.heap.size 117 2 r N (([] ++ Cop.cl (ec (xs.take j)) (j * 2)) ++ Cop.cl (ec (xs.drop (j + 1))) ((0) * 2))) => show Own u w.heap.size 2 r D.length (ec D) from fin2 hr (by rw [List.length_take, HEN.out]; omega) (by rw [List.length_drop, HEN.out]; try omega) HDX.out)
      have HT9 := Lib.hid (fun (u : World) => show Sl u 2 (.slice (some ⟨b, o, none⟩) 0 0) 0 (ec (xs.drop (j + 1))) from ⟨_, _, rfl, Nat.le_refl _, by unfold maxLen; omega, fun h => by omega⟩)
      subst hn1
      subst hcf
      have HMW := Lib.hid HM0
      have HBW := Lib.hid hb0
      clear hb0 HM0
      go_upto_region 10 with (fail)
      have k1 : (j : Int) ≤ (j : Int) + 1 := by omega
      have k2 : j ≤ j + 1 := by omega
      have k3 : (0 : Int) ≤ (j : Int) := by omega
      have k4 : (j : Int) + 1 ≤ (j : Int) + 1 := by omega
      have k5 : ((j : Int) + 1).toNat = j + 1 := by omega
      have k6 : (0 : Int) ≤ (j : Int) + 1 := by omega
      have k7 : IntKind.i64.wrap ((j : Int) + 1) = (j : Int) + 1 := by rw [IntKind.wrap_i64]; omega
      have k8 : j + 1 ≤ j + 1 := by omega
      have hm3 : j + 0 ≤ maxLen := by unfold maxLen; omega
      have hy3 : (j + 0) * 16 ≤ 140737488355328 := by omega
      have hp2 : 0 < 2 := by omega
      have HMN := Lib.hid (fun k => Cop.row_below HM.out (below_drewN (Below.refl U0.heap.size U0) k))
      have HSN := Lib.hid (fun (k : Nat) => show w.heap.size ≤ (U0.drewN k).heap.size from HB0.out.size)
      have HTN := Lib.hid (fun k => HT0.out.below (below_drewN (Below.refl U0.heap.size U0) k))
      have HBN := Lib.hid (fun k => below_drewN HB0.out k)
      have HMU := Lib.hid (fun k => Cop.row_below HMW.out (below_drewN (Below.refl U0.heap.size U0) k))
      have HSU := Lib.hid (fun (k : Nat) => show U.heap.size ≤ (U0.drewN k).heap.size from HBW.out.size)
      have HBU := Lib.hid (fun k => below_drewN HBW.out k)
      go_region_held3 (fun _ => True) (first | trivial)
        (first
          | (refine step_appR rfl (.tmp 36) (.tmp 39) 47 rfl w.heap.size 117 2 16 (.agg #[.int .i64 0, .int .i64 0]) Try.underlying47 infoE rfl hp2 (.slice (some ⟨U.heap.size, 0, none⟩) 0 0) rfl 0 [] ?_ ?_ (.slice (some ⟨b, o, none⟩) j (j + 1)) rfl j (ec (xs.take j)) ?_ (fun j _ => ec_one _ j) hm1 hy1 ?_; exact HMN.out 1; exact HSN.out 1; exact HTN.out 1; intro a1 cap1 w1 hr1 hg1; rw [Nat.zero_add] at hr1; rw [Nat.zero_add]; have HR1 := Lib.hid hr1; have HG1 := Lib.hid hg1; have HB1 : Hid (Below w.heap.size w w1) := Lib.hid (MapI.below_grown hg1 (fun q hq => (World.ownsRow.lt (HMN.out 1) q hq).1) (HSN.out 1) (HBN.out 1)); have HBU1 : Hid (Below U.heap.size U w1) := Lib.hid (MapI.below_grown hg1 (fun q hq => (World.ownsRow.lt (HMU.out 1) q hq).1) (HSU.out 1) (HBU.out 1)); clear hr1 hg1)
          | (refine step_appR rfl (.tmp 40) (.tmp 44) 47 rfl w.heap.size 117 2 16 (.agg #[.int .i64 0, .int .i64 0]) Try.underlying47 infoE rfl hp2 (.slice a1 j cap1) rfl j ([] ++ Cop.cl (ec (xs.take j)) (j * 2)) ?_ ?_ (.slice (some ⟨b, o, none⟩) 0 0) rfl (0) (ec (xs.drop (j + 1))) ?_ (fun j _ => ec_one _ j) hm3 hy3 ?_; exact HR1.out; exact HB1.out.size; exact HT9.out _; intro a2 cap2 w3 hr2 hg2; have HR2 := Lib.hid hr2; have HB2 : Hid (Below w.heap.size w w3) := Lib.hid (MapI.below_grown hg2 (fun q hq => (World.ownsRow.lt HR1.out q hq).1) HB1.out.size HB1.out); clear hr2 hg2))
      obtain ⟨U2, e2, hb2, ho2⟩ := lit1 w3 1
      have HO2 := Lib.hid (ho2.base HB2.out.size)
      have HBF := Lib.hid (HB2.out.trans (hb2.mono HB2.out.size))
      have HS3 := Lib.hid (HFIN.out _ _ _ HR2.out)
      have HSF := Lib.hid (HS3.out.below hb2)
      clear hb2 ho2
      go_wp2_with (go_at_call 144; refine (l01Bit _ _).mono ?_; rintro e u ⟨rfl, rfl⟩)
      go_ret3
      exact ⟨⟨_, _, rfl, Lib.hid ⟨HSF.out.sl, HO2.out, fun q hq _ => own_low HSF.out q hq⟩⟩, HBF.out⟩
    · have HFIN := Lib.hid (fun (u : World) (r : Value) (N : Nat) (hr : u.ownsRow w.heap.size 117 2 r N (([] ++ Cop.cl (ec (xs.take j)) (j * 2)) ++ Cop.cl (ec (xs.drop (j + 1))) ((n - (j + 1)) * 2))) => show Own u w.heap.size 2 r D.length (ec D) from fin2 hr (by rw [List.length_take, HEN.out]; omega) (by rw [List.length_drop, HEN.out]; try omega) HDX.out)
      have HMW := Lib.hid HM0
      have HBW := Lib.hid hb0
      clear hb0 HM0
      go_upto_region 10 with (fail)
      have k1 : (j : Int) ≤ (cap : Int) := by omega
      have k2 : j ≤ cap := by omega
      have k3 : (0 : Int) ≤ (j : Int) := by omega
      have k4 : (j : Int) + 1 ≤ (n : Int) := by omega
      have k5 : ((j : Int) + 1).toNat = j + 1 := by omega
      have k6 : (0 : Int) ≤ (j : Int) + 1 := by omega
      have k7 : IntKind.i64.wrap ((j : Int) + 1) = (j : Int) + 1 := by rw [IntKind.wrap_i64]; omega
      have k8 : j + 1 ≤ n := by omega
      have hp2 : 0 < 2 := by omega
      have HMN := Lib.hid (fun k => Cop.row_below HM.out (below_drewN (Below.refl U0.heap.size U0) k))
      have HSN := Lib.hid (fun (k : Nat) => show w.heap.size ≤ (U0.drewN k).heap.size from HB0.out.size)
      have HTN := Lib.hid (fun k => HT0.out.below (below_drewN (Below.refl U0.heap.size U0) k))
      have HBN := Lib.hid (fun k => below_drewN HB0.out k)
      have HMU := Lib.hid (fun k => Cop.row_below HMW.out (below_drewN (Below.refl U0.heap.size U0) k))
      have HSU := Lib.hid (fun (k : Nat) => show U.heap.size ≤ (U0.drewN k).heap.size from HBW.out.size)
      have HBU := Lib.hid (fun k => below_drewN HBW.out k)
      go_region_held3 (fun _ => True) (first | trivial)
        (first
          | (refine step_appR rfl (.tmp 36) (.tmp 39) 47 rfl w.heap.size 117 2 16 (.agg #[.int .i64 0, .int .i64 0]) Try.underlying47 infoE rfl hp2 (.slice (some ⟨U.heap.size, 0, none⟩) 0 0) rfl 0 [] ?_ ?_ (.slice (some ⟨b, o, none⟩) j cap) rfl j (ec (xs.take j)) ?_ (fun j _ => ec_one _ j) hm1 hy1 ?_; exact HMN.out 1; exact HSN.out 1; exact HTN.out 1; intro a1 cap1 w1 hr1 hg1; rw [Nat.zero_add] at hr1; rw [Nat.zero_add]; have HR1 := Lib.hid hr1; have HG1 := Lib.hid hg1; have HB1 : Hid (Below w.heap.size w w1) := Lib.hid (MapI.below_grown hg1 (fun q hq => (World.ownsRow.lt (HMN.out 1) q hq).1) (HSN.out 1) (HBN.out 1)); have HBU1 : Hid (Below U.heap.size U w1) := Lib.hid (MapI.below_grown hg1 (fun q hq => (World.ownsRow.lt (HMU.out 1) q hq).1) (HSU.out 1) (HBU.out 1)); clear hr1 hg1)
          | (refine step_appR rfl (.tmp 40) (.tmp 44) 47 rfl w.heap.size 117 2 16 (.agg #[.int .i64 0, .int .i64 0]) Try.underlying47 infoE rfl hp2 (.slice a1 j cap1) rfl j ([] ++ Cop.cl (ec (xs.take j)) (j * 2)) ?_ ?_ (.slice (some ⟨b, o + (j + 1) * 2, none⟩) (n - (j + 1)) (cap - (j + 1))) rfl (n - (j + 1)) (ec (xs.drop (j + 1))) ?_ (fun j _ => ec_one _ j) hm3 hy3 ?_; exact HR1.out; exact HB1.out.size; exact HTT.out _ HBU1.out; intro a2 cap2 w3 hr2 hg2; have HR2 := Lib.hid hr2; have HB2 : Hid (Below w.heap.size w w3) := Lib.hid (MapI.below_grown hg2 (fun q hq => (World.ownsRow.lt HR1.out q hq).1) HB1.out.size HB1.out); clear hr2 hg2))
      obtain ⟨U2, e2, hb2, ho2⟩ := lit1 w3 1
      have HO2 := Lib.hid (ho2.base HB2.out.size)
      have HBF := Lib.hid (HB2.out.trans (hb2.mono HB2.out.size))
      have HS3 := Lib.hid (HFIN.out _ _ _ HR2.out)
      have HSF := Lib.hid (HS3.out.below hb2)
      clear hb2 ho2
      go_wp2_with (go_at_call 144; refine (l01Bit _ _).mono ?_; rintro e u ⟨rfl, rfl⟩)
      go_ret3
      exact ⟨⟨_, _, rfl, Lib.hid ⟨HSF.out.sl, HO2.out, fun q hq _ => own_low HSF.out q hq⟩⟩, HBF.out⟩
end Go.Proofs.Ytealdpkgfmokpaa.DoM3
