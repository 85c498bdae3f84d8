/-
  What is proved: the model's doing of one operation on a map: what it leaves, what it tells, its code (a contract for the walks): scans.
-/
import Derived.Test.YtealdpkgfmokpaaRows
import Derived.Test.YtealdpkgfmokpaaDoM3
import Derived.BigQuiet
namespace Go.Proofs.Ytealdpkgfmokpaa.DoM4
open Go.ChangeShapes Go.WideShapes Go.ChangeAt Go.RowKit Go.Maps
open Sl (Sl Own Off)
open OpenSl (nc)
open Dev Orm LawE MapP MapOk OtB MapD MapGet EntI PutM DoM MapW DoM3
open DoI (lit1 lit2 bit_of)
set_option linter.unusedVariables false

def zs (vs : List Int) : List Value := vs.map fun z => .int .i64 z
theorem zs_app (vs us : List Int) : zs (vs ++ us) = zs vs ++ zs us := by simp [zs]
theorem zs_own {w : World} {base n : Nat} {v : Value} {vs : List Int} (h : w.ownsRow base 3 1 v n (zs vs)) (hn : vs.length = n) : Own w base 1 v vs.length (nc vs) := by
  subst hn
  exact own_of_row h _ (fun j hj => by
    unfold zs nc
    rw [List.getElem?_map, List.getD_eq_getElem?_getD, List.getElem?_eq_getElem (by omega)]
    rfl)
theorem infoN : (Try.prog.info? 3).map (fun i => (i.zero, i.size, i.bytes)) = some (some (.int .i64 0), 1, 8) := by kernel_rfl
/-- What has been met so far of the next ones. -/
structure Nx (xs : List En) (z : Int) (k p : Nat) (ys : List En) : Prop where
  len : ys.length = p
  eq : ys = nx (xs.take k) z
theorem Nx.zero (xs : List En) (z : Int) : Nx xs z 0 0 [] := ⟨rfl, by rw [List.take_zero]; rfl⟩
theorem Nx.yes {xs : List En} {z : Int} {k p : Nat} {ys : List En} (h : Nx xs z k p ys) (hk : k < xs.length) (hz : z ≤ (xs.getD k (0, 0)).1) : Nx xs z (k + 1) (p + 1) (ys ++ [xs.getD k (0, 0)]) := by
  refine ⟨by rw [List.length_append, h.len]; rfl, ?_⟩
  rw [take_succ_d xs (0, 0) k hk]
  unfold nx
  rw [List.filter_append, h.eq, List.filter_cons_of_pos (by simpa using hz)]
  rfl
theorem Nx.no {xs : List En} {z : Int} {k p : Nat} {ys : List En} (h : Nx xs z k p ys) (hk : k < xs.length) (hz : ¬ z ≤ (xs.getD k (0, 0)).1) : Nx xs z (k + 1) p ys := by
  refine ⟨h.len, ?_⟩
  rw [take_succ_d xs (0, 0) k hk]
  unfold nx
  rw [List.filter_append, h.eq, List.filter_cons_of_neg (by simpa using hz)]
  simp [nx]
theorem Nx.fin {xs : List En} {z : Int} {k p m : Nat} {ys : List En} (h : Nx xs z k p ys) (hp : p ≤ m) (he : k = xs.length ∨ p = m) : sc xs z (m : Int) = fl ys ++ List.replicate (2 * (m - p)) 0 := by
  have e : (nx xs z).take m = ys := by
    rcases he with rfl | rfl
    · have := h.eq
      rw [List.take_length] at this
      rw [← this, List.take_of_length_le (by rw [h.len]; exact hp)]
    · have e1 : nx xs z = ys ++ nx (xs.drop k) z := by
        rw [h.eq]
        unfold nx
        rw [← List.filter_append, List.take_append_drop]
      rw [e1, ← h.len, List.take_left]
  unfold sc
  rw [Int.toNat_natCast, e, h.len]
theorem empty1 (w : World) : ∃ U, w.alloc (.cells #[] 3) = U ∧ Below w.heap.size w U ∧ U.ownsRow w.heap.size 3 1 (.slice (some ⟨w.heap.size, 0, none⟩) 0 0) 0 [] :=
  ⟨_, rfl, (Below.refl _ w).alloc (Nat.le_refl _) _, rfl, .inr ⟨w.heap.size, 0, #[], rfl, Nat.le_refl _, heap_alloc_new w _, Nat.le_refl _, by unfold maxLen; omega, rfl, rfl⟩⟩
theorem fl_app (ys us : List En) : fl (ys ++ us) = fl ys ++ fl us := by unfold fl; rw [List.flatMap_append]

set_option maxRecDepth 100000 in
set_option maxHeartbeats 3200000 in
theorem mScan (w : World) (v : Value) (xs : List En) (h : Sl w 2 v xs.length (ec xs)) (z : Int) (m : Nat) (hm : 1 ≤ m ∧ m ≤ 4) (hl : xs.length ≤ 11) :
    Calls Try.prog 119 #[v, .agg #[.int .i64 6, .int .i64 z, .int .i64 (m : Int)]] w fun e w' => MQ w.heap.size v xs (sc xs z m) 0 w' e ∧ Below w.heap.size w w' := by
  obtain ⟨hm1, hm4⟩ := hm
  obtain ⟨U, e1, hb, hsz, X⟩ := Box3.box3 w 159 (.int .i64 6) (.int .i64 z) (.int .i64 (m : Int))
  have HF := Lib.hid (l10Find U v xs (h.below hb) z)
  have HVU := Lib.hid (h.below hb)
  have HB := Lib.hid hb
  have HSZ := Lib.hid (show w.heap.size ≤ U.heap.size from hb.size)
  obtain ⟨M, eM⟩ : ∃ M, w.heap.size = M := ⟨_, rfl⟩
  rw [eM] at X
  have HX := Lib.hid X
  obtain ⟨x0, x1, x2, _, _, _⟩ := X
  obtain ⟨a, cap, rfl, h1, h2, _⟩ := h
  unfold maxLen at h2
  have HVN := Lib.hid (vl_not (xs := xs) (k := z))
  have HVA := Lib.hid (fun (j : Nat) h1 h2 h3 => found (xs := xs) (z := z) (j := j) h1 h2 h3)
  have HEC := Lib.hid (ec1 xs)
  have HE0 := Lib.hid (ec0 xs)
  have HYS := Lib.hid (fun (k p : Nat) (ys : List En) (h : Nx xs z k p ys) => h.yes)
  have HNO := Lib.hid (fun (k p : Nat) (ys : List En) (h : Nx xs z k p ys) => h.no)
  have HFI := Lib.hid (fun (k p : Nat) (ys : List En) (h : Nx xs z k p ys) (hp : p ≤ m) => h.fin hp)
  have HN0 := Lib.hid (Nx.zero xs z)
  have HLE := Lib.hid (fun (k p : Nat) (ys : List En) (h : Nx xs z k p ys) => h.len)
  generalize Nx xs z = NX at *
  generalize sc xs z m = SC at *
  generalize vl xs z = V at *
  obtain ⟨n, en⟩ : ∃ n, xs.length = n := ⟨_, rfl⟩
  have HEN := Lib.hid en
  rw [en] at HVU HVA HF HYS HNO HFI h1 hl ⊢
  clear en hb hsz
  go_enter Try.func119, Try.ntmps119
  go_wp2_with fail
  refine HF.out.mono ?_
  rintro e w2 ⟨⟨r, rfl, HR⟩, hu⟩
  have hu2 := hu.symm
  subst hu2
  clear e1 hu eM
  have HXB := Lib.hid (fun (u : World) (hu : Below U.heap.size U u) => HX.out.below hu)
  have HVB := Lib.hid (fun (u : World) (hu : Below U.heap.size U u) => HVU.out.below hu)
  obtain ⟨U1, e1, hb1, ho1⟩ := empty1 U
  have HR1 := Lib.hid ho1
  have HB1 := Lib.hid hb1
  clear hb1 ho1
  rcases HR.out with ⟨rfl, hn⟩ | ⟨j, rfl, hj, hy, hf⟩
  · have e0 := HVN.out hn
    subst e0
    clear hn
    go_wp2
    clear e1
    go_loopw [9, 10] (fun ov i wz => ∃ (k p : Nat) (wr : World) (b : Option Addr) (cp : Nat) (ys : List En), wr = wz ∧ k ≤ n ∧ p ≤ m ∧ p ≤ k ∧ ov = .slice b (p * 2) cp ∧ i = .int .i64 k ∧ Hid (NX k p ys ∧ wr.ownsRow U.heap.size 3 1 (.slice b (p * 2) cp) (p * 2) (zs (fl ys)) ∧ Below U.heap.size U wr)) (fun ov i _ => n - (Go.RowKit.intOf i).toNat)
    case atStart => exact ⟨0, 0, _, _, _, _, rfl, by omega, by omega, by omega, rfl, rfl, Lib.hid ⟨HN0.out, HR1.out, HB1.out⟩⟩
    case round =>
      obtain ⟨k, p, wr, b, cp, ys, rfl, hk, hp, hpk, rfl, rfl, HJ⟩ := hrel
      obtain ⟨d0, d1, d2, _, _, _⟩ := HXB.out wr HJ.out.2.2
      by_cases hgo : k < n ∧ p < m
      · obtain ⟨hlt, hpm⟩ := hgo
        have t1 : ((p * 2 : Nat) : Int) < 2 * (m : Int) := by omega
        have t2 : (p : Int) * 2 < 2 * (m : Int) := by omega
        obtain ⟨b0, o0, e5, hc⟩ := (HVB.out wr HJ.out.2.2).at (by omega)
        have hsa := e5
        obtain rfl : a = some ⟨b0, o0, none⟩ := by simpa using e5
        clear hsa
        have HCX := Lib.hid (fun (u : World) (hu : Below U.heap.size U u) (k : Nat) (hk : k < n) => show u.cell? ⟨b0, o0 + k * 2, none⟩ = some (.int .i64 (xs.getD k (0, 0)).1) ∧ u.cell? ⟨b0, o0 + k * 2 + 1, none⟩ = some (.int .i64 (xs.getD k (0, 0)).2) from by
          obtain ⟨b2, o2, e6, hc2⟩ := (HVB.out u hu).at (by omega)
          obtain ⟨rfl, rfl⟩ : b0 = b2 ∧ o0 = o2 := by simpa using e6
          have k0 := hc2 (k * 2) (by omega)
          have k1 := hc2 (k * 2 + 1) (by omega)
          rw [HE0.out] at k0
          rw [HEC.out, ← Nat.add_assoc] at k1
          exact ⟨k0, k1⟩)
        have c0 := hc (k * 2) (by omega)
        have c1 := hc (k * 2 + 1) (by omega)
        rw [HE0.out] at c0
        rw [HEC.out, ← Nat.add_assoc] at c1
        have HY := Lib.hid (HYS.out k p ys HJ.out.1 hlt)
        have HNN := Lib.hid (HNO.out k p ys HJ.out.1 hlt)
        have HCC := Lib.hid (fun (u : World) (hu : Below U.heap.size U u) => show u.cell? ⟨b0, o0 + k * 2, none⟩ = some (.int .i64 (xs.getD k (0, 0)).1) ∧ u.cell? ⟨b0, o0 + k * 2 + 1, none⟩ = some (.int .i64 (xs.getD k (0, 0)).2) from HCX.out u hu k hlt)
        clear hc e5
        generalize xs.getD k (0, 0) = q at *
        obtain ⟨q0, q1⟩ := q
        simp only at c0 c1 HY HNN HCC
        by_cases hq : z ≤ q0
        · have HY2 := Lib.hid (HY.out hq)
          have g1 : decide (q0 ≥ z) = true := decide_eq_true hq
          go_wp2
          go_quiet (fail)
          have HJR := Lib.hid (Cop.row_below HJ.out.2.1 (below_drewN (Below.refl wr.heap.size wr) nq))
          have HJB := Lib.hid (below_drewN HJ.out.2.2 nq)
          have c0 : (wr.drewN nq).cell? ⟨b0, o0 + k * 2, none⟩ = some (.int .i64 q0) := c0
          have c1 : (wr.drewN nq).cell? ⟨b0, o0 + k * 2 + 1, none⟩ = some (.int .i64 q1) := c1
          generalize wr.drewN nq = wq at *
          obtain ⟨U2, e2, hb2, ho2⟩ := lit2 wq q0 q1
          have HO2 := Lib.hid ho2.sl
          have HR2 := Lib.hid (Cop.row_below HJR.out hb2)
          have HB2 := Lib.hid (HJB.out.trans (hb2.mono HJB.out.size))
          have HRN := Lib.hid (fun k => Cop.row_below HR2.out (below_drewN (Below.refl U2.heap.size U2) k))
          have HON := Lib.hid (fun k => HO2.out.below (below_drewN (Below.refl U2.heap.size U2) k))
          have HBN := Lib.hid (fun k => below_drewN HB2.out k)
          have HSN := Lib.hid (fun (k : Nat) => show U.heap.size ≤ (U2.drewN k).heap.size from HB2.out.size)
          have hp1 : 0 < 1 := by omega
          have hm3 : p * 2 + 2 ≤ maxLen := by unfold maxLen; omega
          have hy3 : (p * 2 + 2) * 8 ≤ 140737488355328 := by omega
          have HLT := Lib.hid (show wq.heap.size < U2.heap.size by rw [← e2]; simp)
          have d3 : U2.cell? ⟨b0, o0 + k * 2, none⟩ = some (.int .i64 q0) := (hb2.cell (World.block_lt_of_cell? _ _ c0)).trans c0
          have d4 : U2.cell? ⟨b0, o0 + k * 2 + 1, none⟩ = some (.int .i64 q1) := (hb2.cell (World.block_lt_of_cell? _ _ c1)).trans c1
          clear hb2 ho2
          go_wp2_with fail
          go_region_held3 (fun w' => w'.cell? ⟨b0, o0 + k * 2, none⟩ = some (.int .i64 q0) ∧ w'.cell? ⟨b0, o0 + k * 2 + 1, none⟩ = some (.int .i64 q1))
            (first | exact ⟨c0, c1⟩ | exact ⟨d3, d4⟩ | exact ⟨HC3.out.1, HC3.out.2⟩ | (refine ⟨?_, ?_⟩ <;> go_simp))
            (first
              | (refine step_appR rfl (.tmp 90) (.tmp 101) 22 rfl U.heap.size 3 1 8 (.int .i64 0) Try.underlying22 infoN rfl hp1 (.slice b (p * 2) cp) rfl (p * 2) (zs (fl ys)) ?_ ?_ (.slice (some ⟨wq.heap.size, 0, none⟩) 2 2) rfl 2 (nc [q0, q1]) ?_ (fun j _ => rfl) hm3 hy3 ?_; exact HRN.out 1; exact HSN.out 1; exact HON.out 1; intro a2 cap2 w3 hr2 hg2; have HR3 := Lib.hid hr2; have HB3 : Hid (Below U.heap.size U w3) := Lib.hid (MapI.below_grown hg2 (fun q hq => (World.ownsRow.lt (HRN.out 1) q hq).1) (HSN.out 1) (HBN.out 1)); have HC3 : Hid (w3.cell? ⟨b0, o0 + k * 2, none⟩ = some (.int .i64 q0) ∧ w3.cell? ⟨b0, o0 + k * 2 + 1, none⟩ = some (.int .i64 q1)) := Lib.hid (HCC.out w3 HB3.out); clear hr2 hg2))
          go_wp2
          go_roundw
          case rel => exact ⟨k + 1, p + 1, _, a2, cap2, ys ++ [(q0, q1)], rfl, by omega, by omega, by omega, by rw [show (p + 1) * 2 = p * 2 + 2 by omega], by go_num, Lib.hid ⟨HY2.out, by rw [show (p + 1) * 2 = p * 2 + 2 by omega, fl_app, zs_app]; exact HR3.out, HB3.out⟩⟩
          case measure => simp [Go.RowKit.intOf]; omega
        · have HN2 := Lib.hid (HNN.out (by omega))
          have g1 : decide (q0 ≥ z) = false := decide_eq_false (by omega)
          go_wp2
          go_quiet (fail)
          go_wp2
          go_roundw
          case rel => exact ⟨k + 1, p, _, b, cp, ys, rfl, by omega, by omega, by omega, rfl, by go_num, Lib.hid ⟨HN2.out, Cop.row_below HJ.out.2.1 (below_drewN (Below.refl wr.heap.size wr) _), below_drewN HJ.out.2.2 _⟩⟩
          case measure => simp [Go.RowKit.intOf]; omega
      · by_cases hlt : k < n
        · have hpm : p = m := by omega
          have HF0 := Lib.hid (HFI.out k p ys HJ.out.1 hp (.inr hpm))
          have t1 : ¬ ((p * 2 : Nat) : Int) < 2 * (m : Int) := by omega
          have t2 : ¬ (p : Int) * 2 < 2 * (m : Int) := by omega
          clear hgo hpm
          go_wp2
          clear d0 d1 d2
          go_loopw [9] (fun ov wz => ∃ (q : Nat) (wr2 : World) (b2 : Option Addr) (cp2 : Nat), wr2 = wz ∧ p * 2 + q ≤ 2 * m ∧ ov = .slice b2 (p * 2 + q) cp2 ∧ Hid (wr2.ownsRow U.heap.size 3 1 (.slice b2 (p * 2 + q) cp2) (p * 2 + q) (zs (fl ys ++ List.replicate q 0)) ∧ Below U.heap.size U wr2)) (fun ov _ => match ov with | .slice _ l _ => 2 * m - l | _ => 0)
          case atStart => exact ⟨0, _, b, cp, rfl, by omega, rfl, Lib.hid ⟨by rw [List.replicate_zero, List.append_nil]; exact HJ.out.2.1, HJ.out.2.2⟩⟩
          case round =>
            obtain ⟨q, wr2, b2, cp2, rfl, hq, rfl, HK⟩ := hrel
            obtain ⟨d0, d1, d2, _, _, _⟩ := HXB.out wr2 HK.out.2
            by_cases hlt2 : p * 2 + q < 2 * m
            · exact absurd hlt2 (by omega)
            · have t5 : ¬ ((p * 2 + q : Nat) : Int) < 2 * (m : Int) := by omega
              have t6 : ¬ (p : Int) * 2 + (q : Int) < 2 * (m : Int) := by omega
              have HQ := Lib.hid (show 2 * (m - p) = q by omega)
              go_wp2
              go_ret3
              refine ⟨⟨_, _, rfl, Lib.hid ⟨by rw [HEN.out]; exact HVB.out wr2 HK.out.2, ?_, fun _ _ h => h⟩⟩, HB.out.trans (HK.out.2.mono HSZ.out)⟩
              have h9 := (zs_own HK.out.1 (by rw [List.length_append, fl_len, List.length_replicate, HLE.out k p ys HJ.out.1])).base HSZ.out
              rw [HF0.out, HQ.out]
              exact h9
        · have hkn : k = n := by omega
          have HF0 := Lib.hid (HFI.out k p ys HJ.out.1 hp (.inl hkn))
          clear hgo hkn
          go_wp2
          clear d0 d1 d2
          go_loopw [9] (fun ov wz => ∃ (q : Nat) (wr2 : World) (b2 : Option Addr) (cp2 : Nat), wr2 = wz ∧ p * 2 + q ≤ 2 * m ∧ ov = .slice b2 (p * 2 + q) cp2 ∧ Hid (wr2.ownsRow U.heap.size 3 1 (.slice b2 (p * 2 + q) cp2) (p * 2 + q) (zs (fl ys ++ List.replicate q 0)) ∧ Below U.heap.size U wr2)) (fun ov _ => match ov with | .slice _ l _ => 2 * m - l | _ => 0)
          case atStart => exact ⟨0, _, b, cp, rfl, by omega, rfl, Lib.hid ⟨by rw [List.replicate_zero, List.append_nil]; exact HJ.out.2.1, HJ.out.2.2⟩⟩
          case round =>
            obtain ⟨q, wr2, b2, cp2, rfl, hq, rfl, HK⟩ := hrel
            obtain ⟨d0, d1, d2, _, _, _⟩ := HXB.out wr2 HK.out.2
            by_cases hlt2 : p * 2 + q < 2 * m
            · have t3 : ((p * 2 + q : Nat) : Int) < 2 * (m : Int) := by omega
              have t4 : (p : Int) * 2 + (q : Int) < 2 * (m : Int) := by omega
              obtain ⟨U3, e3, hb3, ho3⟩ := lit1 wr2 0
              have HO5 := Lib.hid ho3.sl
              have HR5 := Lib.hid (Cop.row_below HK.out.1 hb3)
              have HB5 := Lib.hid (HK.out.2.trans (hb3.mono HK.out.2.size))
              have hp1 : 0 < 1 := by omega
              have hm5 : p * 2 + q + 1 ≤ maxLen := by unfold maxLen; omega
              have hy5 : (p * 2 + q + 1) * 8 ≤ 140737488355328 := by omega
              clear hb3 ho3
              go_wp2_with (at_builtin; refine Cop.wpList_appR _ rfl (.tmp 109) (.tmp 110) 22 rfl U.heap.size 3 1 8 (.int .i64 0) Try.underlying22 infoN rfl hp1 (.slice b2 (p * 2 + q) cp2) (by simp [Act.eval]) (p * 2 + q) _ HR5.out HB5.out.size (.slice (some ⟨wr2.heap.size, 0, none⟩) 1 1) (by simp [Act.eval]) 1 (nc [0]) HO5.out (fun j _ => rfl) hm5 hy5 ?_; intro a4 cap4 w5 hr5 hg5; have HR6 := Lib.hid hr5; have HB6 : Hid (Below U.heap.size U w5) := Lib.hid (MapI.below_grown hg5 (fun q hq => (World.ownsRow.lt HR5.out q hq).1) HB5.out.size HB5.out); clear hr5 hg5)
              go_roundw
              case rel => exact ⟨q + 1, _, a4, cap4, rfl, by omega, rfl, Lib.hid ⟨by rw [show List.replicate (q + 1) (0 : Int) = List.replicate q 0 ++ [0] from List.replicate_succ', ← List.append_assoc, zs_app]; exact HR6.out, HB6.out⟩⟩
              case measure => simp; omega
            · have t5 : ¬ ((p * 2 + q : Nat) : Int) < 2 * (m : Int) := by omega
              have t6 : ¬ (p : Int) * 2 + (q : Int) < 2 * (m : Int) := by omega
              have HQ := Lib.hid (show 2 * (m - p) = q by omega)
              go_wp2
              go_ret3
              refine ⟨⟨_, _, rfl, Lib.hid ⟨by rw [HEN.out]; exact HVB.out wr2 HK.out.2, ?_, fun _ _ h => h⟩⟩, HB.out.trans (HK.out.2.mono HSZ.out)⟩
              have h9 := (zs_own HK.out.1 (by rw [List.length_append, fl_len, List.length_replicate, HLE.out k p ys HJ.out.1])).base HSZ.out
              rw [HF0.out, HQ.out]
              exact h9
  · rw [HEN.out] at hj
    obtain ⟨ev, hm2⟩ := HVA.out j hj hy hf
    obtain ⟨b0, o0, e5, hc⟩ := HVU.out.at (by omega)
    obtain rfl : a = some ⟨b0, o0, none⟩ := by simpa using e5
    have c1 := hc (j * 2 + 1) (by omega)
    rw [HEC.out, ← Nat.add_assoc, ← ev] at c1
    clear hc e5 ev hm2 hy hf
    go_wp2
    clear e1 c1
    go_loopw [9, 10] (fun ov i wz => ∃ (k p : Nat) (wr : World) (b : Option Addr) (cp : Nat) (ys : List En), wr = wz ∧ k ≤ n ∧ p ≤ m ∧ p ≤ k ∧ ov = .slice b (p * 2) cp ∧ i = .int .i64 k ∧ Hid (NX k p ys ∧ wr.ownsRow U.heap.size 3 1 (.slice b (p * 2) cp) (p * 2) (zs (fl ys)) ∧ Below U.heap.size U wr)) (fun ov i _ => n - (Go.RowKit.intOf i).toNat)
    case atStart => exact ⟨0, 0, _, _, _, _, rfl, by omega, by omega, by omega, rfl, rfl, Lib.hid ⟨HN0.out, HR1.out, HB1.out⟩⟩
    case round =>
      obtain ⟨k, p, wr, b, cp, ys, rfl, hk, hp, hpk, rfl, rfl, HJ⟩ := hrel
      obtain ⟨d0, d1, d2, _, _, _⟩ := HXB.out wr HJ.out.2.2
      by_cases hgo : k < n ∧ p < m
      · obtain ⟨hlt, hpm⟩ := hgo
        have t1 : ((p * 2 : Nat) : Int) < 2 * (m : Int) := by omega
        have t2 : (p : Int) * 2 < 2 * (m : Int) := by omega
        obtain ⟨b1, o1, e5, hc⟩ := (HVB.out wr HJ.out.2.2).at (by omega)
        obtain ⟨rfl, rfl⟩ : b0 = b1 ∧ o0 = o1 := by simpa using e5
        have HCX := Lib.hid (fun (u : World) (hu : Below U.heap.size U u) (k : Nat) (hk : k < n) => show u.cell? ⟨b0, o0 + k * 2, none⟩ = some (.int .i64 (xs.getD k (0, 0)).1) ∧ u.cell? ⟨b0, o0 + k * 2 + 1, none⟩ = some (.int .i64 (xs.getD k (0, 0)).2) from by
          obtain ⟨b2, o2, e6, hc2⟩ := (HVB.out u hu).at (by omega)
          obtain ⟨rfl, rfl⟩ : b0 = b2 ∧ o0 = o2 := by simpa using e6
          have k0 := hc2 (k * 2) (by omega)
          have k1 := hc2 (k * 2 + 1) (by omega)
          rw [HE0.out] at k0
          rw [HEC.out, ← Nat.add_assoc] at k1
          exact ⟨k0, k1⟩)
        have c0 := hc (k * 2) (by omega)
        have c1 := hc (k * 2 + 1) (by omega)
        rw [HE0.out] at c0
        rw [HEC.out, ← Nat.add_assoc] at c1
        have HY := Lib.hid (HYS.out k p ys HJ.out.1 hlt)
        have HNN := Lib.hid (HNO.out k p ys HJ.out.1 hlt)
        have HCC := Lib.hid (fun (u : World) (hu : Below U.heap.size U u) => show u.cell? ⟨b0, o0 + k * 2, none⟩ = some (.int .i64 (xs.getD k (0, 0)).1) ∧ u.cell? ⟨b0, o0 + k * 2 + 1, none⟩ = some (.int .i64 (xs.getD k (0, 0)).2) from HCX.out u hu k hlt)
        clear hc e5
        generalize xs.getD k (0, 0) = q at *
        obtain ⟨q0, q1⟩ := q
        simp only at c0 c1 HY HNN HCC
        by_cases hq : z ≤ q0
        · have HY2 := Lib.hid (HY.out hq)
          have g1 : decide (q0 ≥ z) = true := decide_eq_true hq
          go_wp2
          go_quiet (fail)
          have HJR := Lib.hid (Cop.row_below HJ.out.2.1 (below_drewN (Below.refl wr.heap.size wr) nq))
          have HJB := Lib.hid (below_drewN HJ.out.2.2 nq)
          have c0 : (wr.drewN nq).cell? ⟨b0, o0 + k * 2, none⟩ = some (.int .i64 q0) := c0
          have c1 : (wr.drewN nq).cell? ⟨b0, o0 + k * 2 + 1, none⟩ = some (.int .i64 q1) := c1
          generalize wr.drewN nq = wq at *
          obtain ⟨U2, e2, hb2, ho2⟩ := lit2 wq q0 q1
          have HO2 := Lib.hid ho2.sl
          have HR2 := Lib.hid (Cop.row_below HJR.out hb2)
          have HB2 := Lib.hid (HJB.out.trans (hb2.mono HJB.out.size))
          have HRN := Lib.hid (fun k => Cop.row_below HR2.out (below_drewN (Below.refl U2.heap.size U2) k))
          have HON := Lib.hid (fun k => HO2.out.below (below_drewN (Below.refl U2.heap.size U2) k))
          have HBN := Lib.hid (fun k => below_drewN HB2.out k)
          have HSN := Lib.hid (fun (k : Nat) => show U.heap.size ≤ (U2.drewN k).heap.size from HB2.out.size)
          have hp1 : 0 < 1 := by omega
          have hm3 : p * 2 + 2 ≤ maxLen := by unfold maxLen; omega
          have hy3 : (p * 2 + 2) * 8 ≤ 140737488355328 := by omega
          have HLT := Lib.hid (show wq.heap.size < U2.heap.size by rw [← e2]; simp)
          have d3 : U2.cell? ⟨b0, o0 + k * 2, none⟩ = some (.int .i64 q0) := (hb2.cell (World.block_lt_of_cell? _ _ c0)).trans c0
          have d4 : U2.cell? ⟨b0, o0 + k * 2 + 1, none⟩ = some (.int .i64 q1) := (hb2.cell (World.block_lt_of_cell? _ _ c1)).trans c1
          clear hb2 ho2
          go_wp2_with fail
          go_region_held3 (fun w' => w'.cell? ⟨b0, o0 + k * 2, none⟩ = some (.int .i64 q0) ∧ w'.cell? ⟨b0, o0 + k * 2 + 1, none⟩ = some (.int .i64 q1))
            (first | exact ⟨c0, c1⟩ | exact ⟨d3, d4⟩ | exact ⟨HC3.out.1, HC3.out.2⟩ | (refine ⟨?_, ?_⟩ <;> go_simp))
            (first
              | (refine step_appR rfl (.tmp 90) (.tmp 101) 22 rfl U.heap.size 3 1 8 (.int .i64 0) Try.underlying22 infoN rfl hp1 (.slice b (p * 2) cp) rfl (p * 2) (zs (fl ys)) ?_ ?_ (.slice (some ⟨wq.heap.size, 0, none⟩) 2 2) rfl 2 (nc [q0, q1]) ?_ (fun j _ => rfl) hm3 hy3 ?_; exact HRN.out 1; exact HSN.out 1; exact HON.out 1; intro a2 cap2 w3 hr2 hg2; have HR3 := Lib.hid hr2; have HB3 : Hid (Below U.heap.size U w3) := Lib.hid (MapI.below_grown hg2 (fun q hq => (World.ownsRow.lt (HRN.out 1) q hq).1) (HSN.out 1) (HBN.out 1)); have HC3 : Hid (w3.cell? ⟨b0, o0 + k * 2, none⟩ = some (.int .i64 q0) ∧ w3.cell? ⟨b0, o0 + k * 2 + 1, none⟩ = some (.int .i64 q1)) := Lib.hid (HCC.out w3 HB3.out); clear hr2 hg2))
          go_wp2
          go_roundw
          case rel => exact ⟨k + 1, p + 1, _, a2, cap2, ys ++ [(q0, q1)], rfl, by omega, by omega, by omega, by rw [show (p + 1) * 2 = p * 2 + 2 by omega], by go_num, Lib.hid ⟨HY2.out, by rw [show (p + 1) * 2 = p * 2 + 2 by omega, fl_app, zs_app]; exact HR3.out, HB3.out⟩⟩
          case measure => simp [Go.RowKit.intOf]; omega
        · have HN2 := Lib.hid (HNN.out (by omega))
          have g1 : decide (q0 ≥ z) = false := decide_eq_false (by omega)
          go_wp2
          go_quiet (fail)
          go_wp2
          go_roundw
          case rel => exact ⟨k + 1, p, _, b, cp, ys, rfl, by omega, by omega, by omega, rfl, by go_num, Lib.hid ⟨HN2.out, Cop.row_below HJ.out.2.1 (below_drewN (Below.refl wr.heap.size wr) _), below_drewN HJ.out.2.2 _⟩⟩
          case measure => simp [Go.RowKit.intOf]; omega
      · by_cases hlt : k < n
        · have hpm : p = m := by omega
          have HF0 := Lib.hid (HFI.out k p ys HJ.out.1 hp (.inr hpm))
          have t1 : ¬ ((p * 2 : Nat) : Int) < 2 * (m : Int) := by omega
          have t2 : ¬ (p : Int) * 2 < 2 * (m : Int) := by omega
          clear hgo hpm
          go_wp2
          clear d0 d1 d2
          go_loopw [9] (fun ov wz => ∃ (q : Nat) (wr2 : World) (b2 : Option Addr) (cp2 : Nat), wr2 = wz ∧ p * 2 + q ≤ 2 * m ∧ ov = .slice b2 (p * 2 + q) cp2 ∧ Hid (wr2.ownsRow U.heap.size 3 1 (.slice b2 (p * 2 + q) cp2) (p * 2 + q) (zs (fl ys ++ List.replicate q 0)) ∧ Below U.heap.size U wr2)) (fun ov _ => match ov with | .slice _ l _ => 2 * m - l | _ => 0)
          case atStart => exact ⟨0, _, b, cp, rfl, by omega, rfl, Lib.hid ⟨by rw [List.replicate_zero, List.append_nil]; exact HJ.out.2.1, HJ.out.2.2⟩⟩
          case round =>
            obtain ⟨q, wr2, b2, cp2, rfl, hq, rfl, HK⟩ := hrel
            obtain ⟨d0, d1, d2, _, _, _⟩ := HXB.out wr2 HK.out.2
            by_cases hlt2 : p * 2 + q < 2 * m
            · exact absurd hlt2 (by omega)
            · have t5 : ¬ ((p * 2 + q : Nat) : Int) < 2 * (m : Int) := by omega
              have t6 : ¬ (p : Int) * 2 + (q : Int) < 2 * (m : Int) := by omega
              have HQ := Lib.hid (show 2 * (m - p) = q by omega)
              go_wp2
              go_ret3
              refine ⟨⟨_, _, rfl, Lib.hid ⟨by rw [HEN.out]; exact HVB.out wr2 HK.out.2, ?_, fun _ _ h => h⟩⟩, HB.out.trans (HK.out.2.mono HSZ.out)⟩
              have h9 := (zs_own HK.out.1 (by rw [List.length_append, fl_len, List.length_replicate, HLE.out k p ys HJ.out.1])).base HSZ.out
              rw [HF0.out, HQ.out]
              exact h9
        · have hkn : k = n := by omega
          have HF0 := Lib.hid (HFI.out k p ys HJ.out.1 hp (.inl hkn))
          clear hgo hkn
          go_wp2
          clear d0 d1 d2
          go_loopw [9] (fun ov wz => ∃ (q : Nat) (wr2 : World) (b2 : Option Addr) (cp2 : Nat), wr2 = wz ∧ p * 2 + q ≤ 2 * m ∧ ov = .slice b2 (p * 2 + q) cp2 ∧ Hid (wr2.ownsRow U.heap.size 3 1 (.slice b2 (p * 2 + q) cp2) (p * 2 + q) (zs (fl ys ++ List.replicate q 0)) ∧ Below U.heap.size U wr2)) (fun ov _ => match ov with | .slice _ l _ => 2 * m - l | _ => 0)
          case atStart => exact ⟨0, _, b, cp, rfl, by omega, rfl, Lib.hid ⟨by rw [List.replicate_zero, List.append_nil]; exact HJ.out.2.1, HJ.out.2.2⟩⟩
          case round =>
            obtain ⟨q, wr2, b2, cp2, rfl, hq, rfl, HK⟩ := hrel
            obtain ⟨d0, d1, d2, _, _, _⟩ := HXB.out wr2 HK.out.2
            by_cases hlt2 : p * 2 + q < 2 * m
            · have t3 : ((p * 2 + q : Nat) : Int) < 2 * (m : Int) := by omega
              have t4 : (p : Int) * 2 + (q : Int) < 2 * (m : Int) := by omega
              obtain ⟨U3, e3, hb3, ho3⟩ := lit1 wr2 0
              have HO5 := Lib.hid ho3.sl
              have HR5 := Lib.hid (Cop.row_below HK.out.1 hb3)
              have HB5 := Lib.hid (HK.out.2.trans (hb3.mono HK.out.2.size))
              have hp1 : 0 < 1 := by omega
              have hm5 : p * 2 + q + 1 ≤ maxLen := by unfold maxLen; omega
              have hy5 : (p * 2 + q + 1) * 8 ≤ 140737488355328 := by omega
              clear hb3 ho3
              go_wp2_with (at_builtin; refine Cop.wpList_appR _ rfl (.tmp 109) (.tmp 110) 22 rfl U.heap.size 3 1 8 (.int .i64 0) Try.underlying22 infoN rfl hp1 (.slice b2 (p * 2 + q) cp2) (by simp [Act.eval]) (p * 2 + q) _ HR5.out HB5.out.size (.slice (some ⟨wr2.heap.size, 0, none⟩) 1 1) (by simp [Act.eval]) 1 (nc [0]) HO5.out (fun j _ => rfl) hm5 hy5 ?_; intro a4 cap4 w5 hr5 hg5; have HR6 := Lib.hid hr5; have HB6 : Hid (Below U.heap.size U w5) := Lib.hid (MapI.below_grown hg5 (fun q hq => (World.ownsRow.lt HR5.out q hq).1) HB5.out.size HB5.out); clear hr5 hg5)
              go_roundw
              case rel => exact ⟨q + 1, _, a4, cap4, rfl, by omega, rfl, Lib.hid ⟨by rw [show List.replicate (q + 1) (0 : Int) = List.replicate q 0 ++ [0] from List.replicate_succ', ← List.append_assoc, zs_app]; exact HR6.out, HB6.out⟩⟩
              case measure => simp; omega
            · have t5 : ¬ ((p * 2 + q : Nat) : Int) < 2 * (m : Int) := by omega
              have t6 : ¬ (p : Int) * 2 + (q : Int) < 2 * (m : Int) := by omega
              have HQ := Lib.hid (show 2 * (m - p) = q by omega)
              go_wp2
              go_ret3
              refine ⟨⟨_, _, rfl, Lib.hid ⟨by rw [HEN.out]; exact HVB.out wr2 HK.out.2, ?_, fun _ _ h => h⟩⟩, HB.out.trans (HK.out.2.mono HSZ.out)⟩
              have h9 := (zs_own HK.out.1 (by rw [List.length_append, fl_len, List.length_replicate, HLE.out k p ys HJ.out.1])).base HSZ.out
              rw [HF0.out, HQ.out]
              exact h9
end Go.Proofs.Ytealdpkgfmokpaa.DoM4
