/-
  What is proved: the program's scan of a map under way tells the next keys that are not below one, rising, with their values, and noughts for what is missing (a contract for the walks).
-/
import Derived.Test.YtealdpkgfmokpaaRows
import Derived.Test.YtealdpkgfmokpaaMapI
import Derived.Test.YtealdpkgfmokpaaShelfK
namespace Go.Proofs.Ytealdpkgfmokpaa.ScanI
open Go.ChangeShapes Go.WideShapes Go.ChangeAt Go.RowKit Go.Maps
open Sl (Sl Own Off)
open OpenSl (nc)
open Dev Orm LawE MapP MapOk OtB MapW MapD MapI
set_option linter.unusedVariables false

/-- How many keys are below one. -/
def fi (xs : List En) (z : Int) : Nat := (ks xs).countP (· < z)
theorem fi_le (xs : List En) (z : Int) : fi xs z ≤ xs.length := by
  unfold fi
  have := List.countP_le_length (p := fun x : Int => decide (x < z)) (l := ks xs)
  unfold ks at this ⊢
  rw [List.length_map] at this
  exact this
theorem nx_drop : ∀ (xs : List En), Ri xs → ∀ z, nx xs z = xs.drop (fi xs z)
  | [], _, z => rfl
  | y :: r, h, z => by
    obtain ⟨h1, h2⟩ := List.pairwise_cons.1 h
    by_cases e : y.1 < z
    · have : fi (y :: r) z = fi r z + 1 := by unfold fi ks; rw [List.map_cons, List.countP_cons_of_pos (by simpa using e)]
      rw [this, List.drop_succ_cons, ← nx_drop r h2 z]
      unfold nx
      rw [List.filter_cons_of_neg (by simp; omega)]
    · have : fi (y :: r) z = 0 := by
        unfold fi ks
        rw [List.countP_eq_zero]
        intro a ha
        obtain ⟨b, hb, rfl⟩ := List.mem_map.1 ha
        rcases List.mem_cons.1 hb with rfl | hb
        · simpa using e
        · have := h1 b hb
          simp only [decide_eq_true_eq]
          omega
      rw [this, List.drop_zero]
      unfold nx
      exact filter_all fun x hx => by
        rcases List.mem_cons.1 hx with rfl | hx
        · simp only [decide_eq_true_eq]; omega
        · have := h1 x hx
          simp only [decide_eq_true_eq]; omega
theorem nx_len {xs : List En} (h : Ri xs) (z : Int) : (nx xs z).length = xs.length - fi xs z := by rw [nx_drop xs h, List.length_drop]
theorem vl_in {xs : List En} (h : Ri xs) {j : Nat} (hj : j < xs.length) : vl xs (xs.getD j (0, 0)).1 = (xs.getD j (0, 0)).2 := by
  refine (vl_at hj fun i hi => ?_).1
  unfold Ri at h
  rw [List.pairwise_iff_getElem] at h
  have := h i j (by omega) hj hi
  rw [List.getD_eq_getElem?_getD, List.getD_eq_getElem?_getD, List.getElem?_eq_getElem hj, List.getElem?_eq_getElem (by omega : i < xs.length)]
  simp only [Option.getD_some]
  omega
theorem fl_get (ys : List En) : ∀ j, j < ys.length → (fl ys).getD (j * 2) 0 = (ys.getD j (0, 0)).1 ∧ (fl ys).getD (j * 2 + 1) 0 = (ys.getD j (0, 0)).2 := by
  induction ys with
  | nil => intro j hj; simp at hj
  | cons y r ih =>
    intro j hj
    have e : fl (y :: r) = y.1 :: y.2 :: fl r := rfl
    rw [e]
    match j with
    | 0 => exact ⟨rfl, rfl⟩
    | j + 1 =>
      have := ih j (by simpa using hj)
      rw [show (j + 1) * 2 = j * 2 + 1 + 1 by omega]
      exact this
/-- Cell by cell: what a scan tells. -/
theorem sc_get {xs : List En} (h : Ri xs) (z : Int) (m : Nat) :
    (∀ j, j < m → fi xs z + j < xs.length → (sc xs z m).getD (j * 2) 0 = (xs.getD (fi xs z + j) (0, 0)).1 ∧ (sc xs z m).getD (j * 2 + 1) 0 = (xs.getD (fi xs z + j) (0, 0)).2) ∧
    (∀ j, 2 * min m (xs.length - fi xs z) ≤ j → (sc xs z m).getD j 0 = 0) := by
  have hl : ((nx xs z).take m).length = min m (xs.length - fi xs z) := by rw [List.length_take, nx_len h]
  constructor
  · intro j hj hf
    have hg : ((nx xs z).take m).getD j (0, 0) = xs.getD (fi xs z + j) (0, 0) := by
      rw [nx_drop xs h, List.getD_eq_getElem?_getD, List.getD_eq_getElem?_getD, List.getElem?_take_of_lt hj, List.getElem?_drop]
    obtain ⟨e1, e2⟩ := fl_get ((nx xs z).take m) j (by rw [hl]; omega)
    unfold sc
    rw [Int.toNat_natCast]
    have hfl : (fl ((nx xs z).take m)).length = min m (xs.length - fi xs z) * 2 := by rw [fl_len, hl]
    constructor
    · rw [List.getD_eq_getElem?_getD, List.getElem?_append_left (by rw [hfl]; omega), ← List.getD_eq_getElem?_getD, e1, hg]
    · rw [List.getD_eq_getElem?_getD, List.getElem?_append_left (by rw [hfl]; omega), ← List.getD_eq_getElem?_getD, e2, hg]
  · intro j hj
    unfold sc
    rw [Int.toNat_natCast, List.getD_eq_getElem?_getD, List.getElem?_append_right (by rw [fl_len, hl]; omega), List.getElem?_replicate]
    split <;> rfl

theorem numberOf (t : Bool) (w : World) : Calls Try.prog 148 #[.bool t] w fun e w' => e = .returned (.int .i64 (if t = true then 1 else 0)) ∧ w' = w := by
  cases t
  · go_enter Try.func148, Try.ntmps148
    go_wp2
    go_ret
    exact ⟨rfl, rfl⟩
  · go_enter Try.func148, Try.ntmps148
    go_wp2
    go_ret
    exact ⟨rfl, rfl⟩

theorem info3 : (Try.prog.info? 3).map (fun i => (i.zero, i.size, i.bytes)) = some (some (.int .i64 0), 1, 8) := by kernel_rfl
set_option maxRecDepth 100000 in
set_option maxHeartbeats 1600000 in
theorem scan (w : World) (lo g B : Nat) (xs : List En) (pv : Value) (h : Wk w lo g B xs pv) (hri : Ri xs) (hkv : ∀ x ∈ xs, Kv x) (hl : xs.length ≤ 11) (z : Int) (m : Nat) (hm : 1 ≤ m ∧ m ≤ 4) :
    Calls Try.prog 151 #[.pointer (some ⟨g, 0, none⟩), .int .i64 z, .int .i64 (m : Int)] w fun e w' => ∃ v, e = .returned v ∧ Own w' w.heap.size 1 v (2 * m) (nc (sc xs z m)) ∧ Below w.heap.size w w' := by
  have HK := Lib.hid (ShelfK.keys w lo g B xs pv h hri (by omega))
  have hfl := fi_le xs z
  have HWK := Lib.hid h
  have HS := Lib.hid (sc_get hri z m)
  have HKL : (ks xs).length = xs.length := by unfold ks; rw [List.length_map]
  have HSE := Lib.hid (fun (u : World) (v : Value) (base : Nat) (hr : u.ownsRow base 3 1 v xs.length ((ks xs).map Go.encZ)) => ShelfK.search u base 0 v (ks xs) (by rw [HKL]; exact hr) (ShelfK.ks_sorted hri) (by omega) z)
  have HKG := Lib.hid (fun j (hj : j < xs.length) => show (ks xs)[j]? = some (xs.getD j (0, 0)).1 by unfold ks; rw [List.getElem?_map, List.getD_eq_getElem?_getD, List.getElem?_eq_getElem hj]; rfl)
  have HFI := Lib.hid (show (ks xs).countP (· < z) = fi xs z from rfl)
  obtain ⟨hm1, hm4⟩ := hm
  go_enter Try.func151, Try.ntmps151
  go_wp2_with fail
  refine HK.out.mono ?_
  rintro e w1 ⟨v1, rfl, hrow, hb⟩
  obtain ⟨a1, cap1, rfl⟩ := row_form hrow
  have HROW := Lib.hid hrow
  have HB1 := Lib.hid hb
  clear hrow hb
  go_wp2_with fail
  refine (HSE.out _ _ _ HROW.out).mono ?_
  rintro e w2 ⟨rfl, q2, rfl⟩
  rw [HFI.out]
  generalize fi xs z = f at *
  generalize (ks xs).contains z = t
  have HROW2 := Lib.hid (Cop.row_below HROW.out (below_drewN (Below.refl _ _) q2))
  have HB2 := Lib.hid (below_drewN HB1.out q2)
  obtain ⟨n, en⟩ : ∃ n, xs.length = n := ⟨_, rfl⟩
  rw [en] at hfl hl HROW2 HKG HS ⊢
  generalize w1.drewN q2 = u2 at *
  obtain ⟨g3, o3, w3, hmk, hown, hbel⟩ := made (P := Try.prog) u2 22 3 1 (.int .i64 0) 8 Try.underlying22 info3 (2 * m) (by omega) (by unfold maxLen; omega) (fun _ => .int .i64 0) (LawS.made_one _ rfl (2 * m))
  have HO := Lib.hid hown
  have HB3 := Lib.hid hbel
  have hmi : ((2 * m : Nat) : Int) = 2 * (m : Int) := by omega
  rw [hmi] at hmk
  clear hown hbel
  obtain ⟨e, he1, he2, hmin, hel⟩ : ∃ e : Nat, f ≤ e ∧ e ≤ n ∧ min ((f : Int) + (m : Int)) (n : Int) = ((e : Nat) : Int) ∧ e = f + min m (n - f) := ⟨f + min m (n - f), by omega, by omega, by omega, rfl⟩
  have hcap : n ≤ cap1 ∧ cap1 ≤ maxLen := by
    rcases HROW2.out.2 with ⟨e1, _⟩ | ⟨g', cap', cur, e1, _, _, k1, k2, _⟩
    · obtain ⟨_, rfl, rfl⟩ : a1 = none ∧ n = 0 ∧ cap1 = 0 := by simpa using e1
      exact ⟨by omega, by unfold maxLen; omega⟩
    · obtain ⟨_, rfl⟩ : a1 = some ⟨g', 0, none⟩ ∧ cap1 = cap' := by simpa using e1
      exact ⟨k1, k2⟩
  obtain ⟨hc1, hc2⟩ := hcap
  unfold maxLen at hc2
  have j1 : (e : Int) ≤ (cap1 : Int) := by omega
  have j2 : e ≤ cap1 := by omega
  obtain ⟨l, hl0⟩ : ∃ l, e - f = l := ⟨_, rfl⟩
  have HB4 := Lib.hid (HB2.out.trans (HB3.out.mono HB2.out.size))
  have HBS := Lib.hid HB2.out.size
  by_cases hz0 : l = 0
  · subst hz0
    have HF := Lib.hid (HO.out.congr (c' := nc (sc xs z m)) (fun j hj => by unfold nc; rw [HS.out.2 j (by omega)]))
    have HF2 := Lib.hid (HF.out.base HBS.out)
    by_cases hcf : cap1 = f
    · go_wp2
      go_loopw [34] (fun i wz => i = .int .i64 0 ∧ w3 = wz) (fun i _ => 0)
      case atStart => exact ⟨rfl, rfl⟩
      case round =>
        obtain ⟨rfl, rfl⟩ := hrel
        go_wp2
        go_ret
        exact ⟨_, rfl, HF2.out, HB4.out⟩
    · go_wp2
      go_loopw [34] (fun i wz => i = .int .i64 0 ∧ w3 = wz) (fun i _ => 0)
      case atStart => exact ⟨rfl, rfl⟩
      case round =>
        obtain ⟨rfl, rfl⟩ := hrel
        go_wp2
        go_ret
        exact ⟨_, rfl, HF2.out, HB4.out⟩
  have hnf : ¬ cap1 = f := by omega
  obtain ⟨h1, ha1⟩ : ∃ h1, a1 = some ⟨h1, 0, none⟩ := by
    rcases HROW2.out.2 with ⟨e1, e2⟩ | ⟨g', cap', cur, e1, _⟩
    · omega
    · obtain ⟨e2, _⟩ : a1 = some ⟨g', 0, none⟩ ∧ cap1 = cap' := by simpa using e1
      exact ⟨g', e2⟩
  subst ha1
  have HKC := Lib.hid (show ∀ j, j < l → u2.cell? ⟨h1, f + j, none⟩ = some (.int .i64 (xs.getD (f + j) (0, 0)).1) from fun j hj => by
    have := HROW2.out.cells (g := h1) rfl (f + j) _ (by rw [List.getElem?_map, HKG.out (f + j) (by omega)]; rfl)
    rw [OpenSl.add_none, Nat.zero_add] at this
    exact this)
  have HVL := Lib.hid (fun j (hj : f + j < n) => vl_in hri (j := f + j) (by rw [en]; exact hj))
  have HKV := Lib.hid (fun j (hj : f + j < n) => hkv _ (getD_in xs (f + j) (by rw [en]; exact hj)))
  have HAT := Lib.hid (fun y => dm_at xs y)
  have HWU := Lib.hid (HWK.out.below HB2.out)
  have HIT := Lib.hid (show (2 * m ≤ 2 * m ∧ ∀ j, 2 * l ≤ j → (sc xs z m).getD j 0 = 0) ∧ ∀ j, j < l → (sc xs z m).getD (j * 2) 0 = (xs.getD (f + j) (0, 0)).1 ∧ (sc xs z m).getD (j * 2 + 1) 0 = (xs.getD (f + j) (0, 0)).2 from
    ⟨⟨Nat.le_refl _, fun j hj => HS.out.2 j (by omega)⟩, fun j hj => HS.out.1 j (by omega) (by omega)⟩)
  have hlm : l ≤ m := by omega
  have hln : l ≤ 11 := by omega
  have HEL := Lib.hid (show f + l ≤ n by omega)
  obtain ⟨S, eS⟩ : ∃ S, sc xs z m = S := ⟨_, rfl⟩
  rw [eS] at HIT
  have HES := Lib.hid eS
  clear eS
  clear hmi HS HKG hel HSE HK h HB1 HROW HROW2 HKL
  go_wp2
  go_loopw [34] (fun i wz => ∃ (k : Nat) (wr : World), wr = wz ∧ k ≤ l ∧ i = .int .i64 k ∧ Hid (Own wr u2.heap.size 1 (.slice (some ⟨g3, o3, none⟩) (2 * m) (2 * m)) (2 * m) (fun j => if j < k * 2 then nc S j else .int .i64 0) ∧ Below u2.heap.size u2 wr)) (fun i _ => l - (Go.RowKit.intOf i).toNat)
  case atStart => exact ⟨0, _, rfl, by omega, rfl, Lib.hid ⟨HO.out.congr (fun j _ => by rw [if_neg (by omega)]), HB3.out⟩⟩
  case round =>
    obtain ⟨k, wr, rfl, hk, rfl, HJ⟩ := hrel
    by_cases hlt : k < l
    · have c0 := HKC.out k hlt
      rw [← HJ.out.2.cell (World.block_lt_of_cell? _ _ c0)] at c0
      have HWR := Lib.hid (HWU.out.below HJ.out.2)
      have c1 := HWR.out.c0
      have HV := Lib.hid (HVL.out k (by have := HEL.out; omega))
      have HK2 := Lib.hid (HKV.out k (by have := HEL.out; omega))
      have HI2 := Lib.hid (HIT.out.2 k hlt)
      generalize xs.getD (f + k) (0, 0) = y at *
      obtain ⟨y0, y1⟩ := y
      simp only at c0 HV HI2
      have HKEY := Lib.hid (keyOf_int_mk Try.underlying3 (wf_key HK2.out))
      have HA := Lib.hid (HAT.out y0)
      rw [HV.out] at HA
      obtain ⟨b', o', e', hb', hc'⟩ := HJ.out.1.at (by omega)
      obtain ⟨rfl, rfl⟩ : g3 = b' ∧ o3 = o' := by simpa using e'
      obtain ⟨c3, f3⟩ := hc' (k * 2) (by omega)
      obtain ⟨c4, f4⟩ := hc' (k * 2 + 1) (by omega)
      have HG := Lib.hid hb'
      rw [if_neg (by omega)] at c3 c4
      have k1 : (2 : Int) * (k : Int) = ((k * 2 : Nat) : Int) := by omega
      clear hc' hb' e'
      go_wp2_with (at_lookup; refine wpList_lookup_own_int _ rfl _ _ 137 rfl 3 3 .i64 law3 Try.underlying137 Try.underlying3 (zero3 _) B xs.length (dm xs) rfl HWR.out.own _ _ rfl HKEY.out ?_; intro c hat hwc; obtain rfl : c = y1 := (by have := hat.symm.trans HA.out; injection this with h1; injection h1); clear hat)
      go_roundw
      case rel =>
        refine ⟨k + 1, _, rfl, by omega, by go_num, Lib.hid ⟨((HJ.out.1.set (k * 2) (by omega) _).set (k * 2 + 1) (by omega) _).congr (fun j hj => ?_), (HJ.out.2.setCell HG.out _).setCell HG.out _⟩⟩
        show (if j = k * 2 + 1 then _ else if j = k * 2 then _ else if j < k * 2 then _ else _) = if j < (k + 1) * 2 then _ else _
        by_cases ej : j = k * 2 + 1
        · rw [if_pos ej, if_pos (by omega), ej]
          show _ = Value.int .i64 (S.getD (k * 2 + 1) 0)
          rw [HI2.out.2]
        · rw [if_neg ej]
          by_cases ej2 : j = k * 2
          · rw [if_pos ej2, if_pos (by omega), ej2]
            show _ = Value.int .i64 (S.getD (k * 2) 0)
            rw [HI2.out.1]
          · rw [if_neg ej2]
            by_cases h5 : j < k * 2
            · rw [if_pos h5, if_pos (by omega)]
            · rw [if_neg h5, if_neg (by omega)]
      case measure => simp [Go.RowKit.intOf]; omega
    · have hk2 := Lib.hid (show k = l by omega)
      go_wp2
      go_ret
      refine ⟨_, rfl, (HJ.out.1.congr (fun j hj => ?_)).base HBS.out, HB2.out.trans (HJ.out.2.mono HBS.out)⟩
      rw [HES.out]
      by_cases h5 : j < k * 2
      · rw [if_pos h5]
      · rw [if_neg h5]
        show _ = Value.int .i64 (S.getD j 0)
        rw [HIT.out.1.2 j (by have := hk2.out; omega)]
end Go.Proofs.Ytealdpkgfmokpaa.ScanI
