/-
  What is proved: the program's entries of a map under way: all keys rising, with their values, in new memory (a contract for the walks).
-/
import Derived.Test.YtealdpkgfmokpaaRows
import Derived.Test.YtealdpkgfmokpaaScanI
namespace Go.Proofs.Ytealdpkgfmokpaa.EntI
open Go.ChangeShapes Go.WideShapes Go.ChangeAt Go.RowKit Go.Maps
open Sl (Sl Own Off)
open OpenSl (nc)
open Dev Orm LawE MapP MapOk OtB MapW MapD MapI ScanI
set_option linter.unusedVariables false

theorem infoE : (Try.prog.info? 117).map (fun i => (i.zero, i.size, i.bytes)) = some (some (.agg #[.int .i64 0, .int .i64 0]), 2, 16) := by kernel_rfl
/-- The cells of entries. -/
def es (xs : List En) : List Value := (fl xs).map fun z => .int .i64 z
theorem fl_snoc (xs : List En) (x : En) : fl (xs ++ [x]) = fl xs ++ [x.1, x.2] := by unfold fl; rw [List.flatMap_append]; simp
theorem es_snoc (xs : List En) (x : En) : es (xs ++ [x]) = es xs ++ [.int .i64 x.1, .int .i64 x.2] := by unfold es; rw [fl_snoc, List.map_append]; rfl
theorem es_get (xs : List En) (j : Nat) (h : j < xs.length * 2) : (es xs)[j]? = some (ec xs j) := by
  have hl := fl_len xs
  unfold es
  rw [List.getElem?_map, List.getElem?_eq_getElem (by omega)]
  have h2 : ∀ i, i < (fl xs).length → (fl xs).getD i 0 = (fl xs)[i]?.getD 0 := fun i _ => List.getD_eq_getElem?_getD
  obtain ⟨e1, e2⟩ := fl_get xs (j / 2) (by omega)
  rw [List.getD_eq_getElem?_getD] at e1 e2
  unfold ec
  by_cases hp : j % 2 = 0
  · rw [if_pos hp, ← e1, show j / 2 * 2 = j by omega, List.getElem?_eq_getElem (by omega)]
    rfl
  · rw [if_neg hp, ← e2, show j / 2 * 2 + 1 = j by omega, List.getElem?_eq_getElem (by omega)]
    rfl
theorem es_own {w : World} {base : Nat} {v : Value} {xs : List En} (h : w.ownsRow base 117 2 v xs.length (es xs)) : Own w base 2 v xs.length (ec xs) := own_of_row h _ (fun j hj => es_get xs j hj)
theorem row_keep {w w' : World} {base base' sz sz' n n' : Nat} {T T' : TypeId} {v v' : Value} {cs cs' : List Value} (h : w.ownsRow base T sz v n cs) (h' : w.ownsRow base' T' sz' v' n' cs') (hT : T ≠ T') (hg : w.grownBy w' v'.ownBlock) : w'.ownsRow base T sz v n cs :=
  h.kept hg (by
    cases hv : v.ownBlock with
    | none => exact .inl rfl
    | some q => exact .inr fun e => ty_ne (row_ty h q hv) (row_ty h' q e.symm) hT rfl)
theorem ne_ei : 3 ≠ 117 := by decide
theorem ne_ew : 117 ≠ 167 := by decide

set_option maxRecDepth 100000 in
set_option maxHeartbeats 1600000 in
theorem entries (w : World) (lo g B : Nat) (xs : List En) (pv : Value) (h : Wk w lo g B xs pv) (hri : Ri xs) (hkv : ∀ x ∈ xs, Kv x) (hl : xs.length ≤ 11) :
    Calls Try.prog 88 #[.pointer (some ⟨g, 0, none⟩)] w fun e w' => ∃ v, e = .returned v ∧ w'.ownsRow w.heap.size 117 2 v xs.length (es xs) ∧ Below w.heap.size w w' := by
  have c0 := h.c0
  obtain ⟨i0, hi0, hz0, hz1, hz2⟩ := info_parts infoE
  obtain ⟨n, en⟩ : ∃ n, xs.length = n := ⟨_, rfl⟩
  have hlen := World.ownsMap.len h.own Try.underlying137 3
  rw [dm_size, en] at hlen
  obtain ⟨u, hmk, hrow0, hgr0⟩ := run_make_own (P := Try.prog) w w.heap.size 47 117 i0 _ 2 Try.underlying47 hi0 hz0 hz1 .i64 .i64 n (by rw [hz2]; omega) (by unfold maxLen; omega) (Nat.le_refl _)
  have hbu : Below w.heap.size w u := (Below.refl _ _).grown hgr0 (Nat.le_refl _) (fun k hk => by cases hk)
  have HK := Lib.hid (ShelfK.keys u lo g B xs pv (h.below hbu) hri (by omega))
  have HWU := Lib.hid (h.below hbu)
  have HBU := Lib.hid hbu
  have HR0 := Lib.hid hrow0
  have HKG := Lib.hid (fun j (hj : j < xs.length) => show (ks xs)[j]? = some (xs.getD j (0, 0)).1 by unfold ks; rw [List.getElem?_map, List.getD_eq_getElem?_getD, List.getElem?_eq_getElem hj]; rfl)
  have HVL := Lib.hid (fun j (hj : j < xs.length) => vl_in hri hj)
  have HKV := Lib.hid (fun j (hj : j < xs.length) => hkv _ (getD_in xs j hj))
  have HTS := Lib.hid (fun j (hj : j < xs.length) => show es (xs.take (j + 1)) = es (xs.take j) ++ [.int .i64 (xs.getD j (0, 0)).1, .int .i64 (xs.getD j (0, 0)).2] by rw [take_succ_d xs (0, 0) j hj, es_snoc])
  have HTL := Lib.hid (List.take_length (l := xs))
  have HAT := Lib.hid (fun y => dm_at xs y)
  have HEN := Lib.hid en
  have hn : n ≤ 11 := by omega
  rw [en] at HKG HVL HKV HTS HTL HK ⊢
  clear hri hkv hl h hbu hrow0 hgr0 en
  go_enter Try.func88, Try.ntmps88
  go_wp2_with fail
  refine HK.out.mono ?_
  rintro e w1 ⟨v1, rfl, hrow, hb⟩
  obtain ⟨a1, cap1, rfl⟩ := row_form hrow
  have HWL := Lib.hid (Nat.le_refl w.heap.size)
  have HRK := Lib.hid hrow
  have HB1 := Lib.hid (HBU.out.trans (hb.mono HBU.out.size))
  have HR1 := Lib.hid (Cop.row_below HR0.out hb)
  have HW1 := Lib.hid (HWU.out.below hb)
  clear hrow hb hmk hlen c0
  obtain ⟨s0, es0⟩ : ∃ s0, w.heap.size = s0 := ⟨_, rfl⟩
  have HS0 := Lib.hid es0
  rw [es0] at HR1 HB1 ⊢
  go_wp2
  go_loopw [3, 15] (fun lv i wz => ∃ (k : Nat) (wr : World) (a : Option Addr) (cap : Nat), wr = wz ∧ k ≤ n ∧ lv = .slice a k cap ∧ i = .int .i64 k ∧ Hid (wr.ownsRow s0 117 2 (.slice a k cap) k (es (xs.take k)) ∧ wr.ownsRow u.heap.size 3 1 (.slice a1 n cap1) n ((ks xs).map Go.encZ) ∧ Wk wr lo g B xs pv ∧ Below s0 w wr)) (fun lv i _ => n - (Go.RowKit.intOf i).toNat)
  case atStart => exact ⟨0, _, _, _, rfl, by omega, rfl, rfl, Lib.hid ⟨HR1.out, HRK.out, HW1.out, HB1.out⟩⟩
  case round =>
    obtain ⟨k, wr, a, cap, rfl, hk, rfl, rfl, HJ⟩ := hrel
    by_cases hlt : k < n
    · obtain ⟨h1, ha1⟩ : ∃ h1, a1 = some ⟨h1, 0, none⟩ := by
        rcases HJ.out.2.1.2 with ⟨e1, e2⟩ | ⟨g', cap', cur, e1, _⟩
        · omega
        · obtain ⟨e2, _⟩ : a1 = some ⟨g', 0, none⟩ ∧ cap1 = cap' := by simpa using e1
          exact ⟨g', e2⟩
      subst ha1
      have d0 : wr.cell? ⟨h1, k, none⟩ = some (.int .i64 (xs.getD k (0, 0)).1) := by
        have := HJ.out.2.1.cells (g := h1) rfl k _ (by rw [List.getElem?_map, HKG.out k hlt]; rfl)
        rw [OpenSl.add_none, Nat.zero_add] at this
        exact this
      have c1 := HJ.out.2.2.1.c0
      have HV := Lib.hid (HVL.out k hlt)
      have HK2 := Lib.hid (HKV.out k hlt)
      have HT := Lib.hid (HTS.out k hlt)
      have HWR := Lib.hid HJ.out.2.2.1
      generalize xs.getD k (0, 0) = y at *
      obtain ⟨y0, y1⟩ := y
      simp only at d0 HV HT
      have HKEY := Lib.hid (keyOf_int_mk Try.underlying3 (wf_key HK2.out))
      have HA := Lib.hid (HAT.out y0)
      rw [HV.out] at HA
      obtain ⟨U, e1, hb, hz, x0, x1, _, _⟩ := box2 wr 117 (.int .i64 y0) (.int .i64 y1)
      obtain ⟨G, eG⟩ : ∃ G, wr.heap.size = G := ⟨_, rfl⟩
      rw [eG] at x0 x1
      have HN := Lib.hid (show ∀ j v, ([Value.int .i64 y0, .int .i64 y1])[j]? = some v → U.cell? ((⟨G, 0, none⟩ : Addr).add j) = some v from fun j v hj => by
        match j, hj with
        | 0, hj => obtain rfl : Value.int .i64 y0 = v := by simpa using hj
                   exact x0
        | 1, hj => obtain rfl : Value.int .i64 y1 = v := by simpa using hj
                   exact x1
        | j + 2, hj => simp at hj)
      have HRU := Lib.hid (Cop.row_below HJ.out.1 hb)
      have HKU := Lib.hid (Cop.row_below HJ.out.2.1 hb)
      have HWU2 := Lib.hid (HWR.out.below hb)
      have HSU := Lib.hid (show s0 ≤ U.heap.size from Nat.le_trans (Nat.le_trans (Nat.le_of_eq HS0.out.symm) HJ.out.2.2.2.size) hb.size)
      have HBU2 := Lib.hid (HJ.out.2.2.2.trans (hb.mono (Nat.le_trans (Nat.le_of_eq HS0.out.symm) HJ.out.2.2.2.size)))
      have ho1 : ∀ v ∈ [Value.int .i64 y0, .int .i64 y1], v.oneCell' = true := by intro v hv; simp at hv; rcases hv with rfl | rfl <;> rfl
      have hm2 : k + 1 ≤ maxLen := by unfold maxLen; omega
      have hy2 : (k + 1) * 16 ≤ 140737488355328 := by omega
      clear hb hz x0 x1
      go_wp2_with (first
        | (at_lookup; refine wpList_lookup_own_int _ rfl _ _ 137 rfl 3 3 .i64 law3 Try.underlying137 Try.underlying3 (zero3 _) B xs.length (dm xs) rfl HWR.out.own _ _ rfl HKEY.out ?_; intro c hat hwc; obtain rfl : c = y1 := (by have := hat.symm.trans HA.out; injection this with h1; injection h1); clear hat)
        | (at_builtin; refine wpList_append_own _ rfl (.tmp 19) (.tmp 28) 47 rfl s0 117 i0 _ 2 16 Try.underlying47 hi0 hz0 hz1 hz2 rfl (by omega) (.slice a k cap) k (es (xs.take k)) (by simp [Act.eval]) HRU.out ⟨G, 0, none⟩ 1 1 _ (by simp [Act.eval]) rfl HN.out ho1 hm2 hy2 HSU.out ?_; intro v' w' hrow hgr _; obtain ⟨a', cap', rfl⟩ := row_form hrow; have HR2 := Lib.hid hrow; have HG2 := Lib.hid hgr; clear hrow hgr))
      clear e1 eG
      go_roundw
      case rel =>
        refine ⟨k + 1, _, a', cap', rfl, by omega, by rfl, by go_num, Lib.hid ⟨?_, row_keep HKU.out HRU.out ne_ei HG2.out, wk_grown HWU2.out HG2.out (fun q hq => ⟨ty_ne (row_ty HRU.out q hq) HWU2.out.ty ne_ew, map_ne HWU2.out.own (row_ty HRU.out q hq)⟩), below_grown HG2.out (fun q hq => (World.ownsRow.lt HRU.out q hq).1) HSU.out HBU2.out⟩⟩
        rw [HT.out]
        exact HR2.out
      case measure => simp [Go.RowKit.intOf]; omega
    · have hk2 := Lib.hid (show k = n by omega)
      go_wp2
      go_ret
      have h1 := HJ.out.1
      rw [hk2.out, HTL.out, ← HS0.out] at h1
      have h2 := HJ.out.2.2.2
      rw [← HS0.out] at h2
      have hkn := hk2.out
      clear hk2
      subst hkn
      exact ⟨_, rfl, h1, h2⟩
end Go.Proofs.Ytealdpkgfmokpaa.EntI
