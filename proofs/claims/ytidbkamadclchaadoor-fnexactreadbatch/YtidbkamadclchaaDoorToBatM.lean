/-
  What is proved: the model's reading of a batch answers as the pieces say (a contract for the walks).
-/
import Derived.Test.YtidbkamadclchaaDoorRows
import Derived.Test.YtidbkamadclchaaDoorBtM
import Derived.Test.YtidbkamadclchaaDoorBatS
namespace Go.Proofs.YtidbkamadclchaaDoor.ToBatM
open Go.ChangeShapes Go.WideShapes Go.ChangeAt Go.RowKit
open Sl (Sl Own Off)
open OpenSl (tc)
open Dev Orm Box3 OpB BatB Txt TxtB TxtR OtB BtM
open ToOpM (TPost l09ToOp)
open Cop (cl cl_get cl_len row_below row_own)
set_option linter.unusedVariables false

theorem cutA_le (c : UInt8) : ∀ (t cur x : B), x ∈ cutA c cur t → x.length ≤ cur.length + t.length
  | [], cur, x, h => by
    have : x ∈ [cur] := h
    rw [List.mem_singleton] at this
    rw [this]
    simp
  | y :: t, cur, x, h => by
    have h2 : x ∈ (if y = c then cur :: cutA c [] t else cutA c (cur ++ [y]) t) := h
    split at h2
    · rcases List.mem_cons.1 h2 with h3 | h3
      · rw [h3]; omega
      · have := cutA_le c t [] x h3
        simp only [List.length_cons, List.length_nil] at *
        omega
    · have := cutA_le c t (cur ++ [y]) x h2
      simp only [List.length_cons, List.length_append, List.length_nil] at *
      omega
theorem cutA_cnt (c : UInt8) : ∀ (t cur : B), (cutA c cur t).length ≤ t.length + 1
  | [], cur => by show [cur].length ≤ _; simp
  | y :: t, cur => by
    show (if y = c then cur :: cutA c [] t else cutA c (cur ++ [y]) t).length ≤ _
    split
    · have := cutA_cnt c t []
      simp only [List.length_cons] at *
      omega
    · have := cutA_cnt c t (cur ++ [y])
      simp only [List.length_cons] at *
      omega
/-- In the midst of a transaction. -/
structure It (B : Nat) (w0 : World) (v : Value) (us : Nat → Value) (bss : List (List Bk)) (tv : Value) (ts : List ByteArray) (B2 G : Nat) (u : Value) (xs : List Bk) (tv2 : Value) (ts2 : List ByteArray) (x : World) : Prop where
  bt : Bt B w0 v us bss tv ts x
  c : x.cell? ⟨G, 0, none⟩ = some u
  f : x.frozen? ⟨G, 0, none⟩ = false
  ty : Ty x G 55
  op : x.ownsRow B2 26 3 u xs.length (cl (bc xs) (xs.length * 3))
  txt2 : OT x B 9 1 tv2 ts2.length (tc ts2)
  lo : B ≤ B2
  lg : B2 ≤ G
  gx : G < x.heap.size
  hv : ∀ k, v.ownBlock = some k → k ≠ G
  lies : ∀ j, j < bss.length → Lies B B2 (us j)
variable {B : Nat} {w0 x y : World} {v tv : Value} {us : Nat → Value} {bss : List (List Bk)} {ts : List ByteArray} {B2 G : Nat} {u : Value} {xs : List Bk} {tv2 : Value} {ts2 : List ByteArray}
theorem It.next (h : It B w0 v us bss tv ts B2 G u xs tv2 ts2 x) (hb : Below x.heap.size x y) : It B w0 v us bss tv ts B2 G u xs tv2 ts2 y :=
  ⟨h.bt.next hb, (hb.cell (p := ⟨G, 0, none⟩) h.gx).trans h.c, (hb.frozen (p := ⟨G, 0, none⟩) h.gx).trans h.f, h.ty.below hb, row_below h.op hb, ot_below h.txt2 hb, h.lo, h.lg, Nat.lt_of_lt_of_le h.gx hb.size, h.hv, h.lies⟩
theorem It.app {u' : Value} {k a b : Int} (h : It B w0 v us bss tv ts B2 G u xs tv2 ts2 x) (hg : x.grownBy y u.ownBlock) (hr : y.ownsRow B2 26 3 u' (xs.length + 1) (cl (bc xs) (xs.length * 3) ++ [.int .i64 k, .int .i64 a, .int .i64 b])) : It B w0 v us bss tv ts B2 G u' (xs ++ [(k, a, b)]) tv2 ts2 (y.setCell ⟨G, 0, none⟩ u') := by
  have hto := row_ty h.op
  have hne : ∀ q, u.ownBlock = some q → G ≠ q := fun q hq => ty_ne h.ty (hto q hq) (by decide)
  have hbt := h.bt.growOp hg (fun q hq => ⟨hto q hq, Nat.le_trans h.lo (World.ownsRow.lt h.op q hq).1, fun j hj => (h.lies j hj).off (by right; exact (World.ownsRow.lt h.op q hq).1)⟩)
  have hGb := hg.block G h.gx (fun e => hne G e.symm rfl)
  have hty : Ty y G 55 := by
    obtain ⟨cs, fr, q⟩ := h.ty
    exact ⟨cs, fr, hGb.trans q⟩
  have hc : y.cell? ⟨G, 0, none⟩ = some u := by
    have := h.c
    unfold World.cell? at this ⊢
    rw [hGb]
    exact this
  have hf : y.frozen? ⟨G, 0, none⟩ = false := by
    have := h.f
    unfold World.frozen? at this ⊢
    rw [hGb]
    exact this
  have hr2 : y.ownsRow B2 26 3 u' (xs ++ [(k, a, b)]).length (cl (bc (xs ++ [(k, a, b)])) ((xs ++ [(k, a, b)]).length * 3)) := by
    rw [show (xs ++ [(k, a, b)]).length = xs.length + 1 by simp, bc_snoc]
    exact hr
  have htx := ot_row h.txt2 (by decide) hg hto (by decide)
  have hgs : y.grownBy (y.setCell ⟨G, 0, none⟩ u') (some G) := ReadI.grown_set (ReadI.grown_id y G) 0 u'
  exact ⟨hbt.setBox hty (Nat.le_trans h.lo h.lg) h.hv u', by go_simp, by go_simp, ty_set hty 0 u', row_grown hr2 hty (by decide) hgs, htx.grown (by decide) hgs (ot_off htx hty (by decide)), h.lo, h.lg, by rw [show (y.setCell ⟨G, 0, none⟩ u').heap.size = y.heap.size by simp]; exact Nat.lt_of_lt_of_le h.gx hg.size, h.hv, h.lies⟩
theorem ot_cell {T : TypeId} {a0 : Option Addr} {n cap : Nat} {c : Nat → Value} (h : OT x B T 1 (.slice a0 n cap) n c) {j : Nat} (hj : j < n) : ∃ b o, a0 = some ⟨b, o, none⟩ ∧ x.cell? ⟨b, o + j, none⟩ = some (c j) := by
  obtain ⟨b, o, e, _, hc⟩ := h.1.at (show 0 < n by omega)
  exact ⟨b, o, e, (hc j (by omega)).1⟩
/-- What reading a batch answers. -/
def BPost (L : List UInt8) (lo : Nat) (w' : World) (e : Ending) : Prop := ∃ (v : Value) (vs : Nat → Value) (bss : List (List Bk)) (q : Bool), e = .returned (.tuple #[v, .bool q]) ∧ Hid (TB (tok L) bss q ∧ NsO w' lo v bss vs)
theorem ns_nil (x : World) (T : TypeId) (lo : Nat) (h : lo ≤ x.heap.size) : NsO (x.alloc (.cells #[] T)) lo (.slice (some ⟨x.heap.size, 0, none⟩) 0 0) [] (fun _ => .slice none 0 0) :=
  ⟨⟨_, 0, rfl, Nat.le_refl _, by unfold maxLen; omega, fun h => absurd h (by simp)⟩, fun j hj => absurd hj (by simp), fun j hj => absurd hj (by simp), fun i j hi => absurd hi (by simp)⟩
theorem It.box (h : It B w0 v us bss tv ts B2 G u xs tv2 ts2 x) (hg : x.grownBy y u.ownBlock) : y.cell? ⟨G, 0, none⟩ = some u ∧ y.frozen? ⟨G, 0, none⟩ = false := by
  have hto := row_ty h.op
  have hGb := hg.block G h.gx (fun e => ty_ne h.ty (hto G e.symm) (by decide) rfl)
  have h1 := h.c
  have h2 := h.f
  unfold World.cell? at h1 ⊢
  unfold World.frozen? at h2 ⊢
  rw [hGb]
  exact ⟨h1, h2⟩
theorem lies_apart {lo hi sz n : Nat} {u v : Value} {c : Nat → Value} (h : Lies lo hi u) (h' : Own x hi sz v n c) (hsz : 0 < sz) : Apart u v := by
  intro a m cap e hm a' m' cap' e' hm' heq
  have h1 := h a m cap e hm
  have h2 := lies_of h' hsz a' m' cap' e' hm'
  omega
theorem Bt.nso (h : Bt B w0 v us bss tv ts x) : NsO x B v bss us :=
  ⟨row_own h.row, fun j hj => (h.inn j hj).1, fun j hj => (row_ot h.row).apart (h.inn j hj) (by decide), h.each⟩
theorem it_zero (x : World) : ∃ X, (x.alloc (.cells #[] 26)).alloc (.cells #[.slice (some ⟨x.heap.size, 0, none⟩) 0 0] 55) = X ∧ Below x.heap.size x X ∧ X.cell? ⟨x.heap.size + 1, 0, none⟩ = some (.slice (some ⟨x.heap.size, 0, none⟩) 0 0) ∧ X.frozen? ⟨x.heap.size + 1, 0, none⟩ = false ∧ Ty X (x.heap.size + 1) 55 ∧ X.ownsRow x.heap.size 26 3 (.slice (some ⟨x.heap.size, 0, none⟩) 0 0) 0 [] ∧ x.heap.size + 1 < X.heap.size := by
  have hs : (x.alloc (.cells #[] 26)).heap.size = x.heap.size + 1 := by simp
  refine ⟨_, rfl, ((Below.refl _ _).alloc (Nat.le_refl _) _).alloc (by simp) _, ?_, ?_, ?_, ?_, by simp⟩
  · rw [← hs]
    exact (by go_simp)
  · rw [← hs]
    exact (by go_simp)
  · rw [← hs]
    exact boxed_ty _ _ _
  · exact row_below (World.ownsRow_made (base := x.heap.size) (e := 26) (size := 3) x #[] 0 (Nat.le_refl _) (by unfold maxLen; omega) rfl) ((Below.refl _ _).alloc (Nat.le_refl _) _)
set_option maxRecDepth 100000 in
set_option maxHeartbeats 6400000 in
theorem l09ToBatch (w : World) (s : ByteArray) (hs : s.size ≤ 65536) :
    Calls Tryd.prog 36 #[.string s] w fun e w' => BPost s.data.toList w.heap.size w' e ∧ Below w.heap.size w w' := by
  obtain ⟨iO, hiO, hzO0, hzO1, hzO2⟩ := info_parts LawB.infoOp
  obtain ⟨iT, hiT, hzT0, hzT1, hzT2⟩ := info_parts LawB.infoTxn
  have HC1 := Lib.hid (fun u => show Calls Tryd.prog 64 #[.string s, .int .u8 124] u _ from CutM.l00Cut s 124 hs u)
  have HCL := Lib.hid (show ∀ x ∈ cut 124 s.data.toList, x.length ≤ 65536 from fun x hx => by have := cutA_le 124 s.data.toList [] x hx; have h2 : s.data.toList.length = s.size := rfl; simp only [List.length_nil] at this; omega)
  have HCN := Lib.hid (show (cut 124 s.data.toList).length ≤ 65537 from by have := cutA_cnt 124 s.data.toList []; have h2 : s.data.toList.length = s.size := rfl; unfold cut; omega)
  have HTK : Hid (tok s.data.toList = (cut 124 s.data.toList).map opsOf) := Lib.hid rfl
  have HB0 := Lib.hid ((Below.refl w.heap.size w).alloc (Nat.le_refl _) (.cells #[] 55))
  have HR0 := Lib.hid (World.ownsRow_made (base := w.heap.size) (e := 55) (size := 1) w #[] 0 (Nat.le_refl _) (by unfold maxLen; omega) rfl)
  generalize s.data.toList = L at *
  obtain ⟨U, eU⟩ : ∃ U, w.alloc (.cells #[] 55) = U := ⟨_, rfl⟩
  rw [eU] at HB0 HR0
  go_enter Tryd.func36, Tryd.ntmps36
  go_wp2_with fail
  clear eU
  refine (HC1.out _).mono ?_
  rintro e w1 ⟨tv, ts, rfl, HT, hb⟩
  have HBt := Lib.hid (show Bt w.heap.size w (.slice (some ⟨w.heap.size, 0, none⟩) 0 0) (fun _ => .slice none 0 0) [] tv ts w1 from
    ⟨HB0.out.trans (hb.mono HB0.out.size), Nat.le_trans HB0.out.size hb.size, row_below HR0.out hb, fun j hj => absurd hj (by simp), fun i j hi => absurd hi (by simp), ⟨HT.out.2.1.base HB0.out.size, HT.out.2.2⟩⟩)
  have HTS := Lib.hid HT.out.1
  obtain ⟨a0, cap, rfl, _, hm⟩ := HT.out.2.1.sl.form
  unfold maxLen at hm
  have hnt : ts.length ≤ 65537 := by have := HCN.out; rw [← HTS.out, List.length_map] at this; exact this
  have HSZ := Lib.hid (fun j (hj : j < ts.length) => show (ts.getD j ByteArray.empty).size ≤ 65536 from HCL.out (ts.getD j ByteArray.empty).data.toList (by rw [← HTS.out]; exact List.mem_map.2 ⟨_, getD_mem ts _ j hj, rfl⟩))
  have HTK2 := Lib.hid (show tok L = ts.map (fun t => opsOf t.data.toList) by rw [HTK.out, ← HTS.out, List.map_map]; rfl)
  clear hb HC1 HCL HCN HTK HB0 HR0 HT
  go_wp2_with fail
  go_loopw [4, 6] (fun v i wz => ∃ (us : Nat → Value) (bss : List (List Bk)) (j : Nat) (x : World) (gv cv : Nat), x = wz ∧ j ≤ ts.length ∧ i = .int .i64 j ∧ v = .slice (some ⟨gv, 0, none⟩) bss.length cv ∧ Hid (Bt w.heap.size w v us bss (.slice a0 ts.length cap) ts x ∧ Pb ts bss j)) (fun _ i _ => ts.length - (intOf i).toNat)
  case atStart => exact ⟨_, [], 0, _, _, _, rfl, by omega, rfl, rfl, Lib.hid ⟨HBt.out, pb_zero ts⟩⟩
  case round =>
    obtain ⟨us, bss, j, x, gv, cv, rfl, hj, rfl, rfl, H⟩ := hrel
    by_cases hlt : j < ts.length
    · have hlt2 : (j : Int) < (ts.length : Int) := by omega
      obtain ⟨tb, tof, rfl, t0⟩ := ot_cell H.out.1.txt hlt
      unfold tc at t0
      have HSJ := HSZ.out j hlt
      obtain ⟨t, et⟩ : ∃ t, ts.getD j ByteArray.empty = t := ⟨_, rfl⟩
      rw [et] at t0 HSJ
      have HET := Lib.hid et
      have HC2 := Lib.hid (fun u => show Calls Tryd.prog 64 #[.string t, .int .u8 59] u _ from CutM.l00Cut t 59 HSJ u)
      have HCN := Lib.hid (show (cut 59 t.data.toList).length ≤ 65537 from by have := cutA_cnt 59 t.data.toList []; have h2 : t.data.toList.length = t.size := rfl; unfold cut; omega)
      have HCL := Lib.hid (show ∀ x ∈ cut 59 t.data.toList, x.length ≤ 65536 from fun x hx => by have := cutA_le 59 t.data.toList [] x hx; have h2 : t.data.toList.length = t.size := rfl; simp only [List.length_nil] at this; omega)
      obtain ⟨X3, eX3, hb3, zc, zf, zt, zr, zs⟩ := it_zero x
      have t1 := (hb3.cell (World.block_lt_of_cell? x _ t0)).trans t0
      clear et
      go_wp2_with fail
      refine (HC2.out _).mono ?_
      rintro e x4 ⟨tv2, ts2, rfl, HT2, hb4⟩
      have HB4 := Lib.hid (hb3.trans (hb4.mono hb3.size))
      have HIt := Lib.hid (show It w.heap.size w (.slice (some ⟨gv, 0, none⟩) bss.length cv) us bss (.slice (some ⟨tb, tof, none⟩) ts.length cap) ts x.heap.size (x.heap.size + 1) (.slice (some ⟨x.heap.size, 0, none⟩) 0 0) [] tv2 ts2 x4 from
        ⟨H.out.1.next HB4.out, (hb4.cell (p := ⟨x.heap.size + 1, 0, none⟩) zs).trans zc, (hb4.frozen (p := ⟨x.heap.size + 1, 0, none⟩) zs).trans zf, zt.below hb4, row_below zr hb4, ⟨HT2.out.2.1.base (by have := H.out.1.size; have := hb3.size; omega), HT2.out.2.2⟩, H.out.1.size, by omega, Nat.lt_of_lt_of_le zs hb4.size, fun k hk => by have := (World.ownsRow.lt H.out.1.row k hk).2; omega, fun i hi => lies_of (H.out.1.inn i hi).1 (by decide)⟩)
      have HTS2 := Lib.hid (show ts2.map (·.data.toList) = cut 59 (ts.getD j ByteArray.empty).data.toList by rw [HET.out]; exact HT2.out.1)
      have HSZ2 := Lib.hid (fun i (hi : i < ts2.length) => show (ts2.getD i ByteArray.empty).size ≤ 65536 from HCL.out (ts2.getD i ByteArray.empty).data.toList (by rw [← HT2.out.1]; exact List.mem_map.2 ⟨_, getD_mem ts2 _ i hi, rfl⟩))
      have hn2 : ts2.length ≤ 65537 := by have := HCN.out; rw [← HT2.out.1, List.length_map] at this; exact this
      obtain ⟨a2, cap2, rfl, _, hm2⟩ := HT2.out.2.1.sl.form
      unfold maxLen at hm2
      have HPB := Lib.hid H.out.2
      have hbl : bss.length ≤ 65537 := by have := pb_len HPB.out (by omega); omega
      obtain ⟨G, eG⟩ : ∃ G, x.heap.size + 1 = G := ⟨_, rfl⟩
      rw [eG] at HIt
      simp only [eG]
      obtain ⟨H0, eH⟩ : ∃ H0, x.heap.size = H0 := ⟨_, rfl⟩
      rw [eH] at HIt
      simp only [eH]
      clear t0 t1 eX3 hb3 hb4 zc zf zt zr zs HT2 HC2 HCL HCN H eG eH HB4
      go_wp2_with fail
      go_loopw [9] (fun i wz => ∃ (xs : List Bk) (gu cu i' : Nat) (y : World), y = wz ∧ i' ≤ ts2.length ∧ i = .int .i64 i' ∧ Hid (It w.heap.size w (.slice (some ⟨gv, 0, none⟩) bss.length cv) us bss (.slice (some ⟨tb, tof, none⟩) ts.length cap) ts H0 G (.slice (some ⟨gu, 0, none⟩) xs.length cu) xs (.slice a2 ts2.length cap2) ts2 y ∧ Pl ts2 xs i')) (fun i _ => ts2.length - (intOf i).toNat)
      case atStart => exact ⟨[], _, _, 0, _, rfl, by omega, rfl, Lib.hid ⟨HIt.out, pl_zero ts2⟩⟩
      case round =>
        obtain ⟨xs, gu, cu, i', y, rfl, hi', rfl, HI⟩ := hrel
        have HXL := Lib.hid (pl_len HI.out.2 hi')
        by_cases hlt3 : i' < ts2.length
        · have hlt4 : (i' : Int) < (ts2.length : Int) := by omega
          obtain ⟨pb, po, rfl, p0⟩ := ot_cell HI.out.1.txt2 hlt3
          unfold tc at p0
          have HPS := HSZ2.out i' hlt3
          have HSTEP := Lib.hid (fun (o : Bk) ho => pl_step HI.out.2 hlt3 (o := o) ho)
          have HNO := Lib.hid (fun (hno : ∀ z, ¬ Rt (wds (ts2.getD i' ByteArray.empty).data.toList) z) => show TB (tok L) [] false from tb_no (k := opsOf (ts.getD j ByteArray.empty).data.toList) (ws := wds (ts2.getD i' ByteArray.empty).data.toList) (by rw [HTK2.out]; exact List.mem_map.2 ⟨_, getD_mem ts _ j hlt, rfl⟩) (by unfold opsOf; rw [← HTS2.out, List.map_map]; exact List.mem_map.2 ⟨_, getD_mem ts2 _ i' hlt3, rfl⟩) hno [])
          obtain ⟨pt, ept⟩ : ∃ t, ts2.getD i' ByteArray.empty = t := ⟨_, rfl⟩
          rw [ept] at p0 HPS HSTEP HNO
          have HLO := Lib.hid (fun u => l09ToOp u pt HPS)
          clear ept
          go_wp2_with fail
          refine (HLO.out _).mono ?_
          rintro e y1 ⟨⟨⟨k, a, b⟩, q, he, HA⟩, hb5⟩
          have e0 : e = .returned (.tuple #[.agg #[.int .i64 k, .int .i64 a, .int .i64 b], .bool q]) := he
          subst e0
          have HI1 := Lib.hid (HI.out.1.next hb5)
          obtain ⟨Y2, eY2, hb6, hz6, X6⟩ := box3 y1 26 (.int .i64 k) (.int .i64 a) (.int .i64 b)
          have HI2 := Lib.hid (HI1.out.next hb6)
          have HX6 := Lib.hid X6
          obtain ⟨GO, eGO⟩ : ∃ G, y1.heap.size = G := ⟨_, rfl⟩
          rw [eGO] at HX6
          clear hb5 hb6 hz6 X6 p0 he HLO
          cases q with
          | false =>
            have HT9 := Lib.hid (HNO.out (fun z hz => by have := HA.out.2 z hz; cases this))
            go_wp2_with fail
            go_ret2
            exact ⟨⟨_, _, [], false, rfl, Lib.hid ⟨HT9.out, ns_nil Y2 _ _ HI2.out.bt.size⟩⟩, HI2.out.bt.below.alloc HI2.out.bt.size _⟩
          | true =>
            have HPL := Lib.hid (HSTEP.out (k, a, b) (HA.out.1 rfl))
            have c0 := HI2.out.c
            obtain ⟨d0, d1, d2, j0, j1, j2⟩ := HX6.out
            have HI3 := Lib.hid (HI2.out.next ((Below.refl _ _).alloc (Nat.le_refl _) (.cells #[.int .i64 k, .int .i64 a, .int .i64 b] 26)))
            have hxn : xs.length ≤ 65537 := by have := HXL.out; omega
            have hz7 := Lib.hid (show H0 ≤ Y2.heap.size by have := HI2.out.lg; have := HI2.out.gx; omega)
            go_wp2_with (at_builtin; refine wpList_append_lies _ rfl _ _ _ rfl H0 26 iO _ 3 24 Tryd.underlying53 hiO hzO0 hzO1 hzO2 rfl (by omega) _ xs.length (cl (bc xs) (xs.length * 3)) (by rfl) HI3.out.op ⟨Y2.heap.size, 0, none⟩ 1 1 [.int .i64 k, .int .i64 a, .int .i64 b] (by rfl) (by rfl) (World.news_of_block (cs := #[.int .i64 k, .int .i64 a, .int .i64 b]) (t := 26) (fr := (0, 0)) (heap_alloc_new Y2 _)) (by simp [Value.oneCell']) (by omega) (by unfold maxLen; omega) (by omega) (by have := hz7.out; simp; omega) (Y2.heap.size + 1) (by simp) ?_; intro gg cap3 w6 hown1 hgrow hat1 hlt1; have HO := Lib.hid hown1; have HG := Lib.hid hgrow; obtain ⟨q0, q1⟩ := HI3.out.box hgrow; clear hown1 hgrow hat1 hlt1)
            go_roundw
            case rel => exact ⟨xs ++ [(k, a, b)], gg, cap3, i' + 1, _, rfl, by omega, by go_num, Lib.hid ⟨by rw [show (xs ++ [(k, a, b)]).length = xs.length + 1 by simp]; exact HI3.out.app HG.out HO.out, HPL.out⟩⟩
            case measure => simp [intOf]; omega
        · have hie : i' = ts2.length := by omega
          have hlt4 : ¬ (i' : Int) < (ts2.length : Int) := by omega
          have HPL := Lib.hid (show Pb ts (bss ++ [xs]) (j + 1) from pb_step HPB.out hlt HTS2.out (hie ▸ HI.out.2))
          have c0 := HI.out.1.c
          have HBZ := Lib.hid (HI.out.1.bt.next ((Below.refl _ _).alloc (Nat.le_refl _) (.cells #[.slice (some ⟨gu, 0, none⟩) xs.length cu] 55)))
          have HIZ := Lib.hid (HI.out.1.next ((Below.refl _ _).alloc (Nat.le_refl _) (.cells #[.slice (some ⟨gu, 0, none⟩) xs.length cu] 55)))
          have hz7 := Lib.hid HI.out.1.bt.size
          clear hie
          go_wp2_with (at_builtin; refine wpList_append_lies _ rfl _ _ _ rfl w.heap.size 55 iT _ 1 24 Tryd.underlying36 hiT hzT0 hzT1 hzT2 rfl (by omega) _ bss.length (cl us (bss.length * 1)) (by rfl) HBZ.out.row ⟨y.heap.size, 0, none⟩ 1 1 [.slice (some ⟨gu, 0, none⟩) xs.length cu] (by rfl) (by rfl) (World.news_of_block (cs := #[.slice (some ⟨gu, 0, none⟩) xs.length cu]) (t := 55) (fr := (0, 0)) (heap_alloc_new y _)) (by simp [Value.oneCell']) (by omega) (by unfold maxLen; omega) (by omega) (by have := hz7.out; simp; omega) (y.heap.size + 1) (by simp) ?_; intro gg cap3 w6 hown1 hgrow hat1 hlt1; have HO := Lib.hid hown1; have HG := Lib.hid hgrow; clear hown1 hgrow hat1 hlt1)
          go_roundw
          case rel => exact ⟨fun n => if n = bss.length then .slice (some ⟨gu, 0, none⟩) xs.length cu else us n, bss ++ [xs], j + 1, _, gg, cap3, rfl, by omega, by go_num, by simp, Lib.hid ⟨HIZ.out.bt.snoc HIZ.out.lo (fun n hn k hk => (HIZ.out.lies n hn).off (by right; exact hk)) (row_ot3 HIZ.out.op) HG.out HO.out (fun n hn => lies_apart (HIZ.out.lies n hn) (row_own HIZ.out.op) (by decide)), HPL.out⟩⟩
          case measure => simp [intOf]; omega
    · have hje : j = ts.length := by omega
      have hlt2 : ¬ (j : Int) < (ts.length : Int) := by omega
      have HNS := Lib.hid (Bt.nso H.out.1)
      have HTE := Lib.hid (show TB (tok L) bss (decide (BOk bss)) from tb_end (by rw [H.out.2.1, HTK2.out, hje, List.take_length]) H.out.2.2)
      have HSO := Lib.hid (fun u (hu : Ns u (.slice (some ⟨gv, 0, none⟩) bss.length cv) bss) => BatS.specOk u _ bss hu)
      clear hje
      by_cases hok : BOk bss
      · rw [decide_eq_true hok] at HTE HSO
        clear hok
        go_wp2_with fail
        refine (HSO.out _ HNS.out.ns).mono ?_
        rintro e w7 ⟨rfl, hb7⟩
        have HB7 := Lib.hid hb7
        clear hb7
        go_wp2_with fail
        go_ret2
        exact ⟨⟨_, us, bss, true, rfl, Lib.hid ⟨HTE.out, HNS.out.below HB7.out⟩⟩, H.out.1.below.trans (HB7.out.mono H.out.1.size)⟩
      · rw [decide_eq_false hok] at HTE HSO
        clear hok
        go_wp2_with fail
        refine (HSO.out _ HNS.out.ns).mono ?_
        rintro e w7 ⟨rfl, hb7⟩
        have HB7 := Lib.hid (H.out.1.below.trans (hb7.mono H.out.1.size))
        have HZ7 := Lib.hid (show w.heap.size ≤ w7.heap.size from Nat.le_trans H.out.1.size hb7.size)
        clear hb7
        go_wp2_with fail
        go_ret2
        exact ⟨⟨_, _, [], false, rfl, Lib.hid ⟨⟨fun e => (by cases e), HTE.out.2⟩, ns_nil w7 _ _ HZ7.out⟩⟩, HB7.out.alloc HZ7.out _⟩
end Go.Proofs.YtidbkamadclchaaDoor.ToBatM
