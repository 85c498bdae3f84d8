/-
  What is proved: the laws' functions on hidden maps: their size counted, compared, copied into new memory, marked and found marked (contracts for the walks).
-/
import Derived.Test.YtealdpkgfmokpaaRows
import Derived.Test.YtealdpkgfmokpaaEncP
import Derived.Test.YtealdpkgfmokpaaHeldN
namespace Go.Proofs.Ytealdpkgfmokpaa.EncL
open Go.ChangeShapes Go.WideShapes Go.ChangeAt Go.RowKit
open Sl (Sl Own Off)
open OpenSl (tc nc pc)
open Dev Orm LawO LawO2 Box3 LawO3 LawO4 EncP
open LawN (mi)
set_option linter.unusedVariables false

set_option maxRecDepth 100000 in
set_option maxHeartbeats 800000 in
theorem szEnc (w : World) (v : Value) (m : Em) (h : RdE w v m) (L : Nat) (hL : L ≤ 1048576) :
    Calls Try.prog 50 #[v, .int .i64 L] w fun e w' => (∃ r : Int, e = .returned (.int .i64 r) ∧ (r = -1 ∨ ∃ R : Nat, r = R ∧ R + totE m = L)) ∧ Below w.heap.size w w' := by
  obtain ⟨k, p, s, b, rfl, h1, h2⟩ := h
  have HB := Lib.hid ((Below.refl w.heap.size w).alloc (Nat.le_refl _) (.cells #[k, p, s, b] 87))
  have H1 := Lib.hid (h1.below HB.out)
  have H2 := Lib.hid (h2.below HB.out)
  clear h1 h2
  go_enter Try.func50, Try.ntmps50
  go_wp2_with fail
  refine (szIntS _ k m.ks H1.out L hL).mono ?_
  rintro e w1 ⟨⟨r, rfl, hr⟩, rfl⟩
  rcases hr with rfl | ⟨R, rfl, hR⟩
  · go_wp2_with fail
    go_ret
    exact ⟨⟨_, rfl, .inl rfl⟩, HB.out⟩
  have HR := Lib.hid hR
  have hR1 : R ≤ 1048576 := by omega
  clear hR
  go_wp2_with fail
  refine (szOram _ _ m.o H2.out R hR1).mono ?_
  rintro e w2 ⟨⟨r, rfl, hr⟩, hb⟩
  have HB2 := Lib.hid (HB.out.trans (hb.mono HB.out.size))
  clear hb
  rcases hr with rfl | ⟨R2, rfl, hR⟩
  · go_wp2_with fail
    go_ret
    exact ⟨⟨_, rfl, .inl rfl⟩, HB2.out⟩
  have HR2 := Lib.hid hR
  clear hR
  go_wp2_with fail
  go_ret
  exact ⟨⟨_, rfl, .inr ⟨R2, rfl, by have := HR.out; have := HR2.out; unfold totE; omega⟩⟩, HB2.out⟩

set_option maxRecDepth 100000 in
set_option maxHeartbeats 800000 in
theorem eqEnc (w : World) (u v : Value) (m : Em) (h : RdE w u m) (h' : RdE w v m) :
    Calls Try.prog 45 #[u, v] w fun e w' => e = .returned (.bool true) ∧ Below w.heap.size w w' := by
  obtain ⟨k, p, s, b, rfl, h1, h2⟩ := h
  obtain ⟨k', p', s', b', rfl, h1', h2'⟩ := h'
  obtain ⟨U, e1, hb1, hz1, X1⟩ := box4 w 77 k p s b
  obtain ⟨V, e2, hb2, hz2, X2⟩ := box4 U 77 k' p' s' b'
  have hbb := hb1.trans (hb2.mono hb1.size)
  have HB := Lib.hid hbb
  have H1 := Lib.hid (h1.below hbb)
  have H2 := Lib.hid (h2.below hbb)
  have H1' := Lib.hid (h1'.below hbb)
  have H2' := Lib.hid (h2'.below hbb)
  have X1 := X1.below hb2
  obtain ⟨G1, eG1⟩ : ∃ G1, w.heap.size = G1 := ⟨_, rfl⟩
  obtain ⟨G2, eG2⟩ : ∃ G2, U.heap.size = G2 := ⟨_, rfl⟩
  rw [eG1] at X1
  rw [eG2] at X2
  have HX1 := Lib.hid X1
  have HX2 := Lib.hid X2
  obtain ⟨c0, c1, c2, c3, _, _, _, _⟩ := X1
  obtain ⟨d0, d1, d2, d3, _, _, _, _⟩ := X2
  clear h1 h2 h1' h2' hb1 hb2 hbb hz1 hz2
  go_enter Try.func45, Try.ntmps45
  go_wp2_with fail
  clear e1 e2 eG1 eG2
  refine (LawN.eqIntS _ k k' m.ks H1.out H1'.out).mono ?_
  rintro e w1 ⟨rfl, hb⟩
  have HY1 := Lib.hid (HX1.out.below hb)
  have HY2 := Lib.hid (HX2.out.below hb)
  have HB2 := Lib.hid (HB.out.trans (hb.mono HB.out.size))
  have K2 := Lib.hid (H2.out.below hb)
  have K2' := Lib.hid (H2'.out.below hb)
  clear hb c0 c1 c2 c3 d0 d1 d2 d3
  obtain ⟨c0, c1, c2, c3, _, _, _, _⟩ := HY1.out
  obtain ⟨d0, d1, d2, d3, _, _, _, _⟩ := HY2.out
  go_wp2_with fail
  refine (eqOram _ _ _ m.o K2.out K2'.out).mono ?_
  rintro e w2 ⟨rfl, hb⟩
  have HB3 := Lib.hid (HB2.out.trans (hb.mono HB2.out.size))
  clear hb
  go_wp2_with fail
  go_ret
  exact ⟨rfl, HB3.out⟩

set_option maxRecDepth 100000 in
set_option maxHeartbeats 1600000 in
theorem toEnc (w : World) (v : Value) (m : Em) (h : RdE w v m) (hn : totE m ≤ 1048576) :
    Calls Try.prog 52 #[v] w fun e w' => ∃ r, e = .returned r ∧ EO w' w.heap.size w'.heap.size r m ∧ Below w.heap.size w w' := by
  have HN := Lib.hid (show m.ks.length ≤ 1048576 ∧ tot m.o ≤ 1048576 by unfold totE at hn; omega)
  obtain ⟨k, p, s, b, rfl, h1, h2⟩ := h
  obtain ⟨U1, e1, hb1, hz1, B1⟩ := box4 w 87 k p s b
  obtain ⟨U2, e2, hb2, hz2, B2⟩ := box4 U1 77 (.slice none 0 0) (.slice none 0 0) (.slice none 0 0) (.slice none 0 0)
  obtain ⟨U3, e3, hb3, hz3, B3⟩ := box4 U2 77 (.slice none 0 0) (.slice none 0 0) (.slice none 0 0) (.slice none 0 0)
  have hbb := hb1.trans ((hb2.mono hb1.size).trans (hb3.mono (by omega)))
  have HB := Lib.hid hbb
  have H1 := Lib.hid h1
  have H2 := Lib.hid h2
  have X1 := (B1.below hb2).below hb3
  have X2 := B2.below hb3
  have X3 := B3
  obtain ⟨G1, eG1⟩ : ∃ G1, w.heap.size = G1 := ⟨_, rfl⟩
  obtain ⟨G2, eG2⟩ : ∃ G2, U1.heap.size = G2 := ⟨_, rfl⟩
  obtain ⟨G3, eG3⟩ : ∃ G3, U2.heap.size = G3 := ⟨_, rfl⟩
  obtain ⟨N, eN⟩ : ∃ N, U3.heap.size = N := ⟨_, rfl⟩
  have EN := Lib.hid eN
  have HZ := Lib.hid (show G1 < G2 ∧ G2 < G3 ∧ G3 < N by omega)
  have HG := Lib.hid eG1
  rw [eG1] at X1
  rw [eG2] at X2
  rw [eG3] at X3
  have HX1 := Lib.hid X1
  have HX2 := Lib.hid X2
  have HX3 := Lib.hid X3
  obtain ⟨c0, c1, c2, c3, f0, f1, f2, f3⟩ := X1
  obtain ⟨d0, d1, d2, d3, j0, j1, j2, j3⟩ := X2
  obtain ⟨k0, k1, k2, k3, l0, l1, l2, l3⟩ := X3
  clear hb1 hb2 hb3 hz1 hz2 hz3 B1 B2 B3 h1 h2 hn hbb eN
  go_enter Try.func52, Try.ntmps52
  go_wp2_with fail
  clear c0 c1 c2 c3 f0 f1 f2 f3 d0 d1 d2 d3 j0 j1 j2 j3 k0 k1 k2 k3 l0 l1 l2 l3 e1 e2 e3 eG1 eG2 eG3
  refine (LawN.toIntS U3 k m.ks (H1.out.below HB.out) HN.out.1).mono ?_
  rintro e w1 ⟨r1, rfl, ho, hb⟩
  have K1 := HX1.out.below hb
  have K2 := HX2.out.below hb
  have K3 := HX3.out.below hb
  have HO1 := Lib.hid (ho.base (base' := N) (by rw [EN.out]; exact Nat.le_refl _))
  have HB1 := Lib.hid (show Below w.heap.size w w1 from HB.out.trans (hb.mono (by rw [← HG.out] at *; exact HB.out.size)))
  have HL1 := Lib.hid (show N ≤ w1.heap.size by rw [← EN.out]; exact hb.size)
  obtain ⟨a1, p1, rfl, _, _⟩ := ho.sl.form
  clear ho hb H1 HX1 HX2 HX3 HB
  obtain ⟨c0, c1, c2, c3, f0, f1, f2, f3⟩ := id K1
  obtain ⟨k0, k1, k2, k3, l0, l1, l2, l3⟩ := id K3
  have HK1 := Lib.hid K1
  have HK2 := Lib.hid K2
  have HK3 := Lib.hid K3
  clear K1 K2 K3
  go_wp2_with fail
  clear c0 c1 c2 c3 f0 f1 f2 f3 k0 k1 k2 k3 l0 l1 l2 l3
  generalize ew : World.setCell w1 _ _ = W1
  have om : G1 ≠ G3 ∧ G2 ≠ G3 ∧ w.heap.size ≤ G3 ∧ G3 < N := by have := HZ.out; have := HG.out; omega
  have HO2 := Lib.hid (show Own W1 N 1 (.slice a1 m.ks.length p1) m.ks.length (nc m.ks) from by rw [← ew]; exact own_set_off HO1.out (own_low HO1.out G3 om.2.2.2) _ _)
  have HB2 := Lib.hid (show Below w.heap.size w W1 from by rw [← ew]; exact HB1.out.setCell (p := ⟨G3, 0, none⟩) om.2.2.1 _)
  have HL2 := Lib.hid (show N ≤ W1.heap.size from by rw [← ew]; simpa using HL1.out)
  have HX2 := Lib.hid (show B4 W1 G2 (.slice none 0 0) (.slice none 0 0) (.slice none 0 0) (.slice none 0 0) from by rw [← ew]; exact HK2.out.other om.2.1 _ _)
  have HX3 := Lib.hid (show B4 W1 G3 (.slice a1 m.ks.length p1) (.slice none 0 0) (.slice none 0 0) (.slice none 0 0) from by rw [← ew]; exact HK3.out.set0 _)
  have HLI := Lib.hid (show Lies N W1.heap.size (.slice a1 m.ks.length p1) from by have := lies_of HO1.out (by omega); rw [← ew]; simpa using this)
  clear ew HO1 HB1 HL1 HK1 HK2 HK3
  refine (toOram W1 _ m.o (H2.out.below HB2.out) HN.out.2).mono ?_
  rintro e w3 ⟨r3, rfl, ho, hb⟩
  have K2 := HX2.out.below hb
  have K3 := HX3.out.below hb
  have HOA := Lib.hid (HO2.out.below hb)
  obtain ⟨aP, cP, aS, cS, aB, cB, rfl⟩ := Orm.form ho.rd
  have HOE := Lib.hid (EO.mk (e := m) HOA.out HLI.out ho HL2.out hb.size)
  have HB5 := Lib.hid (show Below w.heap.size w w3 from HB2.out.trans (hb.mono HB2.out.size))
  have HN3 := Lib.hid (Nat.le_trans HL2.out hb.size)
  clear ho hb H2 HX2 HX3 HB2 HO2 HL2 om HOA
  have gn1 : ¬ G2 = G3 := by have := HZ.out; omega
  have gn2 : ¬ G3 = G2 := by have := HZ.out; omega
  have HGG := Lib.hid (show G2 < N ∧ G3 < N ∧ w.heap.size ≤ G2 ∧ w.heap.size ≤ G3 from by have := HZ.out; have := HG.out; omega)
  obtain ⟨V, eV, XV, hsV, hbV, hoV⟩ := put_tree K3 (.slice aP m.o.pos.length cP) (.slice aS m.o.st.length cS) (.slice aB m.o.bk.length cB)
  have HEV := Lib.hid (show EO V N w3.heap.size (.agg #[.slice a1 m.ks.length p1, .slice aP m.o.pos.length cP, .slice aS m.o.st.length cS, .slice aB m.o.bk.length cB]) m from by
    rw [← eV]
    exact eO_set_off (eO_set_off (eO_set_off HOE.out (.inl HGG.out.2.1) _ _) (.inl HGG.out.2.1) _ _) (.inl HGG.out.2.1) _ _)
  obtain ⟨F, eF, hF, XF, hsF, hbF⟩ := put_enc HEV.out (g := G2) (.inl HGG.out.1) (K2.block (hoV G2 gn1))
  have HFE := Lib.hid (show EO F w.heap.size F.heap.size (.agg #[.slice a1 m.ks.length p1, .slice aP m.o.pos.length cP, .slice aS m.o.st.length cS, .slice aB m.o.bk.length cB]) m from hF.wide (by have := HGG.out; omega) (by omega))
  have HFB := Lib.hid (show Below w.heap.size w F from (HB5.out.trans (hbV _ HGG.out.2.2.2)).trans (hbF _ HGG.out.2.2.1))
  have X2V := K2.block (hoV G2 gn1)
  obtain ⟨R0, R1, R2, R3, _, _, _, _⟩ := XF
  obtain ⟨k0, k1, k2, k3, l0, l1, l2, l3⟩ := id K3
  obtain ⟨v0, v1, v2, v3, _, _, _, _⟩ := XV
  obtain ⟨d0, d1, d2, d3, j0, j1, j2, j3⟩ := X2V
  clear K2 K3 hF hsF hbF hsV hbV hoV
  go_wp2_with fail
  refine bodyPost_ret (v := .agg #[.slice a1 m.ks.length p1, .slice aP m.o.pos.length cP, .slice aS m.o.st.length cS, .slice aB m.o.bk.length cB]) (by simp [results, Try.results52, go_sem, R0, R1, R2, R3]) rfl ⟨_, rfl, HFE.out, HFB.out⟩

set_option maxRecDepth 100000 in
set_option maxHeartbeats 800000 in
theorem markOramT (w : World) (lo : Nat) (p s b : Value) (vs : Nat → Value) (o : Om) (h1 : Own w lo 1 p o.pos.length (nc o.pos)) (h2 : Own w lo 3 s o.st.length (bc o.st)) (h3 : NsO w lo b o.bk vs)
    (ha : Apart p s ∧ Apart p b ∧ Apart s b ∧ (∀ j, j < o.bk.length → Apart p (vs j)) ∧ ∀ j, j < o.bk.length → Apart s (vs j)) (k : Nat) (hk : k + wt o ≤ 10000000) :
    Calls Try.prog 15 #[.agg #[p, s, b], .int .i64 k] w fun e w' => e = .returned (.int .i64 ((k + wt o : Nat) : Int)) ∧ Mk w' k (.agg #[p, s, b]) o ∧ Turns (sls p s b o.bk.length vs) w w' := by
  obtain ⟨U, e1, hb, hz, X⟩ := box3 w 31 p s b
  obtain ⟨G, eG⟩ : ∃ G, w.heap.size = G := ⟨_, rfl⟩
  have HT := Lib.hid (Turns.of_below (vs := sls p s b o.bk.length vs) hb)
  have HF1 := Lib.hid (h1.sl.off (by omega) G (by omega))
  have HF2 := Lib.hid (h2.sl.off (by omega) G (by omega))
  have H1 := Lib.hid (h1.below hb)
  have H2 := Lib.hid (h2.below hb)
  have H3 := Lib.hid (h3.below hb)
  have HA := Lib.hid ha
  rw [eG] at X
  have HX := Lib.hid X
  obtain ⟨c0, c1, c2, f0, f1, f2⟩ := X
  unfold wt at hk
  obtain ⟨k1, e1'⟩ : ∃ k1, k + o.pos.length = k1 := ⟨_, rfl⟩
  obtain ⟨k2, e2'⟩ : ∃ k2, k1 + o.st.length * 3 = k2 := ⟨_, rfl⟩
  obtain ⟨k3, e3'⟩ : ∃ k3, k2 + sm o.bk o.bk.length * 3 = k3 := ⟨_, rfl⟩
  have E1 := Lib.hid e1'
  have E2 := Lib.hid e2'
  have E3 := Lib.hid e3'
  have HK := Lib.hid (show k1 ≤ 10000000 ∧ k2 ≤ 10000000 ∧ k3 ≤ 10000000 by omega)
  have hret : k + wt o = k3 := by unfold wt; omega
  rw [hret]
  clear h1 h2 h3 hb hz e1' e2' e3' hret hk ha
  go_enter Try.func15, Try.ntmps15
  go_wp2_with fail
  clear e1 eG
  refine (LawN.markIntS U lo p o.pos.length _ H1.out k (by have := E1.out; have := HK.out; omega)).mono ?_
  rw [E1.out]
  rintro e u1 ⟨rfl, ho, ht⟩
  have HX1 := Lib.hid (HX.out.turns ht (fun v hv => by obtain rfl := List.mem_singleton.1 hv; exact HF1.out))
  have HP1 := Lib.hid ho
  have HS1 := Lib.hid (own_turns H2.out ht (fun v hv => by obtain rfl := List.mem_singleton.1 hv; exact HA.out.1.symm))
  have HN1 := Lib.hid (show NsO u1 lo b o.bk vs from ⟨own_turns H3.out.out ht (fun v hv => by obtain rfl := List.mem_singleton.1 hv; exact HA.out.2.1.symm), fun j hj => own_turns (H3.out.inn j hj) ht (fun v hv => by obtain rfl := List.mem_singleton.1 hv; exact (HA.out.2.2.2.1 j hj).symm), H3.out.off, H3.out.each⟩)
  have HT1 := Lib.hid (HT.out.trans (ht.more (fun v hv => by obtain rfl := List.mem_singleton.1 hv; simp [sls])))
  clear ho ht c0 c1 c2 f0 f1 f2 HX H1 H2 H3 HT
  obtain ⟨c0, c1, c2, f0, f1, f2⟩ := HX1.out
  go_wp2_with fail
  refine (markBlockS u1 lo s o.st.length _ HS1.out k1 (by have := E2.out; have := HK.out; omega)).mono ?_
  rw [E2.out]
  rintro e u2 ⟨rfl, ho, ht⟩
  have HX2 := Lib.hid (HX1.out.turns ht (fun v hv => by obtain rfl := List.mem_singleton.1 hv; exact HF2.out))
  have HP2 := Lib.hid (own_turns HP1.out ht (fun v hv => by obtain rfl := List.mem_singleton.1 hv; exact HA.out.1))
  have HS2 := Lib.hid ho
  have HN2 := Lib.hid (show NsO u2 lo b o.bk vs from ⟨own_turns HN1.out.out ht (fun v hv => by obtain rfl := List.mem_singleton.1 hv; exact HA.out.2.2.1.symm), fun j hj => own_turns (HN1.out.inn j hj) ht (fun v hv => by obtain rfl := List.mem_singleton.1 hv; exact (HA.out.2.2.2.2 j hj).symm), HN1.out.off, HN1.out.each⟩)
  have HT2 := Lib.hid (HT1.out.trans (ht.more (fun v hv => by obtain rfl := List.mem_singleton.1 hv; simp [sls])))
  clear ho ht c0 c1 c2 f0 f1 f2 HX1 HP1 HS1 HN1 HT1
  obtain ⟨c0, c1, c2, f0, f1, f2⟩ := HX2.out
  go_wp2_with fail
  refine (markBlockSS u2 lo b o.bk vs HN2.out k2 (by have := E3.out; have := HK.out; omega)).mono ?_
  rw [E3.out]
  rintro e u3 ⟨rfl, ho, hin, ht⟩
  have hmem : ∀ {X : Value}, (∀ j, j < o.bk.length → Apart X (vs j)) → ∀ u ∈ (List.range o.bk.length).map vs, Apart X u := by
    intro X hX u hu
    obtain ⟨j, hj, rfl⟩ := List.mem_map.1 hu
    exact hX j (List.mem_range.1 hj)
  have HP3 := Lib.hid (own_turns HP2.out ht (hmem HA.out.2.2.2.1))
  have HS3 := Lib.hid (own_turns HS2.out ht (hmem HA.out.2.2.2.2))
  have HT3 := Lib.hid (HT2.out.trans (ht.more (fun v hv => by unfold sls; exact List.mem_cons_of_mem _ (List.mem_cons_of_mem _ (List.mem_cons_of_mem _ hv)))))
  have HO3 := Lib.hid ho
  have HI3 := Lib.hid hin
  clear ho hin ht hmem
  go_wp2_with fail
  go_ret
  refine ⟨rfl, ⟨p, s, b, vs, rfl, HP3.out.sl, by rw [E1.out]; exact HS3.out.sl, HO3.out.sl, fun j hj => ?_⟩, HT3.out⟩
  rw [E1.out, E2.out]
  exact (HI3.out j hj).sl

set_option maxRecDepth 100000 in
set_option maxHeartbeats 800000 in
theorem markEnc (w : World) (lo hi : Nat) (v : Value) (m : Em) (h : EO w lo hi v m) (hhi : hi ≤ w.heap.size) (k : Nat) (hk : k + wtE m ≤ 10000000) :
    Calls Try.prog 48 #[v, .int .i64 k] w fun e w' => e = .returned (.int .i64 ((k + wtE m : Nat) : Int)) ∧ MkE w' k v m ∧ TurnsR lo hi w w' := by
  obtain ⟨q, p, s, b, vs, rfl, ⟨h0, l0⟩, ⟨h1, h2, h3, ha, l1, l2, l3, l4⟩, hq0, hq1, hq2, hq3⟩ := h
  obtain ⟨U, e1, hb, hz, X⟩ := box4 w 77 q p s b
  obtain ⟨G, eG⟩ : ∃ G, w.heap.size = G := ⟨_, rfl⟩
  have HT := Lib.hid (TurnsR.of_below (lo := lo) (hi := hi) hb)
  have HF := Lib.hid (h0.sl.off (by omega) G (by omega))
  have H0 := Lib.hid (h0.below hb)
  have H1 := Lib.hid (h1.below hb)
  have H2 := Lib.hid (h2.below hb)
  have H3 := Lib.hid (h3.below hb)
  have HA := Lib.hid ha
  have HQ := Lib.hid (And.intro hq0 (And.intro hq1 (And.intro hq2 hq3)))
  have HL := Lib.hid (And.intro l0 (And.intro l1 (And.intro l2 (And.intro l3 l4))))
  rw [eG] at X
  have HX := Lib.hid X
  obtain ⟨c0, c1, c2, c3, f0, f1, f2, f3⟩ := X
  unfold wtE at hk
  obtain ⟨k1, e1'⟩ : ∃ k1, k + m.ks.length = k1 := ⟨_, rfl⟩
  obtain ⟨k2, e2'⟩ : ∃ k2, k1 + wt m.o = k2 := ⟨_, rfl⟩
  have E1 := Lib.hid e1'
  have E2 := Lib.hid e2'
  have HK := Lib.hid (show k1 ≤ 10000000 ∧ k2 ≤ 10000000 by omega)
  have hret : k + wtE m = k2 := by unfold wtE; omega
  rw [hret]
  clear h0 h1 h2 h3 hb hz e1' e2' hret hk ha hq0 hq1 hq2 hq3 l0 l1 l2 l3 l4 hhi
  go_enter Try.func48, Try.ntmps48
  go_wp2_with fail
  clear e1 eG
  refine (LawN.markIntS U lo q m.ks.length _ H0.out k (by have := E1.out; have := HK.out; omega)).mono ?_
  rw [E1.out]
  rintro e u1 ⟨rfl, ho, ht⟩
  have HX1 := Lib.hid (HX.out.turns ht (fun v hv => by obtain rfl := List.mem_singleton.1 hv; exact HF.out))
  have HQ1 := Lib.hid ho
  have HP1 := Lib.hid (own_turns H1.out ht (fun v hv => by obtain rfl := List.mem_singleton.1 hv; exact HQ.out.1.symm))
  have HS1 := Lib.hid (own_turns H2.out ht (fun v hv => by obtain rfl := List.mem_singleton.1 hv; exact HQ.out.2.1.symm))
  have HN1 := Lib.hid (show NsO u1 lo b m.o.bk vs from ⟨own_turns H3.out.out ht (fun v hv => by obtain rfl := List.mem_singleton.1 hv; exact HQ.out.2.2.1.symm), fun j hj => own_turns (H3.out.inn j hj) ht (fun v hv => by obtain rfl := List.mem_singleton.1 hv; exact (HQ.out.2.2.2 j hj).symm), H3.out.off, H3.out.each⟩)
  have HT1 := Lib.hid (HT.out.trans (TurnsR.of_turns ht (fun v hv => by obtain rfl := List.mem_singleton.1 hv; exact HL.out.1)))
  clear ho ht c0 c1 c2 c3 f0 f1 f2 f3 HX H0 H1 H2 H3 HT
  obtain ⟨c0, c1, c2, c3, f0, f1, f2, f3⟩ := HX1.out
  go_wp2_with fail
  refine (markOramT u1 lo p s b vs m.o HP1.out HS1.out HN1.out HA.out k1 (by have := E2.out; have := HK.out; omega)).mono ?_
  rw [E2.out]
  rintro e u2 ⟨rfl, hm, ht⟩
  have HM := Lib.hid hm
  have HQ2 := Lib.hid (own_turns HQ1.out ht (off_sls HQ.out.1 HQ.out.2.1 HQ.out.2.2.1 HQ.out.2.2.2))
  have HT2 := Lib.hid (HT1.out.trans (TurnsR.of_turns ht (fun v hv => by
    rcases mem_sls hv with rfl | rfl | rfl | ⟨j, hj, rfl⟩
    · exact HL.out.2.1
    · exact HL.out.2.2.1
    · exact HL.out.2.2.2.1
    · exact HL.out.2.2.2.2 j hj)))
  clear hm ht
  go_wp2_with fail
  go_ret
  exact ⟨rfl, ⟨q, p, s, b, rfl, HQ2.out.sl, by rw [E1.out]; exact HM.out⟩, HT2.out⟩

set_option maxRecDepth 100000 in
set_option maxHeartbeats 800000 in
theorem heldEnc (w : World) (k : Nat) (v : Value) (m : Em) (h : MkE w k v m) (hk : k + wtE m ≤ 10000000) :
    Calls Try.prog 49 #[v, .int .i64 k] w fun e w' => e = .returned (.int .i64 ((k + wtE m : Nat) : Int)) ∧ Below w.heap.size w w' := by
  obtain ⟨q, p, s, b, rfl, h0, h1⟩ := h
  obtain ⟨U, e1, hb, hz, X⟩ := box4 w 77 q p s b
  have HB := Lib.hid hb
  have H0 := Lib.hid (h0.below hb)
  have H1 := Lib.hid (h1.below hb)
  obtain ⟨G, eG⟩ : ∃ G, w.heap.size = G := ⟨_, rfl⟩
  rw [eG] at X
  have HX := Lib.hid X
  obtain ⟨c0, c1, c2, c3, f0, f1, f2, f3⟩ := X
  unfold wtE at hk
  obtain ⟨k1, e1'⟩ : ∃ k1, k + m.ks.length = k1 := ⟨_, rfl⟩
  obtain ⟨k2, e2'⟩ : ∃ k2, k1 + wt m.o = k2 := ⟨_, rfl⟩
  have E1 := Lib.hid e1'
  have E2 := Lib.hid e2'
  have HK := Lib.hid (show k1 ≤ 10000000 ∧ k2 ≤ 10000000 by omega)
  have hret : k + wtE m = k2 := by unfold wtE; omega
  rw [hret]
  rw [e1'] at H1
  clear h0 h1 hb hz e1' e2' hret hk
  have d1 : decide ((k1 : Int) < 0) = false := decide_eq_false (by omega)
  have d2 : decide ((k2 : Int) < 0) = false := decide_eq_false (by omega)
  go_enter Try.func49, Try.ntmps49
  go_wp2_with fail
  clear e1 eG
  refine (HeldN.heldIntS U q m.ks.length k H0.out (by have := E1.out; have := HK.out; omega)).mono ?_
  rw [E1.out]
  rintro e u1 ⟨rfl, hb⟩
  have HB1 := Lib.hid (HB.out.trans (hb.mono HB.out.size))
  have HX1 := Lib.hid (HX.out.below hb)
  have H1b := Lib.hid (H1.out.below hb)
  clear hb c0 c1 c2 c3 f0 f1 f2 f3 HX HB H1
  obtain ⟨c0, c1, c2, c3, f0, f1, f2, f3⟩ := HX1.out
  go_wp2_with fail
  refine (heldOram u1 k1 _ m.o H1b.out (by have := E2.out; have := HK.out; omega)).mono ?_
  rw [E2.out]
  rintro e u2 ⟨rfl, hb⟩
  have HB2 := Lib.hid (HB1.out.trans (hb.mono HB1.out.size))
  clear hb
  go_wp2_with fail
  go_ret
  exact ⟨rfl, HB2.out⟩
end Go.Proofs.Ytealdpkgfmokpaa.EncL
