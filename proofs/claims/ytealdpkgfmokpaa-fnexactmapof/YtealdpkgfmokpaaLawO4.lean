/-
  What is proved: the laws' functions on slices of slices of blocks and on trees: marked and found marked (contracts for the walks).
-/
import Derived.Test.YtealdpkgfmokpaaRows
import Derived.Test.YtealdpkgfmokpaaLawO3
namespace Go.Proofs.Ytealdpkgfmokpaa.LawO4
open Go.ChangeShapes Go.WideShapes Go.ChangeAt Go.RowKit
open Sl (Sl Own Off)
open OpenSl (tc nc pc)
open Dev Orm LawO LawO2 Box3 LawO3
open LawN (mi)
set_option linter.unusedVariables false

/-- Inner slice i's cells behind j rounds of marking from k on. -/
def mcell (bss : List (List Bk)) (k j i : Nat) : Nat → Value := if i < j then mi (k + sm bss i * 3) else bc (bss.getD i [])
theorem sm_le (bss : List (List Bk)) (j : Nat) (hj : j < bss.length) : sm bss j + (bss.getD j []).length ≤ sm bss bss.length := by
  rw [← sm_succ bss j hj]
  unfold sm
  conv => rhs; rw [List.take_length, ← List.take_append_drop (j + 1) bss, List.map_append, List.sum_append]
  omega

set_option maxRecDepth 100000 in
set_option maxHeartbeats 800000 in
theorem markBlockSS (w : World) (base : Nat) (v : Value) (bss : List (List Bk)) (vs : Nat → Value) (h : NsO w base v bss vs) (k : Nat) (hk : k + sm bss bss.length * 3 ≤ 10000000) :
    Calls Try.prog 73 #[v, .int .i64 k] w fun e w' => e = .returned (.int .i64 ((k + sm bss bss.length * 3 : Nat) : Int)) ∧ Own w' base 1 v bss.length vs ∧ (∀ j, j < bss.length → Own w' base 3 (vs j) (bss.getD j []).length (mi (k + sm bss j * 3))) ∧ Turns ((List.range bss.length).map vs) w w' := by
  have HS := Lib.hid (sm_succ bss)
  have HE := Lib.hid (sm_le bss)
  have HNS := Lib.hid h
  obtain ⟨a, cap, rfl, h1, h2, h3⟩ := h.out
  clear h3 h
  unfold maxLen at h2
  have HAP := Lib.hid HNS.out.off
  have HEA := Lib.hid HNS.out.each
  have H0 := Lib.hid (show Own w base 1 (.slice a bss.length cap) bss.length vs ∧ (∀ i, i < bss.length → Own w base 3 (vs i) (bss.getD i []).length (mcell bss k 0 i)) from ⟨HNS.out.out, fun i hi => by unfold mcell; rw [if_neg (by omega)]; exact HNS.out.inn i hi⟩)
  clear HNS
  generalize eM : sm bss bss.length = M at *
  generalize en : bss.length = n at *
  have EN := Lib.hid en
  have EM := Lib.hid eM
  clear en eM
  go_enter Try.func73, Try.ntmps73
  go_wp2
  go_loopw [1, 5] (fun q i wz => ∃ (j m : Nat) (wr : World), wr = wz ∧ j ≤ n ∧ q = .int .i64 m ∧ i = .int .i64 j ∧ Hid (m = k + sm bss j * 3 ∧ Own wr base 1 (.slice a n cap) n vs ∧ (∀ i, i < n → Own wr base 3 (vs i) (bss.getD i []).length (mcell bss k j i)) ∧ Turns ((List.range n).map vs) w wr)) (fun q i _ => n - (intOf i).toNat)
  case atStart => exact ⟨0, k, _, rfl, by omega, rfl, rfl, Lib.hid ⟨by rw [sm_zero]; omega, H0.out.1, H0.out.2, Turns.refl _ _⟩⟩
  case round =>
    obtain ⟨j, m, wr, rfl, hj, rfl, rfl, HX⟩ := hrel
    by_cases hlt : j < n
    · obtain ⟨b, o, rfl, hb', hc'⟩ := HX.out.2.1.at (by omega)
      have c0 := (hc' j (by omega)).1
      have HI := Lib.hid (HX.out.2.2.1 j hlt)
      have hm : m + (bss.getD j []).length * 3 ≤ 10000000 := by have := HX.out.1; have := HE.out j hlt; omega
      have HM := Lib.hid hm
      have hm2 : m ≤ 10000000 := by omega
      obtain ⟨L, eL⟩ : ∃ L, (bss.getD j []).length = L := ⟨_, rfl⟩
      have EL := Lib.hid eL
      rw [eL] at HI HM
      obtain ⟨a2, cap2, e2, _, _⟩ := HI.out.sl.form
      have E2 := Lib.hid e2
      rw [e2] at c0 HI
      clear hc' hb' hm eL e2
      go_wp2_with fail
      refine (markBlockS wr base _ L _ HI.out m HM.out).mono ?_
      rintro e w1 ⟨rfl, ho, ht⟩
      have HP := Lib.hid (show Own w1 base 1 (.slice (some ⟨b, o, none⟩) n cap) n vs ∧ (∀ i, i < n → Own w1 base 3 (vs i) (bss.getD i []).length (mcell bss k (j + 1) i)) ∧ Turns ((List.range n).map vs) w w1 from by
        refine ⟨own_turns HX.out.2.1 ht (fun u hu => ?_), fun i hi => ?_, HX.out.2.2.2.trans (ht.more (fun u hu => ?_))⟩
        · obtain rfl := List.mem_singleton.1 hu
          rw [← E2.out]
          exact HAP.out j hlt
        · by_cases e : i = j
          · subst e
            rw [E2.out, EL.out]
            unfold mcell
            rw [if_pos (by omega), ← HX.out.1]
            exact ho
          · have := own_turns (HX.out.2.2.1 i hi) ht (fun u hu => by
              obtain rfl := List.mem_singleton.1 hu
              rw [← E2.out]
              exact HEA.out i j hi hlt e)
            refine this.congr fun l _ => ?_
            unfold mcell
            by_cases h5 : i < j
            · rw [if_pos h5, if_pos (by omega)]
            · rw [if_neg h5, if_neg (by omega)]
        · obtain rfl := List.mem_singleton.1 hu
          rw [← E2.out]
          exact List.mem_map.2 ⟨j, List.mem_range.2 hlt, rfl⟩)
      have HQ := Lib.hid (show m + L * 3 = k + sm bss (j + 1) * 3 by rw [HS.out j hlt, EL.out, HX.out.1]; omega)
      obtain ⟨m', em⟩ : ∃ m', m + L * 3 = m' := ⟨_, rfl⟩
      rw [em] at HQ ⊢
      clear ho ht em
      go_wp2
      go_roundw
      case rel => exact ⟨j + 1, m', _, rfl, by omega, by rfl, by go_num, Lib.hid ⟨HQ.out, HP.out⟩⟩
      case measure => simp [intOf]; omega
    · have hj2 := Lib.hid (show j = n by omega)
      go_wp2
      go_ret
      refine ⟨?_, HX.out.2.1, fun i hi => ?_, HX.out.2.2.2⟩
      · show Ending.returned (Value.int .i64 (m : Int)) = _
        rw [HX.out.1, hj2.out, EM.out]
      · have := HX.out.2.2.1 i hi
        unfold mcell at this
        rw [if_pos (by rw [hj2.out]; exact hi)] at this
        exact this

set_option maxRecDepth 100000 in
set_option maxHeartbeats 800000 in
theorem heldBlockSS (w : World) (v : Value) (bss : List (List Bk)) (vs : Nat → Value) (k : Nat) (h : Sl w 1 v bss.length vs) (hi : ∀ j, j < bss.length → Sl w 3 (vs j) (bss.getD j []).length (mi (k + sm bss j * 3))) (hk : k + sm bss bss.length * 3 ≤ 10000000) :
    Calls Try.prog 76 #[v, .int .i64 k] w fun e w' => e = .returned (.int .i64 ((k + sm bss bss.length * 3 : Nat) : Int)) ∧ w' = w := by
  have HS := Lib.hid (sm_succ bss)
  have HE := Lib.hid (sm_le bss)
  obtain ⟨a, cap, rfl, h1, h2, h3⟩ := h
  have H3 := Lib.hid h3
  have HI := Lib.hid hi
  clear h3 hi
  unfold maxLen at h2
  generalize eM : sm bss bss.length = M at *
  generalize en : bss.length = n at *
  have EN := Lib.hid en
  have EM := Lib.hid eM
  clear en eM
  go_enter Try.func76, Try.ntmps76
  go_wp2
  go_loopw [1, 5] (fun q i wr => ∃ j m : Nat, j ≤ n ∧ q = .int .i64 m ∧ i = .int .i64 j ∧ w = wr ∧ Hid (m = k + sm bss j * 3)) (fun q i _ => n - (intOf i).toNat)
  case atStart => exact ⟨0, k, by omega, rfl, rfl, rfl, Lib.hid (by rw [sm_zero]; omega)⟩
  case round =>
    obtain ⟨j, m, hj, rfl, rfl, rfl, HX⟩ := hrel
    by_cases hlt : j < n
    · obtain ⟨b, o, rfl, hc⟩ := H3.out (by omega)
      have c0 := hc j (by omega)
      have HK := Lib.hid (HI.out j hlt)
      rw [← HX.out] at HK
      have hm : m + (bss.getD j []).length * 3 ≤ 10000000 := by have := HX.out; have := HE.out j hlt; omega
      have HM := Lib.hid hm
      have hm2 : m ≤ 10000000 := by omega
      obtain ⟨L, eL⟩ : ∃ L, (bss.getD j []).length = L := ⟨_, rfl⟩
      have EL := Lib.hid eL
      rw [eL] at HK HM
      obtain ⟨a2, cap2, e2, _, _⟩ := HK.out.form
      rw [e2] at c0 HK
      clear hc hm eL e2
      go_wp2_with fail
      refine (heldBlockS _ _ L m HK.out HM.out).mono ?_
      rintro e w1 ⟨rfl, rfl⟩
      have HQ := Lib.hid (show m + L * 3 = k + sm bss (j + 1) * 3 by rw [HS.out j hlt, EL.out, HX.out]; omega)
      obtain ⟨m', em⟩ : ∃ m', m + L * 3 = m' := ⟨_, rfl⟩
      rw [em] at HQ ⊢
      clear em
      have d0 : decide ((m' : Int) < 0) = false := decide_eq_false (by omega)
      go_wp2
      go_roundw
      case rel => exact ⟨j + 1, m', by omega, by rfl, by go_num, by trivial, Lib.hid HQ.out⟩
      case measure => simp [intOf]; omega
    · have hj2 := Lib.hid (show j = n by omega)
      go_wp2
      go_ret
      refine ⟨?_, rfl⟩
      show Ending.returned (Value.int .i64 (m : Int)) = _
      rw [HX.out, hj2.out, EM.out]

/-- How many cells there are in all. -/
def wt (o : Om) : Nat := o.pos.length + o.st.length * 3 + sm o.bk o.bk.length * 3
theorem wt_le (o : Om) : wt o ≤ tot o * 3 := by unfold wt tot; rw [sm_all]; omega
/-- A tree that is marked from k on. -/
def Mk (w : World) (k : Nat) (v : Value) (o : Om) : Prop := ∃ p s b vs, v = .agg #[p, s, b] ∧ Sl w 1 p o.pos.length (mi k) ∧ Sl w 3 s o.st.length (mi (k + o.pos.length)) ∧ Sl w 1 b o.bk.length vs ∧
  ∀ j, j < o.bk.length → Sl w 3 (vs j) (o.bk.getD j []).length (mi (k + o.pos.length + o.st.length * 3 + sm o.bk j * 3))
theorem Mk.below {w w' : World} {k : Nat} {v : Value} {o : Om} (h : Mk w k v o) (hb : Below w.heap.size w w') : Mk w' k v o := by
  obtain ⟨p, s, b, vs, rfl, h1, h2, h3, h4⟩ := h
  exact ⟨p, s, b, vs, rfl, h1.below hb, h2.below hb, h3.below hb, fun j hj => (h4 j hj).below hb⟩

set_option maxRecDepth 100000 in
set_option maxHeartbeats 800000 in
theorem heldOram (w : World) (k : Nat) (v : Value) (o : Om) (h : Mk w k v o) (hk : k + wt o ≤ 10000000) :
    Calls Try.prog 16 #[v, .int .i64 k] w fun e w' => e = .returned (.int .i64 ((k + wt o : Nat) : Int)) ∧ Below w.heap.size w w' := by
  obtain ⟨p, s, b, vs, rfl, h1, h2, h3, h4⟩ := h
  obtain ⟨U, e1, hb, hz, X⟩ := box3 w 31 p s b
  obtain ⟨G, eG⟩ : ∃ G, w.heap.size = G := ⟨_, rfl⟩
  have HB := Lib.hid hb
  have H1 := Lib.hid (h1.below hb)
  have H2 := Lib.hid (h2.below hb)
  have H3 := Lib.hid (h3.below hb)
  have H4 := Lib.hid (fun j hj => (h4 j hj).below hb)
  rw [eG] at X
  have HX := Lib.hid X
  obtain ⟨c0, c1, c2, f0, f1, f2⟩ := X
  unfold wt at hk
  obtain ⟨k1, e1'⟩ : ∃ k1, k + o.pos.length = k1 := ⟨_, rfl⟩
  obtain ⟨k2, e2'⟩ : ∃ k2, k1 + o.st.length * 3 = k2 := ⟨_, rfl⟩
  obtain ⟨k3, e3'⟩ : ∃ k3, k2 + sm o.bk o.bk.length * 3 = k3 := ⟨_, rfl⟩
  have E1 := Lib.hid e1'
  have E2 := Lib.hid e2'
  have E3 := Lib.hid e3'
  have hk3 : k1 ≤ 10000000 ∧ k2 ≤ 10000000 ∧ k3 ≤ 10000000 := by omega
  have HK := Lib.hid hk3
  rw [e1'] at H2 H4
  rw [e2'] at H4
  have hret : k + wt o = k3 := by unfold wt; omega
  rw [hret]
  clear h1 h2 h3 h4 hb hz e1' e2' e3' hret hk
  have d1 : decide ((k1 : Int) < 0) = false := decide_eq_false (by omega)
  have d2 : decide ((k2 : Int) < 0) = false := decide_eq_false (by omega)
  have d3 : decide ((k3 : Int) < 0) = false := decide_eq_false (by omega)
  go_enter Try.func16, Try.ntmps16
  go_wp2_with fail
  clear e1 eG
  refine (HeldN.heldIntS U p o.pos.length k H1.out (by have := E1.out; have := HK.out; omega)).mono ?_
  rw [E1.out]
  rintro e u1 ⟨rfl, hb⟩
  have HB1 := Lib.hid (HB.out.trans (hb.mono HB.out.size))
  have H2b := Lib.hid (H2.out.below hb)
  have H3b := Lib.hid (H3.out.below hb)
  have H4b := Lib.hid (fun j hj => (H4.out j hj).below hb)
  have HX1 := Lib.hid (HX.out.below hb)
  clear hb c0 c1 c2 f0 f1 f2 HB H1 H2 H3 H4 HX
  obtain ⟨c0, c1, c2, f0, f1, f2⟩ := HX1.out
  go_wp2_with fail
  refine (heldBlockS u1 s o.st.length k1 H2b.out (by have := E2.out; have := HK.out; omega)).mono ?_
  rw [E2.out]
  rintro e u2 ⟨rfl, rfl⟩
  go_wp2_with fail
  refine (heldBlockSS _ b o.bk vs k2 H3b.out H4b.out (by have := E3.out; have := HK.out; omega)).mono ?_
  rw [E3.out]
  rintro e u3 ⟨rfl, rfl⟩
  go_wp2_with fail
  go_ret
  exact ⟨rfl, HB1.out⟩

set_option maxRecDepth 100000 in
set_option maxHeartbeats 800000 in
theorem markOram (w : World) (lo hi : Nat) (v : Value) (o : Om) (h : RdO w lo hi v o) (hhi : hi ≤ w.heap.size) (k : Nat) (hk : k + wt o ≤ 10000000) :
    Calls Try.prog 15 #[v, .int .i64 k] w fun e w' => e = .returned (.int .i64 ((k + wt o : Nat) : Int)) ∧ Mk w' k v o ∧ TurnsR lo hi w w' := by
  obtain ⟨p, s, b, vs, rfl, h1, h2, h3, ⟨a1, a2, a3, a4, a5⟩, l1, l2, l3, l4⟩ := h
  obtain ⟨U, e1, hb, hz, X⟩ := box3 w 31 p s b
  obtain ⟨G, eG⟩ : ∃ G, w.heap.size = G := ⟨_, rfl⟩
  have HT := Lib.hid (TurnsR.of_below (lo := lo) (hi := hi) hb)
  have H1 := Lib.hid (h1.below hb)
  have H2 := Lib.hid (h2.below hb)
  have H3 := Lib.hid (h3.below hb)
  have HA := Lib.hid (And.intro a1 (And.intro a2 (And.intro a3 (And.intro a4 a5))))
  have HL := Lib.hid (And.intro l1 (And.intro l2 (And.intro l3 l4)))
  have HG := Lib.hid (show hi ≤ G by omega)
  rw [eG] at X
  have HX := Lib.hid X
  obtain ⟨c0, c1, c2, f0, f1, f2⟩ := X
  unfold wt at hk
  obtain ⟨k1, e1'⟩ : ∃ k1, k + o.pos.length = k1 := ⟨_, rfl⟩
  obtain ⟨k2, e2'⟩ : ∃ k2, k1 + o.st.length * 3 = k2 := ⟨_, rfl⟩
  obtain ⟨k3, e3'⟩ : ∃ k3, k2 + sm o.bk o.bk.length * 3 = k3 := ⟨_, rfl⟩
  have E1 := Lib.hid e1'
  have E2 := Lib.hid e2'
  have E3 := Lib.hid e3'
  have HK := Lib.hid (show k1 ≤ 10000000 ∧ k2 ≤ 10000000 ∧ k3 ≤ 10000000 by omega)
  have hret : k + wt o = k3 := by unfold wt; omega
  rw [hret]
  clear h1 h2 h3 hb hz e1' e2' e3' hret hk a1 a2 a3 a4 a5 l1 l2 l3 l4 hhi
  go_enter Try.func15, Try.ntmps15
  go_wp2_with fail
  clear e1 eG
  refine (LawN.markIntS U lo p o.pos.length _ H1.out k (by have := E1.out; have := HK.out; omega)).mono ?_
  rw [E1.out]
  rintro e u1 ⟨rfl, ho, ht⟩
  have HX1 := Lib.hid (HX.out.turns ht (fun v hv => by obtain rfl := List.mem_singleton.1 hv; exact HL.out.1.off (.inr HG.out)))
  have HP1 := Lib.hid ho
  have HS1 := Lib.hid (own_turns H2.out ht (fun v hv => by obtain rfl := List.mem_singleton.1 hv; exact HA.out.1.symm))
  have HN1 := Lib.hid (show NsO u1 lo b o.bk vs from ⟨own_turns H3.out.out ht (fun v hv => by obtain rfl := List.mem_singleton.1 hv; exact HA.out.2.1.symm), fun j hj => own_turns (H3.out.inn j hj) ht (fun v hv => by obtain rfl := List.mem_singleton.1 hv; exact (HA.out.2.2.2.1 j hj).symm), H3.out.off, H3.out.each⟩)
  have HT1 := Lib.hid (HT.out.trans (TurnsR.of_turns ht (fun v hv => by obtain rfl := List.mem_singleton.1 hv; exact HL.out.1)))
  clear ho ht c0 c1 c2 f0 f1 f2 HX H1 H2 H3 HT
  obtain ⟨c0, c1, c2, f0, f1, f2⟩ := HX1.out
  go_wp2_with fail
  refine (markBlockS u1 lo s o.st.length _ HS1.out k1 (by have := E2.out; have := HK.out; omega)).mono ?_
  rw [E2.out]
  rintro e u2 ⟨rfl, ho, ht⟩
  have HX2 := Lib.hid (HX1.out.turns ht (fun v hv => by obtain rfl := List.mem_singleton.1 hv; exact HL.out.2.1.off (.inr HG.out)))
  have HP2 := Lib.hid (own_turns HP1.out ht (fun v hv => by obtain rfl := List.mem_singleton.1 hv; exact HA.out.1))
  have HS2 := Lib.hid ho
  have HN2 := Lib.hid (show NsO u2 lo b o.bk vs from ⟨own_turns HN1.out.out ht (fun v hv => by obtain rfl := List.mem_singleton.1 hv; exact HA.out.2.2.1.symm), fun j hj => own_turns (HN1.out.inn j hj) ht (fun v hv => by obtain rfl := List.mem_singleton.1 hv; exact (HA.out.2.2.2.2 j hj).symm), HN1.out.off, HN1.out.each⟩)
  have HT2 := Lib.hid (HT1.out.trans (TurnsR.of_turns ht (fun v hv => by obtain rfl := List.mem_singleton.1 hv; exact HL.out.2.1)))
  clear ho ht c0 c1 c2 f0 f1 f2 HX1 HP1 HS1 HN1 HT1
  obtain ⟨c0, c1, c2, f0, f1, f2⟩ := HX2.out
  go_wp2_with fail
  refine (markBlockSS u2 lo b o.bk vs HN2.out k2 (by have := E3.out; have := HK.out; omega)).mono ?_
  rw [E3.out]
  rintro e u3 ⟨rfl, ho, hin, ht⟩
  have hmem : ∀ {X : Value}, (∀ j, j < o.bk.length → Apart X (vs j)) → ∀ u ∈ (List.range o.bk.length).map vs, Apart X u := by
    intro X hX u hu
    obtain ⟨j, hj, rfl⟩ := List.mem_map.1 hu
    exact hX j (List.mem_range.1 hj)
  have HP3 := Lib.hid (own_turns HP2.out ht (hmem HA.out.2.2.2.1))
  have HS3 := Lib.hid (own_turns HS2.out ht (hmem HA.out.2.2.2.2))
  have HT3 := Lib.hid (HT2.out.trans (TurnsR.of_turns ht (fun v hv => by
    obtain ⟨j, hj, rfl⟩ := List.mem_map.1 hv
    exact HL.out.2.2.2 j (List.mem_range.1 hj))))
  have HO3 := Lib.hid ho
  have HI3 := Lib.hid hin
  clear ho hin ht hmem
  go_wp2_with fail
  go_ret
  refine ⟨rfl, ⟨p, s, b, vs, rfl, HP3.out.sl, by rw [E1.out]; exact HS3.out.sl, HO3.out.sl, fun j hj => ?_⟩, HT3.out⟩
  rw [E1.out, E2.out]
  exact (HI3.out j hj).sl
end Go.Proofs.Ytealdpkgfmokpaa.LawO4
