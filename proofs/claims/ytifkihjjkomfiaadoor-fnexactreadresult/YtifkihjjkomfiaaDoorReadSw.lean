/-
  What is proved: the model's ReadResult (the walk; a contract for the walks).
-/
import Derived.Test.YtifkihjjkomfiaaDoorRows
import Derived.Test.YtifkihjjkomfiaaDoorReadS
namespace Go.Proofs.YtifkihjjkomfiaaDoor.ReadSw
open Go.ChangeShapes Go.WideShapes Go.ChangeAt Go.RowKit
open Sl (Sl Own Off)
open OpenSl (nc tc)
open Dev Box2 LawR ResP ReadP RsP Txt Dig TxtRr OtB N9M ReadS
open CodesR (wordOf codeOf wordAt)
set_option linter.unusedVariables false

set_option maxRecDepth 100000 in
set_option maxHeartbeats 3200000 in
theorem specRead (s : ByteArray) (w : World) :
    Calls Tryd.prog 10 #[.string s] w fun e w' => RPost s w.heap.size w' e ∧ Below w.heap.size w w' := by
  obtain ⟨U1, e1, hb1, hz1, X1⟩ := box2 w 28 (.int .i64 0) (.slice none 0 0)
  obtain ⟨G1, eG1⟩ : ∃ G1, w.heap.size = G1 := ⟨_, rfl⟩
  have HB1 := Lib.hid (show Below G1 w U1 from eG1 ▸ hb1)
  have HZ1 := Lib.hid (show U1.heap.size = G1 + 1 by omega)
  rw [eG1] at X1
  have HX1 := Lib.hid X1
  have HE1 := Lib.hid eG1
  rw [eG1]
  by_cases hl : 65536 < s.size
  · have HR := Lib.hid (ra_long hl)
    obtain ⟨W, eW, hx, hbl, _⟩ := put2 U1 G1 _ _ (.int .i64 0) (.slice none 0 0) X1
    have HBW := Lib.hid (HB1.out.trans (hbl G1 (Nat.le_refl _)))
    obtain ⟨c0, c1, f0, f1⟩ := X1
    clear hb1 hz1 hbl
    go_enter Tryd.func10, Tryd.ntmps10
    go_wp2
    clear e1 eW eG1 c0 c1 f0 f1
    obtain ⟨R0, R1, _, _⟩ := hx
    refine bodyPost_ret (v := .tuple #[.agg #[.int .i64 0, .slice none 0 0], .int .i64 2]) (by simp [results, Tryd.results10, go_sem, R0, R1]) rfl ⟨⟨0, _, [], 2, rfl, Lib.hid ⟨HR.out, zero_own _ _⟩⟩, HBW.out⟩
  have HL := Lib.hid hl
  have HWD := Lib.hid (fun u => WordsMr.l00Words s (by omega) u)
  obtain ⟨c0, c1, f0, f1⟩ := X1
  clear hb1 hz1
  go_enter Tryd.func10, Tryd.ntmps10
  go_wp2_with fail
  clear e1 eG1 c0 c1 f0 f1 hl
  refine (HWD.out _).mono ?_
  rintro e w2 ⟨v, ts, rfl, HW, hb2⟩
  obtain ⟨wa, wc, rfl, _, hwm⟩ := HW.out.2.sl.form
  unfold maxLen at hwm
  have HFW := Lib.hid (few HW.out.1 (by have := HL.out; omega))
  have HB2 := Lib.hid (HB1.out.trans (hb2.mono (by have := HZ1.out; omega)))
  have HX2 := Lib.hid (HX1.out.below hb2)
  have HZ2 := Lib.hid (show G1 < w2.heap.size by have := HZ1.out; have := hb2.size; omega)
  clear hb2
  obtain ⟨U3, e3, hb3, hr3⟩ : ∃ U, w2.alloc (.cells #[] 3) = U ∧ Below w2.heap.size w2 U ∧ U.ownsRow w2.heap.size 3 1 (.slice (some ⟨w2.heap.size, 0, none⟩) 0 0) 0 [] :=
    ⟨_, rfl, (Below.refl _ w2).alloc (Nat.le_refl _) _, rfl, .inr ⟨w2.heap.size, 0, #[], rfl, Nat.le_refl _, heap_alloc_new w2 _, Nat.le_refl _, by unfold maxLen; omega, rfl, rfl⟩⟩
  obtain ⟨U4, e4, hb4, hz4, X4, ty4⟩ := boxR U3 (.int .i64 0) (.slice (some ⟨w2.heap.size, 0, none⟩) 0 0)
  have HRS := Lib.hid (show Rs w2 w2.heap.size U4 U3.heap.size 0 (some ⟨w2.heap.size, 0, none⟩) 0 0 [] from ⟨hb3.trans (hb4.mono hb3.size), X4, ty4, Cop.row_below hr3 hb4, hb3.size, Nat.le_trans hb3.size hb4.size⟩)
  obtain ⟨s0, es0⟩ : ∃ s0, w2.heap.size = s0 := ⟨_, rfl⟩
  obtain ⟨G, eG⟩ : ∃ G, U3.heap.size = G := ⟨_, rfl⟩
  have HS0 := Lib.hid es0
  rw [es0, eG] at HRS
  rw [es0] at e4
  rw [es0] at HZ2
  have HXX := Lib.hid (fun (u : World) (hu : Below s0 w2 u) => HX2.out.below (show Below w2.heap.size w2 u by rw [es0]; exact hu))
  have HWC := Lib.hid (fun (u : World) (hu : Below s0 w2 u) => HW.out.2.sl.below (show Below w2.heap.size w2 u by rw [es0]; exact hu))
  have HBX := Lib.hid (fun (u : World) (hu : Below s0 w2 u) => HB2.out.trans (hu.mono (by have := HZ2.out; omega)))
  have HG := Lib.hid (show G1 < G by have := HRS.out.g; have := HZ2.out; omega)
  clear hb3 hr3 hb4 hz4 X4 ty4
  -- the fault's end
  have HEND := Lib.hid (fun (u : World) (hu : Below s0 w2 u) => put2 u G1 _ _ (.int .i64 0) (.slice none 0 0) (HXX.out u hu))
  have HNO := Lib.hid (fun (hn : ∀ c' vs', ROk c' vs' → ¬ rP c' vs' = ts.map (·.data.toList)) => show RA s 0 [] 3 from ra_no HL.out (an_none (c := 0) (vs := []) (by rw [← HW.out.1]; exact hn)))
  have HCN := Lib.hid (fun h0 => HNO.out (no_code (ts := ts) h0))
  have HVN := Lib.hid (fun k hk h => HNO.out (Vw.no (ts := ts) (k := k) hk h))
  have HTS := Lib.hid (fun k (hk : k < ts.length) => show (ts.getD k ByteArray.empty).size ≤ 65536 from HFW.out.1 _ (by rw [List.getD_eq_getElem?_getD, List.getElem?_eq_getElem hk]; exact List.getElem_mem hk))
  have HN9 := Lib.hid (fun (t : ByteArray) (ht : t.size ≤ 65536) u => l09Number t ht u)
  have HCD := Lib.hid (fun (t : ByteArray) u => CodesR.code_spec t u)
  have HOK := Lib.hid (fun u v c vs (h : Rr u v c vs) q hq => ResS.specOk u v c vs h q hq)
  obtain ⟨n, en⟩ : ∃ n, ts.length = n := ⟨_, rfl⟩
  have HEN := Lib.hid en
  have hn13 : n ≤ 131073 := by have := HFW.out.2; omega
  rw [en] at HWC HTS HVN ⊢
  clear en
  by_cases hn0 : n = 0
  · subst hn0
    have HR := Lib.hid (HCN.out (.inl (List.length_eq_zero_iff.1 HEN.out)))
    obtain ⟨W, eW, hx, hbl, _⟩ := HEND.out U4 HRS.out.bel
    obtain ⟨c0, c1, f0, f1⟩ := HXX.out U4 HRS.out.bel
    have HBW := Lib.hid ((HBX.out U4 HRS.out.bel).trans (hbl G1 (Nat.le_refl _)))
    clear hbl
    go_wp2
    clear e3 e4 eW es0 eG c0 c1 f0 f1
    obtain ⟨R0, R1, _, _⟩ := hx
    refine bodyPost_ret (v := .tuple #[.agg #[.int .i64 0, .slice none 0 0], .int .i64 3]) (by simp [results, Tryd.results10, go_sem, R0, R1]) rfl ⟨⟨0, _, [], 3, rfl, Lib.hid ⟨HR.out, zero_own _ _⟩⟩, HBW.out⟩
  obtain ⟨wb, wo, hwa, hwc⟩ := (HWC.out U4 HRS.out.bel).at (by omega)
  obtain rfl : wa = some ⟨wb, wo, none⟩ := by simpa using hwa
  have t0 := hwc 0 (by omega)
  rw [Nat.add_zero] at t0
  unfold tc at t0
  obtain ⟨T0, eT0⟩ : ∃ T0, ts.getD 0 ByteArray.empty = T0 := ⟨_, rfl⟩
  rw [eT0] at t0
  have HT0 := Lib.hid eT0
  clear hwa hwc eT0
  go_wp2_with fail
  clear e3 e4 es0 eG
  refine (HCD.out T0 _).mono ?_
  rintro e w5 ⟨rfl, hb5⟩
  have HR5 := Lib.hid (HRS.out.below hb5)
  clear hb5 t0
  obtain ⟨c, ec⟩ : ∃ c, codeOf T0 = c := ⟨_, rfl⟩
  have HEC := Lib.hid (show codeOf (ts.getD 0 ByteArray.empty) = c by rw [HT0.out]; exact ec)
  have HCD0 := Lib.hid (fun u => HCD.out T0 u)
  rw [ec] at HCD0
  rw [ec]
  clear ec
  by_cases hc : c < 0
  · have HR := Lib.hid (HCN.out (.inr (by rw [HEC.out]; exact hc)))
    obtain ⟨W, eW, hx, hbl, _⟩ := HEND.out w5 HR5.out.bel
    obtain ⟨c0, c1, f0, f1⟩ := HXX.out w5 HR5.out.bel
    have HBW := Lib.hid ((HBX.out w5 HR5.out.bel).trans (hbl G1 (Nat.le_refl _)))
    clear hbl
    go_wp2
    clear eW c0 c1 f0 f1
    obtain ⟨R0, R1, _, _⟩ := hx
    refine bodyPost_ret (v := .tuple #[.agg #[.int .i64 0, .slice none 0 0], .int .i64 3]) (by simp [results, Tryd.results10, go_sem, R0, R1]) rfl ⟨⟨0, _, [], 3, rfl, Lib.hid ⟨HR.out, zero_own _ _⟩⟩, HBW.out⟩
  have hc0 : 0 ≤ c := by omega
  have dc : decide (c < 0) = false := decide_eq_false hc
  have dn : ((n : Int) == 0) = false := beq_eq_false_iff_ne.2 (by omega)
  have t0 : w5.cell? ⟨wb, wo, none⟩ = some (.string T0) := by
    rw [← HT0.out]
    obtain ⟨b', o', e', hc'⟩ := (HWC.out w5 HR5.out.bel).at (by omega)
    obtain ⟨rfl, rfl⟩ : wb = b' ∧ wo = o' := by simpa using e'
    have := hc' 0 (by omega)
    rwa [Nat.add_zero] at this
  go_wp2_with fail
  refine (HCD0.out _).mono ?_
  rintro e w6 ⟨rfl, hb6⟩
  have HR6 := Lib.hid (HR5.out.below hb6)
  obtain ⟨d0, d1, g0, g1⟩ := HR6.out.box
  have HR7 := Lib.hid (HR6.out.code c)
  clear hb6 t0
  go_wp2
  clear d0 d1 g0 g1
  generalize World.setCell w6 _ _ = w7 at *
  go_loopw [6] (fun i wz => ∃ (k : Nat) (wr : World) (b : Option Addr) (cp : Nat) (xs : List Int), wr = wz ∧ k + 1 ≤ n ∧ i = .int .i64 ((k + 1 : Nat) : Int) ∧ Hid (Rs w2 s0 wr G c b k cp xs ∧ Vw ts k xs)) (fun i _ => n - (Go.RowKit.intOf i).toNat)
  case atStart => exact ⟨0, _, _, _, _, rfl, by omega, rfl, Lib.hid ⟨HR7.out, Vw.nil ts⟩⟩
  case round =>
    obtain ⟨k, wr, b, cp, xs, rfl, hk, rfl, HJ⟩ := hrel
    have hkk : (((k + 1 : Nat) : Int)) = (k : Int) + 1 := by omega
    by_cases hlt : k + 1 < n
    · obtain ⟨b', o', e', hc'⟩ := (HWC.out wr HJ.out.1.bel).at (by omega)
      obtain ⟨rfl, rfl⟩ : wb = b' ∧ wo = o' := by simpa using e'
      have t0 := hc' (k + 1) (by omega)
      unfold tc at t0
      have HT := Lib.hid (HTS.out (k + 1) hlt)
      have HV := Lib.hid (fun m hm e => Vw.next HJ.out.2 (by rw [HEN.out]; exact hlt) (m := m) hm e)
      have HVV := Lib.hid (HVN.out k hlt)
      clear hc' e'
      generalize ts.getD (k + 1) ByteArray.empty = tx at *
      have HN := Lib.hid (HN9.out tx HT.out)
      have j1 : (k : Int) + 1 < (n : Int) := by omega
      go_wp2_with fail
      refine (HN.out _).mono ?_
      rintro e w8 ⟨⟨m, q, rfl, HQ⟩, hb8⟩
      have HR8 := Lib.hid (HJ.out.1.below hb8)
      clear hb8 t0
      cases q with
      | false =>
        have HR := Lib.hid (HVV.out (fun m hm e => by have := (HQ.out.2 m hm e).2; cases this))
        obtain ⟨W, eW, hx, hbl, _⟩ := HEND.out w8 HR8.out.bel
        obtain ⟨c0, c1, f0, f1⟩ := HXX.out w8 HR8.out.bel
        have HBW := Lib.hid ((HBX.out w8 HR8.out.bel).trans (hbl G1 (Nat.le_refl _)))
        clear hbl
        go_wp2
        clear eW c0 c1 f0 f1
        obtain ⟨R0, R1, _, _⟩ := hx
        refine bodyPost_ret (v := .tuple #[.agg #[.int .i64 0, .slice none 0 0], .int .i64 3]) (by simp [results, Tryd.results10, go_sem, R0, R1]) rfl ⟨⟨0, _, [], 3, rfl, Lib.hid ⟨HR.out, zero_own _ _⟩⟩, HBW.out⟩
      | true =>
        obtain ⟨m', hm', rfl, em⟩ := HQ.out.1 rfl
        have HVX := Lib.hid (HV.out m' hm' em)
        clear em HQ
        obtain ⟨i0, hi0, hz0, hz1, hz2⟩ := info_parts infoN
        obtain ⟨U9, e9, hb9, x0⟩ := litN w8 (m' : Int)
        have HR9 := Lib.hid (HR8.out.below hb9)
        obtain ⟨M, eM⟩ : ∃ M, w8.heap.size = M := ⟨_, rfl⟩
        rw [eM] at x0
        have EM := Lib.hid eM
        have HN0 := Lib.hid (lit_at x0)
        obtain ⟨d0, d1, g0, g1⟩ := HR8.out.box
        have hm2 : k + 1 ≤ maxLen := by unfold maxLen; omega
        have hy2 : (k + 1) * 8 ≤ 140737488355328 := by omega
        have ho1 : ∀ v ∈ [Value.int .i64 (m' : Int)], v.oneCell' = true := by intro v hv; simp at hv; rw [hv]; rfl
        clear hb9 x0 eM
        go_wp2_with (at_builtin; refine wpList_append_own _ rfl (.tmp 51) (.tmp 53) 22 rfl s0 3 i0 _ 1 8 Tryd.underlying22 hi0 hz0 hz1 hz2 rfl (by omega) (.slice b k cp) k (zs xs) (by simp [Act.eval]) HR9.out.row ⟨M, 0, none⟩ 1 1 [Value.int .i64 (m' : Int)] (by simp [Act.eval] <;> exact EM.out) rfl HN0.out ho1 hm2 hy2 HR9.out.lo ?_; intro v4 w10 hr4 hg4 _; obtain ⟨b4, cp4, rfl⟩ := row_form hr4; obtain ⟨x5, _⟩ := HR9.out.mid hg4; obtain ⟨d2, d3, g2, g3⟩ := x5; have HR11 := Lib.hid (HR9.out.next hg4 hr4); clear hr4 hg4)
        go_roundw
        case rel => exact ⟨k + 1, _, b4, cp4, _, rfl, by omega, by go_num, Lib.hid ⟨HR11.out, HVX.out⟩⟩
        case measure => simp [Go.RowKit.intOf]; omega
    · have hkn : k + 1 = n := by omega
      obtain ⟨q, hq⟩ : ∃ q, decide (ROk c xs) = q := ⟨_, rfl⟩
      have HAN := Lib.hid (HJ.out.2.ans (by rw [HEN.out]; exact hkn) HEC.out hc0 hq)
      rw [← HW.out.1.symm] at HAN
      have HLE := Lib.hid HJ.out.2.len
      have hrr : Rr wr (.agg #[.int .i64 c, .slice b k cp]) c xs := by
        refine ⟨_, rfl, ?_⟩
        have h1 := HJ.out.1.row
        rw [← HLE.out] at h1
        have h2 := (zs_own h1).sl
        rw [HLE.out] at h2 ⊢
        exact h2
      have hoo : Own wr G1 1 (.slice b k cp) xs.length (nc xs) := by
        have h1 := HJ.out.1.row
        rw [← HLE.out] at h1
        have h2 := (zs_own h1).base (show G1 ≤ s0 by have := HZ2.out; omega)
        rw [HLE.out] at h2 ⊢
        exact h2
      have HOO := Lib.hid hoo
      have HK := Lib.hid (HOK.out wr _ c xs hrr q hq)
      obtain ⟨d0, d1, g0, g1⟩ := HJ.out.1.box
      have hkf : ¬ (k : Int) + 1 < (n : Int) := by omega
      clear hq hrr hoo
      go_wp2_with fail
      refine HK.out.mono ?_
      rintro e w8 ⟨rfl, hb8⟩
      have HR8 := Lib.hid (HJ.out.1.below hb8)
      have HO8 := Lib.hid (HOO.out.below hb8)
      clear hb8 d0 d1 g0 g1
      cases q with
      | false =>
        have HR := Lib.hid (ra_no HL.out HAN.out)
        obtain ⟨W, eW, hx, hbl, _⟩ := HEND.out w8 HR8.out.bel
        obtain ⟨c0, c1, f0, f1⟩ := HXX.out w8 HR8.out.bel
        have HBW := Lib.hid ((HBX.out w8 HR8.out.bel).trans (hbl G1 (Nat.le_refl _)))
        clear hbl
        go_wp2
        clear eW c0 c1 f0 f1
        obtain ⟨R0, R1, _, _⟩ := hx
        refine bodyPost_ret (v := .tuple #[.agg #[.int .i64 0, .slice none 0 0], .int .i64 3]) (by simp [results, Tryd.results10, go_sem, R0, R1]) rfl ⟨⟨0, _, [], 3, rfl, Lib.hid ⟨HR.out, zero_own _ _⟩⟩, HBW.out⟩
      | true =>
        have HR := Lib.hid (ra_yes HL.out HAN.out)
        obtain ⟨W, eW, hx, hbl, hot⟩ := put2 w8 G1 _ _ (.int .i64 c) (.slice b k cp) (HXX.out w8 HR8.out.bel)
        obtain ⟨c0, c1, f0, f1⟩ := HXX.out w8 HR8.out.bel
        obtain ⟨d0, d1, g0, g1⟩ := HR8.out.box
        have HBW := Lib.hid ((HBX.out w8 HR8.out.bel).trans (hbl G1 (Nat.le_refl _)))
        have HOW := Lib.hid (show Own W G1 1 (.slice b k cp) xs.length (nc xs) from by
          rw [← eW]
          have hlow := own_low (show Own w8 (G1 + 1) 1 (.slice b k cp) xs.length (nc xs) from by
            have h1 := HR8.out.row
            rw [← HLE.out] at h1
            have h2 := (zs_own h1).base (show G1 + 1 ≤ s0 by have := HZ2.out; omega)
            rw [HLE.out] at h2 ⊢
            exact h2) G1 (by omega)
          exact own_set_off (own_set_off HO8.out hlow _ _) hlow _ _)
        clear hbl hot
        go_wp2
        clear eW c0 c1 f0 f1 d0 d1 g0 g1
        obtain ⟨R0, R1, _, _⟩ := hx
        refine bodyPost_ret (v := .tuple #[.agg #[.int .i64 c, .slice b k cp], .int .i64 0]) (by simp [results, Tryd.results10, go_sem, R0, R1]) rfl ⟨⟨c, _, xs, 0, rfl, Lib.hid ⟨HR.out, HOW.out⟩⟩, HBW.out⟩
end Go.Proofs.YtifkihjjkomfiaaDoor.ReadSw
