/-
  What is proved: the device that is drawn is right, and of the call's own (contracts for the walks).
-/
import Derived.Test.YtmgokpkogjdfhaaRows
import Derived.Test.YtmgokpkogjdfhaaDraw
namespace Go.Proofs.Ytmgokpkogjdfhaa.Draw2
open Go.ChangeShapes Go.WideShapes Go.ChangeAt Go.RowKit
open Sl (Sl Own Off)
open OpenSl (tc nc pc)
open Dev Cop Copied Writes Settle Crash Draw
open Right
open Src (Is)
set_option linter.unusedVariables false
set_option linter.unusedSimpArgs false

theorem off3_of {w : World} {base sz : Nat} {v : Value} {n : Nat} {c : Nat → Value} (h : Own w base sz v n c) {b R G : Nat} (hb : b < base) (hR : R < base) (hG : G < base) : Off3 v b R G := ⟨own_low h b hb, own_low h R hR, own_low h G hG⟩

set_option maxRecDepth 100000 in
set_option maxHeartbeats 6400000 in
theorem device (w : World) (b : Nat) (a0 : Option Addr) (len cap : Nat) (seed : Int) (h : Is w b a0 len cap 0 seed) :
    Calls Try.prog 44 #[.pointer (some ⟨b, 0, none⟩)] w fun e w' => ∃ r ts xs, e = .returned r ∧ (Rt ts xs ∧ xs.length ≤ 8) ∧ DevO w' w.heap.size r ts xs ∧ w.grownBy w' (some b) := by
  have hbw : b < w.heap.size := Src.cell_lt h.c1
  have hcd : 0 < len → ∀ bb off, a0 = some ⟨bb, off, none⟩ → bb < w.heap.size := fun hl bb off e => by
    obtain ⟨bb', off', z, e', _, _, _, hc⟩ := h.code 0 hl
    rw [e] at e'
    obtain ⟨rfl, rfl⟩ : bb = bb' ∧ off = off' := by simpa using e'
    exact Src.cell_lt hc
  obtain ⟨W, eW, hB, hlt, r0, r1, f0, f1⟩ := News.place w 26
  have HI := Lib.hid h
  have HCD := Lib.hid hcd
  have HB := Lib.hid hB
  have HF := Lib.hid (⟨hlt, r0, r1, f0, f1⟩ : _ ∧ _ ∧ _ ∧ _ ∧ _)
  clear h hcd hB
  go_enter Try.func44, Try.ntmps44
  go_wp2_with fail
  clear eW r0 r1 f0 f1
  refine (News.spec W).mono ?_
  have HRZ := Lib.hid rt_zr
  generalize News.zr = zt at *
  rintro e u1 ⟨r, rfl, ho, hb1⟩
  obtain ⟨a1, p1, b1, q1, rfl⟩ := Ex.form ho.dev
  obtain ⟨U, eU, hbU, hzU, x0, x1⟩ := Ex.boxU u1 26 (.slice a1 zt.length p1) (.slice b1 ([] : List (Int × ByteArray)).length q1)
  have fx0 : U.frozen? ⟨u1.heap.size, 0, none⟩ = false := by rw [← eU]; clear eU; go_simp
  have fx1 : U.frozen? ⟨u1.heap.size, 1, none⟩ = false := by rw [← eU]; clear eU; go_simp
  obtain ⟨G, eG⟩ : ∃ G, u1.heap.size = G := ⟨_, rfl⟩
  have hWG : W.heap.size ≤ G := by rw [← eG]; exact hb1.size
  have HD0 : Hid (DI w U b w.heap.size G a0 len cap (.slice a1 zt.length p1) (.slice b1 ([] : List (Int × ByteArray)).length q1) zt [] 0 seed) := Lib.hid (by
    obtain ⟨hlt, r0, r1, f0, f1⟩ := HF.out
    have hbW := hb1.trans (hbU.mono hb1.size)
    have hbw2 := HB.out.trans (hbW.mono HB.out.size)
    obtain ⟨s, u, e, k1, k2, k3⟩ := ho
    obtain ⟨rfl, rfl⟩ : Value.slice a1 zt.length p1 = s ∧ Value.slice b1 ([] : List (Int × ByteArray)).length q1 = u := by simpa using e
    rw [eG] at x0 x1 fx0 fx1
    exact ⟨is_below HI.out hbw2, x0, x1, fx0, fx1, (hbW.cell (p := ⟨w.heap.size, 0, none⟩) hlt).trans r0, (hbW.cell (p := ⟨w.heap.size, 1, none⟩) hlt).trans r1, (hbW.frozen (p := ⟨w.heap.size, 0, none⟩) hlt).trans f0, (hbW.frozen (p := ⟨w.heap.size, 1, none⟩) hlt).trans f1,
      ⟨_, _, rfl, k1.sl.below hbU, k2.sl.below hbU⟩, ⟨own_low k1 b (by omega), own_low k1 _ hlt, k1.sl.off (by omega) G (by omega)⟩, ⟨own_low k2 b (by omega), own_low k2 _ hlt, k2.sl.off (by omega) G (by omega)⟩,
      Src.grown_then (World.grownBy.refl w (some b)) (grown_of hbw2) (fun j hj => by cases hj)⟩)
  have hlt2 : w.heap.size < G := by have := HF.out.1; omega
  have nGb : G ≠ b := by omega
  have nRb : w.heap.size ≠ b := by omega
  have nRG : w.heap.size ≠ G := by omega
  have HGB := Lib.hid (show 0 < len → ∀ bb off, a0 = some ⟨bb, off, none⟩ → G ≠ bb from fun hl bb off e => by have := HCD.out hl bb off e; omega)
  have HNN := Lib.hid (⟨nGb, nRb, nRG, hlt2, hbw⟩ : _ ∧ _ ∧ _ ∧ _ ∧ _)
  have HZU := Lib.hid hzU
  have HUG := Lib.hid (show G < U.heap.size by omega)
  clear ho hb1 hbU hzU x0 x1 fx0 fx1 nGb nRb nRG hWG
  simp only [List.length_nil] at eU
  go_wp2_with fail
  clear eU eG
  refine (Src.next 9 (by omega) (by omega) U b a0 len cap 0 seed HD0.out.is (by omega)).mono ?_
  rintro e y0 ⟨r, pl0, sd0, rfl, hr0, hr1, hi0, hl0, hg0⟩
  obtain ⟨m, rfl⟩ : ∃ m : Nat, r = m := ⟨r.toNat, by omega⟩
  have HD1 := Lib.hid (HD0.out.src hg0 hi0 HNN.out.1 HNN.out.2.1)
  have HL0 := Lib.hid hl0
  have HYG := Lib.hid (show G < y0.heap.size from Nat.lt_of_lt_of_le HUG.out hg0.size)
  clear hi0 hl0 hg0 HD0
  go_wp2_with fail
  go_loopw [4] (fun i wr => ∃ (r : Nat) (a1 b1 : Option Addr) (p1 q1 : Nat) (ts : List ByteArray) (xs : List (Int × ByteArray)) (pl sd : Int), i = .int .i64 r ∧ r ≤ 8 ∧ Hid (DI w wr b w.heap.size G a0 len cap (.slice a1 ts.length p1) (.slice b1 xs.length q1) ts xs pl sd ∧ Rt ts xs ∧ xs.length + r ≤ 8 ∧ pl ≤ 1 + (8 - (r : Int)) * 10 ∧ G < wr.heap.size)) (fun i _ => (intOf i).toNat)
  case atStart => exact ⟨m, a1, b1, p1, q1, zt, [], pl0, sd0, rfl, by omega, Lib.hid ⟨HD1.out, HRZ.out, by simp; omega, by have := HL0.out; omega, HYG.out⟩⟩
  case round =>
    rename_i wr
    clear HD1 HL0 HYG HRZ
    obtain ⟨r, a1, b1, p1, q1, ts, xs, pl, sd, rfl, hr8, HX⟩ := hrel
    by_cases hr : 0 < r
    · have HD := Lib.hid (HX.out.1.below (below_drewN (Below.refl wr.heap.size wr) 1))
      have HRT := Lib.hid HX.out.2.1
      have HLN := Lib.hid HX.out.2.2.1
      have HPL := Lib.hid HX.out.2.2.2.1
      have HLG := Lib.hid HX.out.2.2.2.2
      have d0 := HX.out.1.d0
      have d1 := HX.out.1.d1
      have HN40 := Lib.hid (show ts.length ≤ 1048576 ∧ xs.length ≤ 1048576 from ⟨by rw [HX.out.2.1.1]; omega, by have := HX.out.2.2.1; omega⟩)
      clear HX
      go_wp2_with fail
      go_region_with (first
        | (go_at_call 72; have hx := HN1.out; clear hx; refine (Src.next 7 (by omega) (by omega) _ b a0 len cap _ _ HN1.out.is (by have := HP1.out; have := HPL.out; omega)).mono ?_; rintro e y2 ⟨r2, pl2, sd2, rfl, h20, h21, hi2, hl2, hg2⟩; obtain ⟨n2, rfl⟩ : ∃ n2 : Nat, r2 = n2 := ⟨r2.toNat, by omega⟩; have HN2 := Lib.hid (HN1.out.src hg2 hi2 HNN.out.1 HNN.out.2.1); have HP2 := Lib.hid (show pl2 ≤ pl + 2 by have := HP1.out; omega); have HR2 := Lib.hid (show n2 ≤ 6 by omega); have d0 := HN2.out.d0; have d1 := HN2.out.d1; have HS2 := Lib.hid (Nat.le_trans HS1.out hg2.size); clear hi2 hl2 hg2 h20 h21)
        | (go_at_call 72; refine (Src.next 6 (by omega) (by omega) _ b a0 len cap _ _ HD.out.is (by have := HPL.out; omega)).mono ?_; rintro e y1 ⟨r1, pl1, sd1, rfl, h10, h11, hi1, hl1, hg1⟩; have HN1 := Lib.hid (HD.out.src hg1 hi1 HNN.out.1 HNN.out.2.1); have HP1 := Lib.hid (show pl1 ≤ pl + 1 from hl1); have HR1 := Lib.hid (show In r1 by unfold In; omega); have d0 := HN1.out.d0; have d1 := HN1.out.d1; have HS1 := Lib.hid (show wr.heap.size ≤ y1.heap.size from hg1.size); clear hi1 hl1 hg1 h10 h11)
        | (go_at_call 45; refine (Src.bytes n2 (by have := HR2.out; omega) _ b a0 len cap _ _ HN2.out.is (by have := HP2.out; have := HPL.out; have := HR2.out; omega)).mono ?_; rintro e y3 ⟨bs, pl3, sd3, rfl, hb0, hb1, hi3, hl3, hg3⟩; obtain ⟨t3, et3⟩ : ∃ t : ByteArray, (⟨bs.toArray⟩ : ByteArray) = t := ⟨_, rfl⟩; have HT3 := Lib.hid (show t3.size ≤ 700 by rw [← et3]; exact Nat.le_trans (Nat.le_of_eq List.size_toArray) (by have := HR2.out; omega)); rw [et3]; have HN3 := Lib.hid (HN2.out.src hg3 hi3 HNN.out.1 HNN.out.2.1); have HP3 := Lib.hid (show pl3 ≤ pl + 8 by have := HP2.out; have := HR2.out; omega); have d0 := HN3.out.d0; have d1 := HN3.out.d1; have HS3 := Lib.hid (Nat.le_trans HS2.out hg3.size); clear hi3 hl3 hg3 hb0 hb1 et3)
        | (go_at_call 70; refine (l05WriteO _ a1 p1 _ ts xs HN3.out.dev HN40.out.1 HN40.out.2 r1 t3).mono ?_; obtain ⟨ys, ey⟩ : ∃ ys, xs ++ [(r1, t3)] = ys := ⟨_, rfl⟩; have HEY := Lib.hid ey; rw [ey]; clear ey; rintro e y4 ⟨a4, p4, rfl, ho4, hb4⟩; have HN4 := Lib.hid (HN3.out.below hb4); have HO4 := Lib.hid ho4; have HS4 := Lib.hid (Nat.le_trans HS3.out hb4.size); have d0 := HN4.out.d0; have d1 := HN4.out.d1; have d2 := HN4.out.e0; have d3 := HN4.out.e1; clear ho4 hb4))
      all_goals
        have HDV : Hid (Dev y4 (.agg #[.slice a1 ts.length p1, .slice a4 ys.length p4]) ts ys) := Lib.hid (by
          obtain ⟨s, u, e, k1, k2⟩ := HN4.out.dev
          obtain ⟨rfl, rfl⟩ : Value.slice a1 ts.length p1 = s ∧ Value.slice b1 xs.length q1 = u := by simpa using e
          exact ⟨_, _, rfl, k1, HO4.out.sl⟩)
        have HOU := Lib.hid (off3_of HO4.out (b := b) (R := w.heap.size) (G := G) (by have := HS3.out; have := HLG.out; have := HNN.out.2.2.2; omega) (by have := HS3.out; have := HLG.out; have := HNN.out.2.2.2; omega) (by have := HS3.out; have := HLG.out; omega))
        have HDP := Lib.hid (HN4.out.put HDV.out HN4.out.os HOU.out HNN.out.1 HNN.out.2.2.1 (Nat.le_of_lt HNN.out.2.2.2.1) HGB.out)
        have HRY := Lib.hid (show Rt ts ys by rw [← HEY.out]; exact rt_write HRT.out (by have := HLN.out; omega) r1 HR1.out t3 HT3.out)
        have HLY := Lib.hid (show ys.length = xs.length + 1 by rw [← HEY.out]; simp)
        obtain ⟨F, eF⟩ : ∃ F, (y4.setCell ⟨G, 0, none⟩ (.slice a1 ts.length p1)).setCell ⟨G, 1, none⟩ (.slice a4 ys.length p4) = F := ⟨_, rfl⟩
        have HFS := Lib.hid (show G < F.heap.size by rw [← eF]; simp; have := HS4.out; have := HLG.out; omega)
        rw [eF] at HDP ⊢
        clear eF HN1 HN2 HN4 HDV HOU d0 d1 d2 d3 HO4
        go_wp2_with fail
        refine (chance F b a0 len cap _ _ HDP.out.is (by have := HP3.out; have := HPL.out; omega)).mono ?_
        rintro e z1 ⟨qq, pl5, sd5, rfl, hi5, hl5, hg5⟩
        have HD5 := Lib.hid (HDP.out.src hg5 hi5 HNN.out.1 HNN.out.2.1)
        have HP5 := Lib.hid (show pl5 ≤ pl + 9 by have := HP3.out; omega)
        have HZ5 := Lib.hid (show G < z1.heap.size from Nat.lt_of_lt_of_le HFS.out hg5.size)
        have d0 := HD5.out.d0
        have d1 := HD5.out.d1
        have d2 := HD5.out.e0
        have d3 := HD5.out.e1
        clear hi5 hl5 hg5 HDP HFS
        cases qq with
        | false =>
          go_wp2
          go_roundw
          case rel => exact ⟨r - 1, a1, a4, p1, p4, ts, ys, pl5, sd5, by congr 1; omega, by omega, Lib.hid ⟨HD5.out, HRY.out, by have := HLY.out; have := HLN.out; omega, by have := HP5.out; have := HPL.out; omega, HZ5.out⟩⟩
          case measure => simp [intOf]; omega
        | true =>
          go_wp2_with fail
          refine (Crash2.l05Sync z1 _ ts ys HD5.out.dev HRY.out).mono ?_
          have HRS := Lib.hid (rt_st HRY.out [1])
          generalize st ts ys [1] ys.length = tr at *
          rintro e z2 ⟨r6, rfl, ho, hb⟩
          obtain ⟨a6, p6, b6, q6, rfl⟩ := Ex.form ho.dev
          have HD6 := Lib.hid (HD5.out.below hb)
          have HDV : Hid (Dev z2 (.agg #[.slice a6 tr.length p6, .slice b6 ([] : List (Int × ByteArray)).length q6]) tr []) := Lib.hid ho.dev
          have HOS : Hid (Off3 (.slice a6 tr.length p6) b w.heap.size G ∧ Off3 (.slice b6 ([] : List (Int × ByteArray)).length q6) b w.heap.size G) := Lib.hid (by
            obtain ⟨s, u, e, k1, k2, _⟩ := ho
            obtain ⟨rfl, rfl⟩ : Value.slice a6 tr.length p6 = s ∧ Value.slice b6 ([] : List (Int × ByteArray)).length q6 = u := by simpa using e
            have hz := HZ5.out
            have hn := HNN.out
            exact ⟨off3_of k1 (by omega) (by omega) (by omega), off3_of k2 (by omega) (by omega) (by omega)⟩)
          have HZ6 := Lib.hid (Nat.lt_of_lt_of_le HZ5.out hb.size)
          have HDP := Lib.hid (HD6.out.put HDV.out HOS.out.1 HOS.out.2 HNN.out.1 HNN.out.2.2.1 (Nat.le_of_lt HNN.out.2.2.2.1) HGB.out)
          have c0 := HD6.out.d0
          have c1 := HD6.out.d1
          have c2 := HD6.out.e0
          have c3 := HD6.out.e1
          clear ho hb d0 d1 d2 d3 HD6 HD5 HDV HOS
          go_wp2
          go_roundw
          case rel => exact ⟨r - 1, a6, b6, p6, q6, tr, [], pl5, sd5, by congr 1; omega, by omega, Lib.hid ⟨HDP.out, HRS.out, by simp; omega, by have := HP5.out; have := HPL.out; omega, by simp; exact HZ6.out⟩⟩
          case measure => simp [intOf]; omega
    · have hr0 := Lib.hid (show r = 0 by omega)
      have d0 := HX.out.1.d0
      have d1 := HX.out.1.d1
      go_wp2_with fail
      refine (l05Own wr _ ts xs HX.out.1.dev (by rw [HX.out.2.1.1]; omega) (by have := HX.out.2.2.1; omega)).mono ?_
      rintro e z1 ⟨r6, rfl, ho, hb⟩
      obtain ⟨a6, p6, b6, q6, rfl⟩ := Ex.form ho.dev
      have HD6 := Lib.hid (HX.out.1.below hb)
      obtain ⟨F, eF, hdF, R0, R1, hbF⟩ := put_dev ho (show w.heap.size < wr.heap.size by have := HX.out.2.2.2.2; have := HNN.out.2.2.2.1; omega) HD6.out.r0 HD6.out.r1
      have HDF := Lib.hid (hdF.base (base' := w.heap.size) (by have := HX.out.2.2.2.2; have := HNN.out.2.2.2.1; omega))
      have HGF := Lib.hid (show w.grownBy F (some b) by
        rw [← eF]
        exact Src.grown_then HD6.out.gr (Src.grown_set (Src.grown_set (World.grownBy.refl z1 (some w.heap.size)) 0 _) 1 _) (fun j hj => by cases hj; exact .inl (Nat.le_refl _)))
      have HRX := Lib.hid (show Rt ts xs ∧ xs.length ≤ 8 from ⟨HX.out.2.1, by have := HX.out.2.2.1; omega⟩)
      have c0 := HD6.out.r0
      have c1 := HD6.out.r1
      have c2 := HD6.out.q0
      have c3 := HD6.out.q1
      clear ho hb d0 d1 hdF hbF HX HD6
      go_wp2_with fail
      refine bodyPost_ret (v := .agg #[.slice a6 ts.length p6, .slice b6 xs.length q6]) (by simp [results, Try.results44, go_sem, R0, R1]) rfl ⟨_, ts, xs, rfl, HRX.out, HDF.out, HGF.out⟩
end Go.Proofs.Ytmgokpkogjdfhaa.Draw2
