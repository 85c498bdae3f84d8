/-
  What is proved: the model's settling of a device's writes, synced or by fates, leaves the plain list of texts, of the call's own (contracts for the walks).
-/
import Derived.Test.YtmgokpkogjdfhaaRows
import Derived.Test.YtmgokpkogjdfhaaCrash
namespace Go.Proofs.Ytmgokpkogjdfhaa.Crash2
open Go.ChangeShapes Go.WideShapes Go.ChangeAt Go.RowKit
open Sl (Sl Own Off)
open OpenSl (tc nc pc)
open Dev Cop Copied Settle Crash
open LawI (pc_even pc_odd)
open Right
open Writes (zero_dev)
set_option linter.unusedVariables false
set_option linter.unusedSimpArgs false

/-- An empty slice and a device's box, made. -/
theorem outBox (u : World) (t t' : TypeId) (a : Value) : ∃ U, (u.alloc (.cells #[] t)).alloc (.cells #[a, .slice (some ⟨u.heap.size, 0, none⟩) 0 0] t') = U ∧ Below u.heap.size u U ∧ u.heap.size + 1 < U.heap.size ∧ U.cell? ⟨u.heap.size + 1, 0, none⟩ = some a ∧ U.cell? ⟨u.heap.size + 1, 1, none⟩ = some (.slice (some ⟨u.heap.size, 0, none⟩) 0 0) :=
  ⟨_, rfl, ((Below.refl _ u).alloc (Nat.le_refl _) _).alloc (by simp) _, by simp, by go_simp, by go_simp⟩
theorem tc_same {ts : List ByteArray} {q : Nat} {s0 : ByteArray} (h : q < ts.length) (e : ts.getD q ByteArray.empty = s0) (j : Nat) : tc (ts.set q s0) j = tc ts j := by
  rw [tc_set _ _ _ h]
  by_cases ej : j = q
  · rw [if_pos ej, ej]
    unfold tc
    rw [e]
  · rw [if_neg ej]
theorem fate_one (k : Nat) : fate [1] k = 1 := by
  unfold fate
  rw [if_neg (by simp), show k % [(1 : Int)].length = 0 from Nat.mod_one k]
  rfl

set_option maxRecDepth 100000 in
set_option maxHeartbeats 3200000 in
theorem l05Sync (w : World) (v : Value) (ts : List ByteArray) (xs : List (Int × ByteArray)) (h : Dev w v ts xs) (hr : Rt ts xs) :
    Calls Try.prog 71 #[v] w fun e w' => ∃ r, e = .returned r ∧ DevO w' w.heap.size r (st ts xs [1] xs.length) [] ∧ Below w.heap.size w w' := by
  have HV := Lib.hid h
  obtain ⟨a, p, a', p', rfl⟩ := Ex.form h
  obtain ⟨W, eW, hB, hlt, c0, c1, r0, r1, f0, f1⟩ := boxed w 26 26 (.slice a ts.length p) (.slice a' xs.length p')
  obtain ⟨s1, s2, e12, k1, k2⟩ := HV.out.below hB
  obtain ⟨rfl, rfl⟩ : Value.slice a ts.length p = s1 ∧ Value.slice a' xs.length p' = s2 := by simpa using e12
  have H1 := Lib.hid k1
  obtain ⟨_, capx, ex, _, hcapx, kk⟩ := k2
  obtain ⟨rfl, rfl⟩ : a' = _ ∧ p' = capx := by simpa using ex
  have H2 := Lib.hid kk
  have HB := Lib.hid hB
  have HLT := Lib.hid hlt
  have HSIX := Lib.hid (fun u (hb : Below W.heap.size W u) => six hb hlt c0 c1 r0 r1 f0 f1)
  have HR := Lib.hid hr
  have h40 : ts.length ≤ 1048576 := by rw [hr.1]; omega
  have h60 : xs.length ≤ 60 := hr.2.1
  have HB1 := Lib.hid ((Below.refl W.heap.size W).alloc (Nat.le_refl _) (.cells #[] 9))
  have hl0 : w.heap.size < W.heap.size := by omega
  have hp1 : 0 < 1 := by omega
  have hm1 : ts.length ≤ maxLen := by unfold maxLen; omega
  have hy1 : ts.length * 16 ≤ 140737488355328 := by omega
  clear h hB k1 kk e12 ex hr
  obtain ⟨n, en⟩ : ∃ n, ts.length = n := ⟨_, rfl⟩
  have EN := Lib.hid en
  have HLEN := Lib.hid (fun k => (st_len ts xs [1] k).trans en)
  obtain ⟨m, em⟩ : ∃ m, xs.length = m := ⟨_, rfl⟩
  have EM := Lib.hid em
  have KA := Lib.hid (fun (u1 : World) (a1 : Option Addr) (cap1 : Nat) => outBox u1 64 26 (.slice a1 ts.length cap1))
  clear en em
  go_enter Try.func71, Try.ntmps71
  go_wp2_with (at_builtin; (refine wpList_app0 _ rfl (.tmp 5) (.tmp 7) 23 rfl 9 1 16 _ Try.underlying23 LawS.info9 rfl hp1 _ rfl _ rfl ts.length (tc ts) (H1.out.below HB1.out) (fun j _ => tc_one ts j) hm1 hy1 ?_; intro a1 cap1 u1 ho1 hb1; have HO1 := Lib.hid (ho1.base HB1.out.size); have HE1 := Lib.hid (HB1.out.trans (hb1.mono HB1.out.size)); obtain ⟨U, eU, hbU, hzU, o0, o1⟩ := KA.out u1 a1 cap1; have HEU := Lib.hid hbU; have HZU := Lib.hid hzU; obtain ⟨g0, g1, g2, g3, g4, g5⟩ := HSIX.out u1 HE1.out; clear ho1 hb1 hbU hzU))
  clear eW eU g0 g1 g2 g3 g4 g5 c0 c1 r0 r1 f0 f1
  have HLI := Lib.hid (Ex.lies_of HO1.out (by omega))
  have HO2 := Lib.hid (HO1.out.below HEU.out)
  have HE2 := Lib.hid (HE1.out.trans (HEU.out.mono HE1.out.size))
  have HU1 := Lib.hid HE1.out.size
  obtain ⟨g0, g1, g2, g3, g4, g5⟩ := HSIX.out U HE2.out
  obtain ⟨G, eG⟩ : ∃ G, u1.heap.size + 1 = G := ⟨_, rfl⟩
  have HG := Lib.hid (show u1.heap.size < G by omega)
  obtain ⟨g, eg⟩ : ∃ g, u1.heap.size = g := ⟨_, rfl⟩
  rw [eG] at o0 o1 HZU ⊢
  rw [eg] at o1 ⊢
  rw [EN.out] at HO2 HLI o0 g0 h40 ⊢
  rw [EM.out] at g1 h60 H2 ⊢
  clear eG eg KA HO1
  go_loopw [4] (fun i wr => ∃ k : Nat, k ≤ m ∧ i = .int .i64 k ∧ Hid (Own wr W.heap.size 1 (.slice a1 n cap1) n (tc (st ts xs [1] k)) ∧ Below W.heap.size W wr ∧ wr.cell? ⟨G, 0, none⟩ = some (.slice a1 n cap1) ∧ wr.cell? ⟨G, 1, none⟩ = some (.slice (some ⟨g, 0, none⟩) 0 0))) (fun i _ => m - (intOf i).toNat)
  case atStart => exact ⟨0, by omega, rfl, Lib.hid ⟨HO2.out, HE2.out, o0, o1⟩⟩
  case round =>
    rename_i wr
    obtain ⟨k, hk, rfl, HX⟩ := hrel
    clear g0 g1 g2 g3 g4 g5 o0 o1
    obtain ⟨g0, g1, g2, g3, g4, g5⟩ := HSIX.out wr HX.out.2.1
    rw [EM.out] at g1
    rw [EN.out] at g0
    by_cases hlt2 : k < m
    · obtain ⟨b, o, rfl, hc⟩ := H2.out (by omega)
      have x0 := hc (k * 2) (by omega)
      have x1 := hc (k * 2 + 1) (by omega)
      have lb : b < W.heap.size := World.block_lt_of_cell? W _ x0
      rw [← HX.out.2.1.cell (World.block_lt_of_cell? W _ x0), pc_even] at x0
      rw [← HX.out.2.1.cell (World.block_lt_of_cell? W _ x1), pc_odd, ← Nat.add_assoc] at x1
      obtain ⟨hin, hsz⟩ := HR.out.2.2.2 k (by rw [EM.out]; exact hlt2)
      have HST := Lib.hid (show ∀ y, xs.getD k (0, ByteArray.empty) = y → st ts xs [1] (k + 1) = (st ts xs [1] k).set y.1.toNat (met ((st ts xs [1] k).getD y.1.toNat ByteArray.empty) y.2 (fate [1] k)) from fun y e => by rw [← e]; rfl)
      have HSM := Lib.hid (st_small HR.out [1] k (by rw [EM.out]; omega))
      clear hc
      generalize xs.getD k (0, ByteArray.empty) = y at *
      obtain ⟨z, d⟩ := y
      simp only at x0 x1 hin hsz
      obtain ⟨hz0, hz1⟩ := hin
      obtain ⟨q, rfl⟩ : ∃ q : Nat, z = q := ⟨z.toNat, by omega⟩
      have hqn : q < n := by have h1 := HR.out.1; rw [EN.out] at h1; omega
      have HST2 := Lib.hid (HST.out (q, d) rfl)
      simp only [Int.toNat_natCast] at HST2
      obtain ⟨b1, o1, ea1, hbb1, hcc⟩ := HX.out.1.at (by omega)
      obtain rfl : a1 = some ⟨b1, o1, none⟩ := ea1
      obtain ⟨s0, hs0⟩ : ∃ s0, (st ts xs [1] k).getD q ByteArray.empty = s0 := ⟨_, rfl⟩
      obtain ⟨cq, fq⟩ := hcc q (by omega)
      unfold tc at cq
      have hss := HSM.out q
      rw [hs0] at cq hss HST2
      have HLS : Hid (s0.size ≤ 700 ∧ d.size ≤ 700) := Lib.hid ⟨hss, hsz⟩
      have hbG : b1 < G := by have h1 : b1 < u1.heap.size := (HLI.out _ _ _ rfl (by omega)).2; have h2 := HG.out; omega
      have q0 := HX.out.2.2.1
      have q1 := HX.out.2.2.2
      have HBB := Lib.hid hbb1
      have n1 : ¬ b1 = G := by omega
      have n2 : ¬ G = b1 := by omega
      have n3 : ¬ b1 = w.heap.size := by omega
      have n4 : ¬ w.heap.size = b1 := by omega
      have n5 : ¬ b1 = b := by omega
      have n6 : ¬ b = b1 := by omega
      have i1 : (q : Int) < (n : Int) := by omega
      have i3 : (0 : Int) ≤ (q : Int) := by omega
      have i4 : (k : Int) < (m : Int) := by omega
      have i5 : (0 : Int) ≤ (k : Int) := by omega
      have HS0 := Lib.hid hs0
      clear hcc hbb1 hss hsz hz0 hz1 HST HSM hs0
      have EF := fate_one k
      have HST3 := Lib.hid (show met s0 d (fate [1] k) = d by rw [EF]; rfl)
      rw [HST3.out] at HST2
      clear EF
      go_wp2_with fail
      go_region_held3 (fun w' => w'.cell? ⟨G, 0, none⟩ = some (.slice (some ⟨b1, o1, none⟩) n cap1) ∧ w'.cell? ⟨w.heap.size, 1, none⟩ = some (.slice (some ⟨b, o, none⟩) m p') ∧ w'.cell? ⟨b, o + k * 2, none⟩ = some (.int .i64 (q : Int)) ∧ w'.cell? ⟨b, o + k * 2 + 1, none⟩ = some (.string d))
        (first | exact ⟨q0, g1, x0, x1⟩ | (refine ⟨?_, ?_, ?_, ?_⟩ <;> go_simp)) ((fail))
      go_wp2
      go_roundw
      case rel =>
        have hO := (HX.out.1.set q (by omega) (.string d)).congr (fun j hj => show _ = tc (st ts xs [1] (k + 1)) j by rw [HST2.out, tc_set _ _ _ (by rw [HLEN.out k]; exact hqn)])
        have hC0 : (wr.setCell ⟨b1, o1 + q, none⟩ (.string d)).cell? ⟨G, 0, none⟩ = some (.slice (some ⟨b1, o1, none⟩) n cap1) := by
          rw [World.cell?_setCell_other _ _ _ _ (fun e => n1 (congrArg Addr.block e))]; exact q0
        have hC1 : (wr.setCell ⟨b1, o1 + q, none⟩ (.string d)).cell? ⟨G, 1, none⟩ = some (.slice (some ⟨g, 0, none⟩) 0 0) := by
          rw [World.cell?_setCell_other _ _ _ _ (fun e => n1 (congrArg Addr.block e))]; exact q1
        exact ⟨k + 1, by omega, by go_num, Lib.hid ⟨hO, (HX.out.2.1.setCell HBB.out _).drew, hC0, hC1⟩⟩
      case measure => simp [intOf]; omega
    · have hk2 := Lib.hid (show k = m by omega)
      have q0 := HX.out.2.2.1
      have q1 := HX.out.2.2.2
      have HDW : Hid (DevO wr W.heap.size (.agg #[.slice a1 n cap1, .slice (some ⟨g, 0, none⟩) 0 0]) (st ts xs [1] m) []) := Lib.hid ⟨_, _, rfl, by rw [HLEN.out m, ← hk2.out]; exact HX.out.1, ⟨_, 0, rfl, Nat.le_refl _, by unfold maxLen; omega, fun h => absurd h (by simp)⟩, apart_empty _ _ _⟩
      obtain ⟨F, eF, hd, R0, R1, hbF⟩ := put_dev HDW.out HLT.out g2 g3
      have HD2 := Lib.hid (hd.base HB.out.size)
      have HBF := Lib.hid (HB.out.trans ((HX.out.2.1.mono HB.out.size).trans (hbF w.heap.size (by omega))))
      clear hd hbF
      go_wp2_with fail
      refine bodyPost_ret (v := .agg #[.slice a1 n cap1, .slice (some ⟨g, 0, none⟩) 0 0]) (by simp [results, Try.results71, go_sem, R0, R1]) rfl ⟨_, rfl, by rw [EM.out]; exact HD2.out, HBF.out⟩

set_option maxRecDepth 100000 in
set_option maxHeartbeats 3200000 in
theorem l05Crash (w : World) (v : Value) (ts : List ByteArray) (xs : List (Int × ByteArray)) (fv : Value) (fs : List Int) (h : Dev w v ts xs) (hr : Rt ts xs) (hfv : Sl w 1 fv fs.length (nc fs)) (hfl : fs.length ≤ 1048576) :
    Calls Try.prog 52 #[v, fv] w fun e w' => ∃ r, e = .returned r ∧ DevO w' w.heap.size r (st ts xs fs xs.length) [] ∧ Below w.heap.size w w' := by
  have HV := Lib.hid h
  obtain ⟨a, p, a', p', rfl⟩ := Ex.form h
  obtain ⟨W, eW, hB, hlt, c0, c1, r0, r1, f0, f1⟩ := boxed w 26 26 (.slice a ts.length p) (.slice a' xs.length p')
  obtain ⟨s1, s2, e12, k1, k2⟩ := HV.out.below hB
  obtain ⟨rfl, rfl⟩ : Value.slice a ts.length p = s1 ∧ Value.slice a' xs.length p' = s2 := by simpa using e12
  have H1 := Lib.hid k1
  obtain ⟨af, pf, rfl, _, hpf, kf⟩ := hfv.below hB
  have HFV := Lib.hid kf
  have hpf2 := Lib.hid hpf
  clear hfv kf hpf
  obtain ⟨_, capx, ex, _, hcapx, kk⟩ := k2
  obtain ⟨rfl, rfl⟩ : a' = _ ∧ p' = capx := by simpa using ex
  have H2 := Lib.hid kk
  have HB := Lib.hid hB
  have HLT := Lib.hid hlt
  have HSIX := Lib.hid (fun u (hb : Below W.heap.size W u) => six hb hlt c0 c1 r0 r1 f0 f1)
  have HR := Lib.hid hr
  have h40 : ts.length ≤ 1048576 := by rw [hr.1]; omega
  have h60 : xs.length ≤ 60 := hr.2.1
  have HB1 := Lib.hid ((Below.refl W.heap.size W).alloc (Nat.le_refl _) (.cells #[] 9))
  have hl0 : w.heap.size < W.heap.size := by omega
  have hp1 : 0 < 1 := by omega
  have hm1 : ts.length ≤ maxLen := by unfold maxLen; omega
  have hy1 : ts.length * 16 ≤ 140737488355328 := by omega
  clear h hB k1 kk e12 ex hr
  obtain ⟨n, en⟩ : ∃ n, ts.length = n := ⟨_, rfl⟩
  have EN := Lib.hid en
  have HLEN := Lib.hid (fun k => (st_len ts xs fs k).trans en)
  obtain ⟨m, em⟩ : ∃ m, xs.length = m := ⟨_, rfl⟩
  have EM := Lib.hid em
  have KA := Lib.hid (fun (u1 : World) (a1 : Option Addr) (cap1 : Nat) => outBox u1 64 26 (.slice a1 ts.length cap1))
  clear en em
  go_enter Try.func52, Try.ntmps52
  go_wp2_with (at_builtin; (refine wpList_app0 _ rfl (.tmp 11) (.tmp 13) 23 rfl 9 1 16 _ Try.underlying23 LawS.info9 rfl hp1 _ rfl _ rfl ts.length (tc ts) (H1.out.below HB1.out) (fun j _ => tc_one ts j) hm1 hy1 ?_; intro a1 cap1 u1 ho1 hb1; have HO1 := Lib.hid (ho1.base HB1.out.size); have HE1 := Lib.hid (HB1.out.trans (hb1.mono HB1.out.size)); obtain ⟨U, eU, hbU, hzU, o0, o1⟩ := KA.out u1 a1 cap1; have HEU := Lib.hid hbU; have HZU := Lib.hid hzU; obtain ⟨g0, g1, g2, g3, g4, g5⟩ := HSIX.out u1 HE1.out; clear ho1 hb1 hbU hzU))
  clear eW eU g0 g1 g2 g3 g4 g5 c0 c1 r0 r1 f0 f1
  have HLI := Lib.hid (Ex.lies_of HO1.out (by omega))
  have HO2 := Lib.hid (HO1.out.below HEU.out)
  have HE2 := Lib.hid (HE1.out.trans (HEU.out.mono HE1.out.size))
  have HU1 := Lib.hid HE1.out.size
  obtain ⟨g0, g1, g2, g3, g4, g5⟩ := HSIX.out U HE2.out
  obtain ⟨G, eG⟩ : ∃ G, u1.heap.size + 1 = G := ⟨_, rfl⟩
  have HG := Lib.hid (show u1.heap.size < G by omega)
  obtain ⟨g, eg⟩ : ∃ g, u1.heap.size = g := ⟨_, rfl⟩
  rw [eG] at o0 o1 HZU ⊢
  rw [eg] at o1 ⊢
  rw [EN.out] at HO2 HLI o0 g0 h40 ⊢
  rw [EM.out] at g1 h60 H2 ⊢
  clear eG eg KA HO1
  go_loopw [6] (fun i wr => ∃ k : Nat, k ≤ m ∧ i = .int .i64 k ∧ Hid (Own wr W.heap.size 1 (.slice a1 n cap1) n (tc (st ts xs fs k)) ∧ Below W.heap.size W wr ∧ wr.cell? ⟨G, 0, none⟩ = some (.slice a1 n cap1) ∧ wr.cell? ⟨G, 1, none⟩ = some (.slice (some ⟨g, 0, none⟩) 0 0))) (fun i _ => m - (intOf i).toNat)
  case atStart => exact ⟨0, by omega, rfl, Lib.hid ⟨HO2.out, HE2.out, o0, o1⟩⟩
  case round =>
    rename_i wr
    obtain ⟨k, hk, rfl, HX⟩ := hrel
    clear g0 g1 g2 g3 g4 g5 o0 o1
    obtain ⟨g0, g1, g2, g3, g4, g5⟩ := HSIX.out wr HX.out.2.1
    rw [EM.out] at g1
    rw [EN.out] at g0
    by_cases hlt2 : k < m
    · obtain ⟨b, o, rfl, hc⟩ := H2.out (by omega)
      have x0 := hc (k * 2) (by omega)
      have x1 := hc (k * 2 + 1) (by omega)
      have lb : b < W.heap.size := World.block_lt_of_cell? W _ x0
      rw [← HX.out.2.1.cell (World.block_lt_of_cell? W _ x0), pc_even] at x0
      rw [← HX.out.2.1.cell (World.block_lt_of_cell? W _ x1), pc_odd, ← Nat.add_assoc] at x1
      obtain ⟨hin, hsz⟩ := HR.out.2.2.2 k (by rw [EM.out]; exact hlt2)
      have HST := Lib.hid (show ∀ y, xs.getD k (0, ByteArray.empty) = y → st ts xs fs (k + 1) = (st ts xs fs k).set y.1.toNat (met ((st ts xs fs k).getD y.1.toNat ByteArray.empty) y.2 (fate fs k)) from fun y e => by rw [← e]; rfl)
      have HSM := Lib.hid (st_small HR.out fs k (by rw [EM.out]; omega))
      clear hc
      generalize xs.getD k (0, ByteArray.empty) = y at *
      obtain ⟨z, d⟩ := y
      simp only at x0 x1 hin hsz
      obtain ⟨hz0, hz1⟩ := hin
      obtain ⟨q, rfl⟩ : ∃ q : Nat, z = q := ⟨z.toNat, by omega⟩
      have hqn : q < n := by have h1 := HR.out.1; rw [EN.out] at h1; omega
      have HST2 := Lib.hid (HST.out (q, d) rfl)
      simp only [Int.toNat_natCast] at HST2
      obtain ⟨b1, o1, ea1, hbb1, hcc⟩ := HX.out.1.at (by omega)
      obtain rfl : a1 = some ⟨b1, o1, none⟩ := ea1
      obtain ⟨s0, hs0⟩ : ∃ s0, (st ts xs fs k).getD q ByteArray.empty = s0 := ⟨_, rfl⟩
      obtain ⟨cq, fq⟩ := hcc q (by omega)
      unfold tc at cq
      have hss := HSM.out q
      rw [hs0] at cq hss HST2
      have HLS : Hid (s0.size ≤ 700 ∧ d.size ≤ 700) := Lib.hid ⟨hss, hsz⟩
      have hbG : b1 < G := by have h1 : b1 < u1.heap.size := (HLI.out _ _ _ rfl (by omega)).2; have h2 := HG.out; omega
      have q0 := HX.out.2.2.1
      have q1 := HX.out.2.2.2
      have HBB := Lib.hid hbb1
      have n1 : ¬ b1 = G := by omega
      have n2 : ¬ G = b1 := by omega
      have n3 : ¬ b1 = w.heap.size := by omega
      have n4 : ¬ w.heap.size = b1 := by omega
      have n5 : ¬ b1 = b := by omega
      have n6 : ¬ b = b1 := by omega
      have i1 : (q : Int) < (n : Int) := by omega
      have i3 : (0 : Int) ≤ (q : Int) := by omega
      have i4 : (k : Int) < (m : Int) := by omega
      have i5 : (0 : Int) ≤ (k : Int) := by omega
      have HS0 := Lib.hid hs0
      clear hcc hbb1 hss hsz hz0 hz1 HST HSM hs0
      obtain ⟨f, ef⟩ : ∃ f, fate fs k = f := ⟨_, rfl⟩
      rw [ef] at HST2
      obtain ⟨V, eV, hbV, hzV, v0, v1⟩ := Ex.boxU wr 64 (.int .i64 (q : Int)) (.string d)
      have cqV := (hbV.cell (World.block_lt_of_cell? wr _ cq)).trans cq
      have fqV := (hbV.frozen (p := ⟨b1, o1 + q, none⟩) (World.block_lt_of_cell? wr _ cq)).trans fq
      obtain ⟨p0, p1⟩ := Ex.box_below hbV q0 q1
      have HOV := Lib.hid (HX.out.1.below hbV)
      have HEV := Lib.hid (HX.out.2.1.trans (hbV.mono HX.out.2.1.size))
      have lG : G < wr.heap.size := World.block_lt_of_cell? wr _ q0
      have lb1 : b1 < wr.heap.size := World.block_lt_of_cell? wr _ cq
      have n7 : ¬ b1 = wr.heap.size := by omega
      have n8 : ¬ wr.heap.size = b1 := by omega
      obtain ⟨h2, eh2⟩ : ∃ h2, d.size / 2 = h2 := ⟨_, rfl⟩
      have hq2 : (d.size : Int) / 2 = (h2 : Int) := by omega
      have hle2 : (h2 : Int) ≤ (d.size : Int) := by omega
      have hle3 : (0 : Int) ≤ (h2 : Int) := by omega
      have EH2 := Lib.hid eh2
      have hd7 : d.size ≤ 700 := HLS.out.2
      have hh7 : h2 ≤ 350 := by omega
      have hw2 : IntKind.i64.wrap (h2 : Int) = h2 := by rw [IntKind.wrap_i64]; omega
      clear hbV hzV cq fq eh2
      by_cases hfs : fs.length = 0
      · obtain rfl : f = 0 := by rw [← ef]; unfold fate; rw [if_pos hfs]
        have dfs : decide (0 < (fs.length : Int)) = false := decide_eq_false (by omega)
        have dfs2 : decide (0 < fs.length) = false := decide_eq_false (by omega)
        have dfs3 : ¬ 0 < fs.length := by omega
        have hf1 : ¬ (0 : Int) = 1 := by omega
        have hf2 : ¬ (0 : Int) = 2 := by omega
        clear hfs
        have HST3 := Lib.hid (show met s0 d 0 = s0 by unfold met; rw [if_neg hf2, if_neg hf1])
        clear hf1 hf2 ef
        go_wp2
        go_roundw
        case rel => exact ⟨k + 1, by omega, by go_num, Lib.hid ⟨HOV.out.congr (fun j hj => by rw [HST2.out, HST3.out]; exact (tc_same (by rw [HLEN.out k]; exact hqn) HS0.out j).symm), HEV.out, p0, p1⟩⟩
        case measure => simp [intOf]; omega
      · have hpos : 0 < fs.length := by omega
        have hmod : k % fs.length < fs.length := Nat.mod_lt _ hpos
        obtain ⟨bf, of_, rfl, hcf⟩ := HFV.out hpos
        have cf := hcf (k % fs.length) (by omega)
        rw [← HX.out.2.1.cell (World.block_lt_of_cell? W _ cf), show nc fs (k % fs.length) = .int .i64 f by unfold nc; rw [← ef]; unfold fate; rw [if_neg (by omega)]] at cf
        have e1 : (k : Int) % (fs.length : Int) = ((k % fs.length : Nat) : Int) := by omega
        have i6 : ((k % fs.length : Nat) : Int) < (fs.length : Int) := by omega
        have i7 : (0 : Int) ≤ ((k % fs.length : Nat) : Int) := by omega
        have i8 : (0 : Int) < (fs.length : Int) := by omega
        have nf : ¬ (fs.length : Int) = 0 := by omega
        clear hcf
        generalize k % fs.length = r at *
        by_cases hf1 : f = 1
        · subst hf1
          have HST3 := Lib.hid (show met s0 d 1 = d by rfl)
          rw [HST3.out] at HST2
          clear ef
          go_wp2
          go_roundw
          case rel =>
            have hO := (HOV.out.set q (by omega) (.string d)).congr (fun j hj => show _ = tc (st ts xs fs (k + 1)) j by rw [HST2.out, tc_set _ _ _ (by rw [HLEN.out k]; exact hqn)])
            have hC0 : (V.setCell ⟨b1, o1 + q, none⟩ (.string d)).cell? ⟨G, 0, none⟩ = some (.slice (some ⟨b1, o1, none⟩) n cap1) := by
              rw [World.cell?_setCell_other _ _ _ _ (fun e => n1 (congrArg Addr.block e))]; exact p0
            have hC1 : (V.setCell ⟨b1, o1 + q, none⟩ (.string d)).cell? ⟨G, 1, none⟩ = some (.slice (some ⟨g, 0, none⟩) 0 0) := by
              rw [World.cell?_setCell_other _ _ _ _ (fun e => n1 (congrArg Addr.block e))]; exact p1
            exact ⟨k + 1, by omega, by go_num, Lib.hid ⟨hO, (HEV.out.setCell HBB.out _), hC0, hC1⟩⟩
          case measure => simp [intOf]; omega
        by_cases hf2 : f = 2
        · subst hf2
          clear ef hf1
          obtain ⟨T, eT⟩ : ∃ T, torn s0 d = T := ⟨_, rfl⟩
          have HST3 := Lib.hid (show met s0 d 2 = T by rw [← eT]; rfl)
          rw [HST3.out] at HST2
          obtain ⟨D1, eD⟩ : ∃ D1, d.extract 0 h2 = D1 := ⟨_, rfl⟩
          obtain ⟨S1, eS⟩ : ∃ S1, s0.extract (min h2 s0.size) s0.size = S1 := ⟨_, rfl⟩
          have eDS : D1 ++ S1 = T := by rw [← eD, ← eS, ← eT, ← EH2.out]; rfl
          have hDS : ¬ 9223372036854775807 < D1.size + S1.size := by
            rw [← eD, ← eS, ByteArray.size_extract, ByteArray.size_extract]
            have h1 := HLS.out.1
            have h2 := HLS.out.2
            omega
          clear eT
          rcases Nat.lt_or_ge s0.size h2 with hgt3 | hle4
          case inr =>
            rw [show min h2 s0.size = h2 by omega] at eS
            have m1 : ¬ (s0.size : Int) < (h2 : Int) := by omega
            have m2 : (h2 : Int) ≤ (s0.size : Int) := by omega
            have m3 : min (h2 : Int) (s0.size : Int) = (h2 : Int) := by omega
            have m4 : min h2 s0.size = h2 := by omega
            have m6 : ¬ s0.size < h2 := by omega
            go_wp2_with fail
            clear eV
            refine wp_region_noPanic ?_
            refine wp_region_held_drew (S := fun w' => w'.cell? ⟨wr.heap.size, 0, none⟩ = some (.int .i64 (q : Int)) ∧ w'.cell? ⟨wr.heap.size, 1, none⟩ = some (.string d) ∧ w'.cell? ⟨G, 0, none⟩ = some (.slice (some ⟨b1, o1, none⟩) n cap1)) (by kernel_rfl) ?_ (fun hHeld => ?_)
            · exact ⟨v0, v1, p0⟩
            refine wpAnyH_take (i := 0) (v := ?va0) rfl (by kernel_rfl) (by kernel_rfl) (by kernel_rfl) (fun _ _ _ h => h) (Or.inl ⟨by rfl, ?hya0⟩) (by assumption) ?resta0
            case hya0 =>
              intro w hSw
              (try dsimp only at hSw)
              go_simp
              (try with_reducible rfl)
            (try simp only [Act.put, List.setIfInBounds_toArray, List.set_cons_zero, List.set_cons_succ])
            refine wpAnyH_take (i := 1) (v := ?va1) rfl (by kernel_rfl) (by kernel_rfl) (by kernel_rfl) (fun _ _ _ h => h) (Or.inl ⟨by rfl, ?hya1⟩) (by assumption) ?resta1
            case hya1 =>
              intro w hSw
              (try dsimp only at hSw)
              go_simp
              (try with_reducible rfl)
            (try simp only [Act.put, List.setIfInBounds_toArray, List.set_cons_zero, List.set_cons_succ])
            refine wpAnyH_take (i := 2) (v := ?va2) rfl (by kernel_rfl) (by kernel_rfl) (by kernel_rfl) (fun _ _ _ h => h) (Or.inl ⟨by rfl, ?hya2⟩) (by assumption) ?resta2
            case hya2 =>
              intro w hSw
              (try dsimp only at hSw)
              go_simp
              (try with_reducible rfl)
            (try simp only [Act.put, List.setIfInBounds_toArray, List.set_cons_zero, List.set_cons_succ])
            refine wpAnyH_take (i := 3) (v := ?va3) rfl (by kernel_rfl) (by kernel_rfl) (by kernel_rfl) (fun _ _ _ h => h) (Or.inl ⟨by rfl, ?hya3⟩) (by assumption) ?resta3
            case hya3 =>
              intro w hSw
              (try dsimp only at hSw)
              go_simp
              (try with_reducible rfl)
            (try simp only [Act.put, List.setIfInBounds_toArray, List.set_cons_zero, List.set_cons_succ])
            refine wpAnyH_take (i := 4) (v := ?va4) rfl (by kernel_rfl) (by kernel_rfl) (by kernel_rfl) (fun _ _ _ h => h) (Or.inl ⟨by rfl, ?hya4⟩) (by assumption) ?resta4
            case hya4 =>
              intro w hSw
              (try dsimp only at hSw)
              go_simp
              (try with_reducible rfl)
            (try simp only [Act.put, List.setIfInBounds_toArray, List.set_cons_zero, List.set_cons_succ])
            refine wpAnyH_take (i := 5) (v := ?va5) rfl (by kernel_rfl) (by kernel_rfl) (by kernel_rfl) (fun _ _ _ h => h) (Or.inl ⟨by rfl, ?hya5⟩) (by assumption) ?resta5
            case hya5 =>
              intro w hSw
              (try dsimp only at hSw)
              go_simp
              (try with_reducible rfl)
            (try simp only [Act.put, List.setIfInBounds_toArray, List.set_cons_zero, List.set_cons_succ])
            refine wpAnyH_take (i := 6) (v := ?va6) rfl (by kernel_rfl) (by kernel_rfl) (by kernel_rfl) (fun _ _ _ h => h) (Or.inl ⟨by rfl, ?hya6⟩) (by assumption) ?resta6
            case hya6 =>
              intro w hSw
              (try dsimp only at hSw)
              go_simp
              (try with_reducible rfl)
            (try simp only [Act.put, List.setIfInBounds_toArray, List.set_cons_zero, List.set_cons_succ])
            refine wpAnyH_take (i := 7) (v := ?va7) rfl (by kernel_rfl) (by kernel_rfl) (by kernel_rfl) (fun _ _ _ h => h) (Or.inl ⟨by rfl, ?hya7⟩) (by assumption) ?resta7
            case hya7 =>
              intro w hSw
              (try dsimp only at hSw)
              go_simp
              (try with_reducible rfl)
            (try simp only [Act.put, List.setIfInBounds_toArray, List.set_cons_zero, List.set_cons_succ])
            refine wpAnyH_take (i := 8) (v := ?va8) rfl (by kernel_rfl) (by kernel_rfl) (by kernel_rfl) (fun _ _ _ h => h) (Or.inl ⟨by rfl, ?hya8⟩) (by assumption) ?resta8
            case hya8 =>
              intro w hSw
              (try dsimp only at hSw)
              go_simp
              (try with_reducible rfl)
            (try simp only [Act.put, List.setIfInBounds_toArray, List.set_cons_zero, List.set_cons_succ])
            refine wpAnyH_take (i := 9) (v := ?va9) rfl (by kernel_rfl) (by kernel_rfl) (by kernel_rfl) (fun _ _ _ h => h) (Or.inl ⟨by rfl, ?hya9⟩) (by assumption) ?resta9
            case hya9 =>
              intro w hSw
              (try dsimp only at hSw)
              go_simp
              (try with_reducible rfl)
            (try simp only [Act.put, List.setIfInBounds_toArray, List.set_cons_zero, List.set_cons_succ])
            refine wpAnyH_take (i := 10) (v := ?va10) rfl (by kernel_rfl) (by kernel_rfl) (by kernel_rfl) (fun _ _ _ h => h) (Or.inl ⟨by rfl, ?hya10⟩) (by assumption) ?resta10
            case hya10 =>
              intro w hSw
              (try dsimp only at hSw)
              go_simp
              (try with_reducible rfl)
            (try simp only [Act.put, List.setIfInBounds_toArray, List.set_cons_zero, List.set_cons_succ])
            refine wpAnyH_take (i := 11) (v := ?va11) rfl (by kernel_rfl) (by kernel_rfl) (by kernel_rfl) (fun _ _ _ h => h) (Or.inl ⟨by rfl, ?hya11⟩) (by assumption) ?resta11
            case hya11 =>
              intro w hSw
              (try dsimp only at hSw)
              go_simp
              (try with_reducible rfl)
            (try simp only [Act.put, List.setIfInBounds_toArray, List.set_cons_zero, List.set_cons_succ])
            refine wpAnyH_ready (rs := [12]) (by kernel_rfl) (by simp) ?_
            refine AllReadyH.cons rfl (fun K hK => ?_) ?_
            · go_simp
              refine hK.out _ _ ?_ (fun hHeld => ?_)
              · (try dsimp only)
                exact ⟨v0, v1, p0⟩
              clear hK K
              (try simp only [Act.put, List.setIfInBounds_toArray, List.set_cons_zero, List.set_cons_succ])
              refine wpAnyH_ready (rs := [13]) (by kernel_rfl) (by simp) ?_
              refine AllReadyH.cons rfl (fun K hK => ?_) ?_
              · go_simp
                refine hK.out _ _ ?_ (fun hHeld => ?_)
                · (try dsimp only)
                  exact ⟨v0, v1, p0⟩
                clear hK K
                (try simp only [Act.put, List.setIfInBounds_toArray, List.set_cons_zero, List.set_cons_succ])
                refine wpAnyH_ready (rs := [14]) (by kernel_rfl) (by simp) ?_
                refine AllReadyH.cons rfl (fun K hK => ?_) ?_
                · go_simp
                  refine hK.out _ _ ?_ (fun hHeld => ?_)
                  · (try dsimp only)
                    exact ⟨v0, v1, p0⟩
                  clear hK K
                  (try simp only [Act.put, List.setIfInBounds_toArray, List.set_cons_zero, List.set_cons_succ])
                  refine wpAnyH_ready (rs := [15]) (by kernel_rfl) (by simp) ?_
                  refine AllReadyH.cons rfl (fun K hK => ?_) ?_
                  · go_simp
                    refine hK.out _ _ ?_ (fun hHeld => ?_)
                    · (try dsimp only)
                      exact ⟨v0, v1, p0⟩
                    clear hK K
                    (try simp only [Act.put, List.setIfInBounds_toArray, List.set_cons_zero, List.set_cons_succ])
                    refine wpAnyH_ready (rs := [16]) (by kernel_rfl) (by simp) ?_
                    refine AllReadyH.cons rfl (fun K hK => ?_) ?_
                    · go_simp
                      refine hK.out _ _ ?_ (fun hHeld => ?_)
                      · (try dsimp only)
                        refine ⟨?_, ?_, ?_⟩ <;> go_simp
                      clear hK K
                      (try simp only [Act.put, List.setIfInBounds_toArray, List.set_cons_zero, List.set_cons_succ])
                      refine wpAnyH_done (by kernel_rfl) ?_ _
                      refine NoPanic.normal ?_
                      go_wp2
                      go_roundw
                      case rel =>
                        have hO := (HOV.out.set q (by omega) (.string T)).congr (fun j hj => show _ = tc (st ts xs fs (k + 1)) j by rw [HST2.out, tc_set _ _ _ (by rw [HLEN.out k]; exact hqn)])
                        have hC0 : (V.setCell ⟨b1, o1 + q, none⟩ (.string T)).cell? ⟨G, 0, none⟩ = some (.slice (some ⟨b1, o1, none⟩) n cap1) := by
                          rw [World.cell?_setCell_other _ _ _ _ (fun e => n1 (congrArg Addr.block e))]; exact p0
                        have hC1 : (V.setCell ⟨b1, o1 + q, none⟩ (.string T)).cell? ⟨G, 1, none⟩ = some (.slice (some ⟨g, 0, none⟩) 0 0) := by
                          rw [World.cell?_setCell_other _ _ _ _ (fun e => n1 (congrArg Addr.block e))]; exact p1
                        exact ⟨k + 1, by omega, by go_num, Lib.hid ⟨hO, (HEV.out.setCell HBB.out _).drew, hC0, hC1⟩⟩
                      case measure => simp [intOf]; omega
                    · exact AllReadyH.nil
                  · exact AllReadyH.nil
                · exact AllReadyH.nil
              · exact AllReadyH.nil
            · exact AllReadyH.nil
          case inl =>
            rw [show min h2 s0.size = s0.size by omega] at eS
            have m1 : (s0.size : Int) < (h2 : Int) := by omega
            have m2 : (s0.size : Int) ≤ (h2 : Int) := by omega
            have m3 : min (h2 : Int) (s0.size : Int) = (s0.size : Int) := by omega
            have m4 : min h2 s0.size = s0.size := by omega
            have m5 : (0 : Int) ≤ (s0.size : Int) := by omega
            obtain rfl : D1 = T := by rw [← eDS, ← eS]; simp
            have hD9 : ¬ 9223372036854775807 < D1.size := by omega
            clear eS eDS
            go_wp2_with fail
            clear eV
            refine wp_region_noPanic ?_
            refine wp_region_held_drew (S := fun w' => w'.cell? ⟨wr.heap.size, 0, none⟩ = some (.int .i64 (q : Int)) ∧ w'.cell? ⟨wr.heap.size, 1, none⟩ = some (.string d) ∧ w'.cell? ⟨G, 0, none⟩ = some (.slice (some ⟨b1, o1, none⟩) n cap1)) (by kernel_rfl) ?_ (fun hHeld => ?_)
            · exact ⟨v0, v1, p0⟩
            refine wpAnyH_take (i := 0) (v := ?vb0) rfl (by kernel_rfl) (by kernel_rfl) (by kernel_rfl) (fun _ _ _ h => h) (Or.inl ⟨by rfl, ?hyb0⟩) (by assumption) ?restb0
            case hyb0 =>
              intro w hSw
              (try dsimp only at hSw)
              go_simp
              (try with_reducible rfl)
            (try simp only [Act.put, List.setIfInBounds_toArray, List.set_cons_zero, List.set_cons_succ])
            refine wpAnyH_take (i := 1) (v := ?vb1) rfl (by kernel_rfl) (by kernel_rfl) (by kernel_rfl) (fun _ _ _ h => h) (Or.inl ⟨by rfl, ?hyb1⟩) (by assumption) ?restb1
            case hyb1 =>
              intro w hSw
              (try dsimp only at hSw)
              go_simp
              (try with_reducible rfl)
            (try simp only [Act.put, List.setIfInBounds_toArray, List.set_cons_zero, List.set_cons_succ])
            refine wpAnyH_take (i := 2) (v := ?vb2) rfl (by kernel_rfl) (by kernel_rfl) (by kernel_rfl) (fun _ _ _ h => h) (Or.inl ⟨by rfl, ?hyb2⟩) (by assumption) ?restb2
            case hyb2 =>
              intro w hSw
              (try dsimp only at hSw)
              go_simp
              (try with_reducible rfl)
            (try simp only [Act.put, List.setIfInBounds_toArray, List.set_cons_zero, List.set_cons_succ])
            refine wpAnyH_take (i := 3) (v := ?vb3) rfl (by kernel_rfl) (by kernel_rfl) (by kernel_rfl) (fun _ _ _ h => h) (Or.inl ⟨by rfl, ?hyb3⟩) (by assumption) ?restb3
            case hyb3 =>
              intro w hSw
              (try dsimp only at hSw)
              go_simp
              (try with_reducible rfl)
            (try simp only [Act.put, List.setIfInBounds_toArray, List.set_cons_zero, List.set_cons_succ])
            refine wpAnyH_take (i := 4) (v := ?vb4) rfl (by kernel_rfl) (by kernel_rfl) (by kernel_rfl) (fun _ _ _ h => h) (Or.inl ⟨by rfl, ?hyb4⟩) (by assumption) ?restb4
            case hyb4 =>
              intro w hSw
              (try dsimp only at hSw)
              go_simp
              (try with_reducible rfl)
            (try simp only [Act.put, List.setIfInBounds_toArray, List.set_cons_zero, List.set_cons_succ])
            refine wpAnyH_take (i := 5) (v := ?vb5) rfl (by kernel_rfl) (by kernel_rfl) (by kernel_rfl) (fun _ _ _ h => h) (Or.inl ⟨by rfl, ?hyb5⟩) (by assumption) ?restb5
            case hyb5 =>
              intro w hSw
              (try dsimp only at hSw)
              go_simp
              (try with_reducible rfl)
            (try simp only [Act.put, List.setIfInBounds_toArray, List.set_cons_zero, List.set_cons_succ])
            refine wpAnyH_take (i := 6) (v := ?vb6) rfl (by kernel_rfl) (by kernel_rfl) (by kernel_rfl) (fun _ _ _ h => h) (Or.inl ⟨by rfl, ?hyb6⟩) (by assumption) ?restb6
            case hyb6 =>
              intro w hSw
              (try dsimp only at hSw)
              go_simp
              (try with_reducible rfl)
            (try simp only [Act.put, List.setIfInBounds_toArray, List.set_cons_zero, List.set_cons_succ])
            refine wpAnyH_take (i := 7) (v := ?vb7) rfl (by kernel_rfl) (by kernel_rfl) (by kernel_rfl) (fun _ _ _ h => h) (Or.inl ⟨by rfl, ?hyb7⟩) (by assumption) ?restb7
            case hyb7 =>
              intro w hSw
              (try dsimp only at hSw)
              go_simp
              (try with_reducible rfl)
            (try simp only [Act.put, List.setIfInBounds_toArray, List.set_cons_zero, List.set_cons_succ])
            refine wpAnyH_take (i := 8) (v := ?vb8) rfl (by kernel_rfl) (by kernel_rfl) (by kernel_rfl) (fun _ _ _ h => h) (Or.inl ⟨by rfl, ?hyb8⟩) (by assumption) ?restb8
            case hyb8 =>
              intro w hSw
              (try dsimp only at hSw)
              go_simp
              (try with_reducible rfl)
            (try simp only [Act.put, List.setIfInBounds_toArray, List.set_cons_zero, List.set_cons_succ])
            refine wpAnyH_take (i := 9) (v := ?vb9) rfl (by kernel_rfl) (by kernel_rfl) (by kernel_rfl) (fun _ _ _ h => h) (Or.inl ⟨by rfl, ?hyb9⟩) (by assumption) ?restb9
            case hyb9 =>
              intro w hSw
              (try dsimp only at hSw)
              go_simp
              (try with_reducible rfl)
            (try simp only [Act.put, List.setIfInBounds_toArray, List.set_cons_zero, List.set_cons_succ])
            refine wpAnyH_take (i := 10) (v := ?vb10) rfl (by kernel_rfl) (by kernel_rfl) (by kernel_rfl) (fun _ _ _ h => h) (Or.inl ⟨by rfl, ?hyb10⟩) (by assumption) ?restb10
            case hyb10 =>
              intro w hSw
              (try dsimp only at hSw)
              go_simp
              (try with_reducible rfl)
            (try simp only [Act.put, List.setIfInBounds_toArray, List.set_cons_zero, List.set_cons_succ])
            refine wpAnyH_take (i := 11) (v := ?vb11) rfl (by kernel_rfl) (by kernel_rfl) (by kernel_rfl) (fun _ _ _ h => h) (Or.inl ⟨by rfl, ?hyb11⟩) (by assumption) ?restb11
            case hyb11 =>
              intro w hSw
              (try dsimp only at hSw)
              go_simp
              (try with_reducible rfl)
            (try simp only [Act.put, List.setIfInBounds_toArray, List.set_cons_zero, List.set_cons_succ])
            refine wpAnyH_ready (rs := [12]) (by kernel_rfl) (by simp) ?_
            refine AllReadyH.cons rfl (fun K hK => ?_) ?_
            · go_simp
              refine hK.out _ _ ?_ (fun hHeld => ?_)
              · (try dsimp only)
                exact ⟨v0, v1, p0⟩
              clear hK K
              (try simp only [Act.put, List.setIfInBounds_toArray, List.set_cons_zero, List.set_cons_succ])
              refine wpAnyH_ready (rs := [13]) (by kernel_rfl) (by simp) ?_
              refine AllReadyH.cons rfl (fun K hK => ?_) ?_
              · go_simp
                refine hK.out _ _ ?_ (fun hHeld => ?_)
                · (try dsimp only)
                  exact ⟨v0, v1, p0⟩
                clear hK K
                (try simp only [Act.put, List.setIfInBounds_toArray, List.set_cons_zero, List.set_cons_succ])
                refine wpAnyH_ready (rs := [14]) (by kernel_rfl) (by simp) ?_
                refine AllReadyH.cons rfl (fun K hK => ?_) ?_
                · go_simp
                  refine hK.out _ _ ?_ (fun hHeld => ?_)
                  · (try dsimp only)
                    exact ⟨v0, v1, p0⟩
                  clear hK K
                  (try simp only [Act.put, List.setIfInBounds_toArray, List.set_cons_zero, List.set_cons_succ])
                  refine wpAnyH_ready (rs := [15]) (by kernel_rfl) (by simp) ?_
                  refine AllReadyH.cons rfl (fun K hK => ?_) ?_
                  · go_simp
                    refine hK.out _ _ ?_ (fun hHeld => ?_)
                    · (try dsimp only)
                      exact ⟨v0, v1, p0⟩
                    clear hK K
                    (try simp only [Act.put, List.setIfInBounds_toArray, List.set_cons_zero, List.set_cons_succ])
                    refine wpAnyH_ready (rs := [16]) (by kernel_rfl) (by simp) ?_
                    refine AllReadyH.cons rfl (fun K hK => ?_) ?_
                    · go_simp
                      refine hK.out _ _ ?_ (fun hHeld => ?_)
                      · (try dsimp only)
                        refine ⟨?_, ?_, ?_⟩ <;> go_simp
                      clear hK K
                      (try simp only [Act.put, List.setIfInBounds_toArray, List.set_cons_zero, List.set_cons_succ])
                      refine wpAnyH_done (by kernel_rfl) ?_ _
                      refine NoPanic.normal ?_
                      go_wp2
                      go_roundw
                      case rel =>
                        have hO := (HOV.out.set q (by omega) (.string D1)).congr (fun j hj => show _ = tc (st ts xs fs (k + 1)) j by rw [HST2.out, tc_set _ _ _ (by rw [HLEN.out k]; exact hqn)])
                        have hC0 : (V.setCell ⟨b1, o1 + q, none⟩ (.string D1)).cell? ⟨G, 0, none⟩ = some (.slice (some ⟨b1, o1, none⟩) n cap1) := by
                          rw [World.cell?_setCell_other _ _ _ _ (fun e => n1 (congrArg Addr.block e))]; exact p0
                        have hC1 : (V.setCell ⟨b1, o1 + q, none⟩ (.string D1)).cell? ⟨G, 1, none⟩ = some (.slice (some ⟨g, 0, none⟩) 0 0) := by
                          rw [World.cell?_setCell_other _ _ _ _ (fun e => n1 (congrArg Addr.block e))]; exact p1
                        exact ⟨k + 1, by omega, by go_num, Lib.hid ⟨hO, (HEV.out.setCell HBB.out _).drew, hC0, hC1⟩⟩
                      case measure => simp [intOf]; omega
                    · exact AllReadyH.nil
                  · exact AllReadyH.nil
                · exact AllReadyH.nil
              · exact AllReadyH.nil
            · exact AllReadyH.nil
        have HST3 := Lib.hid (show met s0 d f = s0 by unfold met; rw [if_neg hf2, if_neg hf1])
        have hd1 : (f == 1) = false := beq_eq_false_iff_ne.2 hf1
        have hd2 : (f == 2) = false := beq_eq_false_iff_ne.2 hf2
        go_wp2
        go_roundw
        case rel => exact ⟨k + 1, by omega, by go_num, Lib.hid ⟨HOV.out.congr (fun j hj => by rw [HST2.out, HST3.out]; exact (tc_same (by rw [HLEN.out k]; exact hqn) HS0.out j).symm), HEV.out, p0, p1⟩⟩
        case measure => simp [intOf]; omega
    · have hk2 := Lib.hid (show k = m by omega)
      have q0 := HX.out.2.2.1
      have q1 := HX.out.2.2.2
      have HDW : Hid (DevO wr W.heap.size (.agg #[.slice a1 n cap1, .slice (some ⟨g, 0, none⟩) 0 0]) (st ts xs fs m) []) := Lib.hid ⟨_, _, rfl, by rw [HLEN.out m, ← hk2.out]; exact HX.out.1, ⟨_, 0, rfl, Nat.le_refl _, by unfold maxLen; omega, fun h => absurd h (by simp)⟩, apart_empty _ _ _⟩
      obtain ⟨F, eF, hd, R0, R1, hbF⟩ := put_dev HDW.out HLT.out g2 g3
      have HD2 := Lib.hid (hd.base HB.out.size)
      have HBF := Lib.hid (HB.out.trans ((HX.out.2.1.mono HB.out.size).trans (hbF w.heap.size (by omega))))
      clear hd hbF
      go_wp2_with fail
      refine bodyPost_ret (v := .agg #[.slice a1 n cap1, .slice (some ⟨g, 0, none⟩) 0 0]) (by simp [results, Try.results52, go_sem, R0, R1]) rfl ⟨_, rfl, by rw [EM.out]; exact HD2.out, HBF.out⟩
end Go.Proofs.Ytmgokpkogjdfhaa.Crash2
