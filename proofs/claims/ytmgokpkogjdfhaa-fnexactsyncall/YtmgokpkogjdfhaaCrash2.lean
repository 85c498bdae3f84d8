/-
  What is proved: the model's settling of a device's writes, synced or by fates, leaves the plain list of texts, of the call's own (contracts for the walks).
-/
import Derived.Test.YtmgokpkogjdfhaaRows
import Derived.Test.YtmgokpkogjdfhaaCrash
namespace Go.Proofs.Ytmgokpkogjdfhaa.Crash2
open Go.ChangeShapes Go.WideShapes Go.ChangeAt Go.RowKit
open Sl (Sl Own Off)
open OpenSl (tc nc pc)
open Dev Cop Copied Settle Crash
open LawI (pc_even pc_odd)
open Right
open Writes (zero_dev)
set_option linter.unusedVariables false
set_option linter.unusedSimpArgs false

/-- An empty slice and a device's box, made. -/
theorem outBox (u : World) (t t' : TypeId) (a : Value) : ∃ U, (u.alloc (.cells #[] t)).alloc (.cells #[a, .slice (some ⟨u.heap.size, 0, none⟩) 0 0] t') = U ∧ Below u.heap.size u U ∧ u.heap.size + 1 < U.heap.size ∧ U.cell? ⟨u.heap.size + 1, 0, none⟩ = some a ∧ U.cell? ⟨u.heap.size + 1, 1, none⟩ = some (.slice (some ⟨u.heap.size, 0, none⟩) 0 0) :=
  ⟨_, rfl, ((Below.refl _ u).alloc (Nat.le_refl _) _).alloc (by simp) _, by simp, by go_simp, by go_simp⟩
theorem fate_one (k : Nat) : fate [1] k = 1 := by
  unfold fate
  rw [if_neg (by simp), show k % [(1 : Int)].length = 0 from Nat.mod_one k]
  rfl

set_option maxRecDepth 100000 in
set_option maxHeartbeats 3200000 in
theorem l05Sync (w : World) (v : Value) (ts : List ByteArray) (xs : List (Int × ByteArray)) (h : Dev w v ts xs) (hr : Rt ts xs) :
    Calls Try.prog 71 #[v] w fun e w' => ∃ r, e = .returned r ∧ DevO w' w.heap.size r (st ts xs [1] xs.length) [] ∧ Below w.heap.size w w' := by
  have HV := Lib.hid h
  obtain ⟨a, p, a', p', rfl⟩ := Ex.form h
  obtain ⟨W, eW, hB, hlt, c0, c1, r0, r1, f0, f1⟩ := boxed w 26 26 (.slice a ts.length p) (.slice a' xs.length p')
  obtain ⟨s1, s2, e12, k1, k2⟩ := HV.out.below hB
  obtain ⟨rfl, rfl⟩ : Value.slice a ts.length p = s1 ∧ Value.slice a' xs.length p' = s2 := by simpa using e12
  have H1 := Lib.hid k1
  obtain ⟨_, capx, ex, _, hcapx, kk⟩ := k2
  obtain ⟨rfl, rfl⟩ : a' = _ ∧ p' = capx := by simpa using ex
  have H2 := Lib.hid kk
  have HB := Lib.hid hB
  have HLT := Lib.hid hlt
  have HSIX := Lib.hid (fun u (hb : Below W.heap.size W u) => six hb hlt c0 c1 r0 r1 f0 f1)
  have HR := Lib.hid hr
  have h40 : ts.length ≤ 1048576 := by rw [hr.1]; omega
  have h60 : xs.length ≤ 60 := hr.2.1
  have HB1 := Lib.hid ((Below.refl W.heap.size W).alloc (Nat.le_refl _) (.cells #[] 9))
  have hl0 : w.heap.size < W.heap.size := by omega
  have hp1 : 0 < 1 := by omega
  have hm1 : ts.length ≤ maxLen := by unfold maxLen; omega
  have hy1 : ts.length * 16 ≤ 140737488355328 := by omega
  clear h hB k1 kk e12 ex hr
  obtain ⟨n, en⟩ : ∃ n, ts.length = n := ⟨_, rfl⟩
  have EN := Lib.hid en
  have HLEN := Lib.hid (fun k => (st_len ts xs [1] k).trans en)
  obtain ⟨m, em⟩ : ∃ m, xs.length = m := ⟨_, rfl⟩
  have EM := Lib.hid em
  have KA := Lib.hid (fun (u1 : World) (a1 : Option Addr) (cap1 : Nat) => outBox u1 64 26 (.slice a1 ts.length cap1))
  clear en em
  go_enter Try.func71, Try.ntmps71
  go_wp2_with (at_builtin; (refine wpList_app0 _ rfl (.tmp 5) (.tmp 7) 23 rfl 9 1 16 _ Try.underlying23 LawS.info9 rfl hp1 _ rfl _ rfl ts.length (tc ts) (H1.out.below HB1.out) (fun j _ => tc_one ts j) hm1 hy1 ?_; intro a1 cap1 u1 ho1 hb1; have HO1 := Lib.hid (ho1.base HB1.out.size); have HE1 := Lib.hid (HB1.out.trans (hb1.mono HB1.out.size)); obtain ⟨U, eU, hbU, hzU, o0, o1⟩ := KA.out u1 a1 cap1; have HEU := Lib.hid hbU; have HZU := Lib.hid hzU; obtain ⟨g0, g1, g2, g3, g4, g5⟩ := HSIX.out u1 HE1.out; clear ho1 hb1 hbU hzU))
  clear eW eU g0 g1 g2 g3 g4 g5 c0 c1 r0 r1 f0 f1
  have HLI := Lib.hid (Ex.lies_of HO1.out (by omega))
  have HO2 := Lib.hid (HO1.out.below HEU.out)
  have HE2 := Lib.hid (HE1.out.trans (HEU.out.mono HE1.out.size))
  have HU1 := Lib.hid HE1.out.size
  obtain ⟨g0, g1, g2, g3, g4, g5⟩ := HSIX.out U HE2.out
  obtain ⟨G, eG⟩ : ∃ G, u1.heap.size + 1 = G := ⟨_, rfl⟩
  have HG := Lib.hid (show u1.heap.size < G by omega)
  obtain ⟨g, eg⟩ : ∃ g, u1.heap.size = g := ⟨_, rfl⟩
  rw [eG] at o0 o1 HZU ⊢
  rw [eg] at o1 ⊢
  rw [EN.out] at HO2 HLI o0 g0 h40 ⊢
  rw [EM.out] at g1 h60 H2 ⊢
  clear eG eg KA HO1
  go_loopw [4] (fun i wr => ∃ k : Nat, k ≤ m ∧ i = .int .i64 k ∧ Hid (Own wr W.heap.size 1 (.slice a1 n cap1) n (tc (st ts xs [1] k)) ∧ Below W.heap.size W wr ∧ wr.cell? ⟨G, 0, none⟩ = some (.slice a1 n cap1) ∧ wr.cell? ⟨G, 1, none⟩ = some (.slice (some ⟨g, 0, none⟩) 0 0))) (fun i _ => m - (intOf i).toNat)
  case atStart => exact ⟨0, by omega, rfl, Lib.hid ⟨HO2.out, HE2.out, o0, o1⟩⟩
  case round =>
    rename_i wr
    obtain ⟨k, hk, rfl, HX⟩ := hrel
    clear g0 g1 g2 g3 g4 g5 o0 o1
    obtain ⟨g0, g1, g2, g3, g4, g5⟩ := HSIX.out wr HX.out.2.1
    rw [EM.out] at g1
    rw [EN.out] at g0
    by_cases hlt2 : k < m
    · obtain ⟨b, o, rfl, hc⟩ := H2.out (by omega)
      have x0 := hc (k * 2) (by omega)
      have x1 := hc (k * 2 + 1) (by omega)
      have lb : b < W.heap.size := World.block_lt_of_cell? W _ x0
      rw [← HX.out.2.1.cell (World.block_lt_of_cell? W _ x0), pc_even] at x0
      rw [← HX.out.2.1.cell (World.block_lt_of_cell? W _ x1), pc_odd, ← Nat.add_assoc] at x1
      obtain ⟨hin, hsz⟩ := HR.out.2.2.2 k (by rw [EM.out]; exact hlt2)
      have HST := Lib.hid (show ∀ y, xs.getD k (0, ByteArray.empty) = y → st ts xs [1] (k + 1) = (st ts xs [1] k).set y.1.toNat (met ((st ts xs [1] k).getD y.1.toNat ByteArray.empty) y.2 (fate [1] k)) from fun y e => by rw [← e]; rfl)
      have HSM := Lib.hid (st_small HR.out [1] k (by rw [EM.out]; omega))
      clear hc
      generalize xs.getD k (0, ByteArray.empty) = y at *
      obtain ⟨z, d⟩ := y
      simp only at x0 x1 hin hsz
      obtain ⟨hz0, hz1⟩ := hin
      obtain ⟨q, rfl⟩ : ∃ q : Nat, z = q := ⟨z.toNat, by omega⟩
      have hqn : q < n := by have h1 := HR.out.1; rw [EN.out] at h1; omega
      have HST2 := Lib.hid (HST.out (q, d) rfl)
      simp only [Int.toNat_natCast] at HST2
      obtain ⟨b1, o1, ea1, hbb1, hcc⟩ := HX.out.1.at (by omega)
      obtain rfl : a1 = some ⟨b1, o1, none⟩ := ea1
      obtain ⟨s0, hs0⟩ : ∃ s0, (st ts xs [1] k).getD q ByteArray.empty = s0 := ⟨_, rfl⟩
      obtain ⟨cq, fq⟩ := hcc q (by omega)
      unfold tc at cq
      have hss := HSM.out q
      rw [hs0] at cq hss HST2
      have HLS : Hid (s0.size ≤ 700 ∧ d.size ≤ 700) := Lib.hid ⟨hss, hsz⟩
      have hbG : b1 < G := by have h1 : b1 < u1.heap.size := (HLI.out _ _ _ rfl (by omega)).2; have h2 := HG.out; omega
      have q0 := HX.out.2.2.1
      have q1 := HX.out.2.2.2
      have HBB := Lib.hid hbb1
      have n1 : ¬ b1 = G := by omega
      have n2 : ¬ G = b1 := by omega
      have n3 : ¬ b1 = w.heap.size := by omega
      have n4 : ¬ w.heap.size = b1 := by omega
      have n5 : ¬ b1 = b := by omega
      have n6 : ¬ b = b1 := by omega
      have i1 : (q : Int) < (n : Int) := by omega
      have i3 : (0 : Int) ≤ (q : Int) := by omega
      have i4 : (k : Int) < (m : Int) := by omega
      have i5 : (0 : Int) ≤ (k : Int) := by omega
      clear hcc hbb1 hss hsz hz0 hz1 HST HSM hs0
      have EF := fate_one k
      have HST3 := Lib.hid (show met s0 d (fate [1] k) = d by rw [EF]; rfl)
      rw [HST3.out] at HST2
      clear EF
      go_wp2_with fail
      go_region_held3 (fun w' => w'.cell? ⟨G, 0, none⟩ = some (.slice (some ⟨b1, o1, none⟩) n cap1) ∧ w'.cell? ⟨w.heap.size, 1, none⟩ = some (.slice (some ⟨b, o, none⟩) m p') ∧ w'.cell? ⟨b, o + k * 2, none⟩ = some (.int .i64 (q : Int)) ∧ w'.cell? ⟨b, o + k * 2 + 1, none⟩ = some (.string d))
        (first | exact ⟨q0, g1, x0, x1⟩ | (refine ⟨?_, ?_, ?_, ?_⟩ <;> go_simp)) ((fail))
      go_wp2
      go_roundw
      case rel =>
        have hO := (HX.out.1.set q (by omega) (.string d)).congr (fun j hj => show _ = tc (st ts xs [1] (k + 1)) j by rw [HST2.out, tc_set _ _ _ (by rw [HLEN.out k]; exact hqn)])
        have hC0 : (wr.setCell ⟨b1, o1 + q, none⟩ (.string d)).cell? ⟨G, 0, none⟩ = some (.slice (some ⟨b1, o1, none⟩) n cap1) := by
          rw [World.cell?_setCell_other _ _ _ _ (fun e => n1 (congrArg Addr.block e))]; exact q0
        have hC1 : (wr.setCell ⟨b1, o1 + q, none⟩ (.string d)).cell? ⟨G, 1, none⟩ = some (.slice (some ⟨g, 0, none⟩) 0 0) := by
          rw [World.cell?_setCell_other _ _ _ _ (fun e => n1 (congrArg Addr.block e))]; exact q1
        exact ⟨k + 1, by omega, by go_num, Lib.hid ⟨hO, (HX.out.2.1.setCell HBB.out _).drew, hC0, hC1⟩⟩
      case measure => simp [intOf]; omega
    · have hk2 := Lib.hid (show k = m by omega)
      have q0 := HX.out.2.2.1
      have q1 := HX.out.2.2.2
      have HDW : Hid (DevO wr W.heap.size (.agg #[.slice a1 n cap1, .slice (some ⟨g, 0, none⟩) 0 0]) (st ts xs [1] m) []) := Lib.hid ⟨_, _, rfl, by rw [HLEN.out m, ← hk2.out]; exact HX.out.1, ⟨_, 0, rfl, Nat.le_refl _, by unfold maxLen; omega, fun h => absurd h (by simp)⟩, apart_empty _ _ _⟩
      obtain ⟨F, eF, hd, R0, R1, hbF⟩ := put_dev HDW.out HLT.out g2 g3
      have HD2 := Lib.hid (hd.base HB.out.size)
      have HBF := Lib.hid (HB.out.trans ((HX.out.2.1.mono HB.out.size).trans (hbF w.heap.size (by omega))))
      clear hd hbF
      go_wp2_with fail
      refine bodyPost_ret (v := .agg #[.slice a1 n cap1, .slice (some ⟨g, 0, none⟩) 0 0]) (by simp [results, Try.results71, go_sem, R0, R1]) rfl ⟨_, rfl, by rw [EM.out]; exact HD2.out, HBF.out⟩
end Go.Proofs.Ytmgokpkogjdfhaa.Crash2
