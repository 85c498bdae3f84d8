/-
  What is proved: the program joins the leaves as they come: behind all sixteen it has the root, and the digests beside a leaf's way (contract for the walks), where the package's table holds its words.
-/
import Derived.Test.YtemlmffoehclhaaDoorRows
import Derived.Test.YtemlmffoehclhaaDoorTree4
namespace Go.Proofs.YtemlmffoehclhaaDoor.Tree5
open Go.ChangeShapes Go.WideShapes Go.ChangeAt Go.RowKit
open Sl (Sl Own Off)
open Arr (Row)
open MixBlock (Tab three_new)
open Tree1 (leafT joinT leafT_size joinT_size)
open Tree2 (lv lv_size tx sc)
open Tree4
set_option linter.unusedVariables false

/-- The three arrays of the call: the result, what waits, what stands beside. -/
def Three (w0 wr : World) (z : List Value) (W B : Nat → ByteArray) : Prop := Row wr w0.heap.size 66 z ∧ Row wr (w0.heap.size + 1) 66 (sc4 W) ∧ Row wr (w0.heap.size + 2) 66 (sc4 B) ∧ Below w0.heap.size w0 wr ∧ w0.heap.size + 3 ≤ wr.heap.size

theorem three_below {w0 w w' : World} {z : List Value} {W B : Nat → ByteArray} (h : Three w0 w z W B) (hb : Below w.heap.size w w') : Three w0 w' z W B :=
  ⟨h.1.below hb (by have := h.2.2.2.2; omega), h.2.1.below hb (by have := h.2.2.2.2; omega), h.2.2.1.below hb (by have := h.2.2.2.2; omega), h.2.2.2.1.trans (hb.mono (by have := h.2.2.2.2; omega)), Nat.le_trans h.2.2.2.2 hb.size⟩
theorem sc4_cells {w0 w : World} {z : List Value} {W B : Nat → ByteArray} {k : Nat} (hk : k < 4) (h : Three w0 w z W B) : (w.cell? ⟨w0.heap.size + 1 + 1, k, none⟩ = some (.string (B k)) ∧ w.frozen? ⟨w0.heap.size + 1 + 1, k, none⟩ = false) ∧ (w.cell? ⟨w0.heap.size + 1, k, none⟩ = some (.string (W k)) ∧ w.frozen? ⟨w0.heap.size + 1, k, none⟩ = false) ∧ True :=
  ⟨⟨(h.2.2.1.cell k).trans (sc4_get B k hk), h.2.2.1.frozen k⟩, ⟨(h.2.1.cell k).trans (sc4_get W k hk), h.2.1.frozen k⟩, trivial⟩
theorem three_beside {w0 w : World} {z : List Value} {W B : Nat → ByteArray} {k : Nat} (hk : k < 4) (x : ByteArray) (h : Three w0 w z W B) : Three w0 (w.setCell ⟨w0.heap.size + 1 + 1, k, none⟩ (.string x)) z W (upd B k x) :=
  ⟨h.1.set_far _ _ _ (by omega), h.2.1.set_far _ _ _ (by omega), by rw [← sc4_set B k hk x]; exact h.2.2.1.set k _, h.2.2.2.1.setCell (by show w0.heap.size ≤ w0.heap.size + 1 + 1; omega) _, by simpa [World.setCell] using h.2.2.2.2⟩
theorem three_waits {w0 w : World} {z : List Value} {W B : Nat → ByteArray} {k : Nat} (hk : k < 4) (x : ByteArray) (h : Three w0 w z W B) : Three w0 (w.setCell ⟨w0.heap.size + 1, k, none⟩ (.string x)) z (upd W k x) B :=
  ⟨h.1.set_far _ _ _ (by omega), by rw [← sc4_set W k hk x]; exact h.2.1.set k _, h.2.2.1.set_far _ _ _ (by omega), h.2.2.2.1.setCell (by show w0.heap.size ≤ w0.heap.size + 1; omega) _, by simpa [World.setCell] using h.2.2.2.2⟩

set_option maxRecDepth 100000 in
set_option maxHeartbeats 3200000 in
theorem grown (w : World) (v : Value) (f : Nat → ByteArray) (hf : ∀ j, (f j).size ≤ 700) (h : Sl w 1 v 16 (sc f)) (a : Nat) (ha : a < 16) (T : Tab w) :
    Calls Tryd.prog 51 #[v, .int .i64 a] w fun e w' => ∃ B : Nat → ByteArray, e = .returned (.tuple #[.string (lv f 4 0), .agg (sc4 B).toArray]) ∧ (∀ j, j < 4 → B j = lv f j ((a / 2 ^ j) ^^^ 1)) ∧ Below w.heap.size w w' := by
  have TT := Lib.hid T
  have HTL := Lib.hid T.lt
  clear T
  obtain ⟨ad, cap, rfl, h1, h2, h3⟩ := h
  have H3 := Lib.hid h3
  clear h3
  unfold maxLen at h2
  have HLF := Lib.hid (fun i hi u hu => Tree1.leafDigest i hi (f i) (by have := hf i; omega) u hu)
  have HL0 := Lib.hid (show ∀ j, lv f 0 j = leafT j (f j) from fun _ => rfl)
  have HLS := Lib.hid (show ∀ k j, lv f (k + 1) j = joinT (lv f k (2 * j)) (lv f k (2 * j + 1)) from fun _ _ => rfl)
  have HSZ := Lib.hid (lv_size f)
  generalize lv f = L at *
  clear hf
  go_enter Tryd.func51, Tryd.ntmps51
  go_wp2
  go_step3
  go_wp2
  go_step3
  go_wp2
  generalize hW : ((w.alloc _).alloc _).alloc _ = W0
  obtain ⟨z0, hz0, HR0⟩ : ∃ z0 : List Value, z0.length = 4 ∧ Three w W0 z0 e4 e4 := by
    rw [← hW]
    exact ⟨_, rfl, (three_new w _ _ _ _ _ _).1, (three_new w _ _ _ _ _ _).2.1, (three_new w _ _ _ _ _ _).2.2.1, (three_new w _ _ _ _ _ _).2.2.2.1, (three_new w _ _ _ _ _ _).2.2.2.2⟩
  clear hW
  have Z0 := Lib.hid hz0
  have HRR := Lib.hid HR0
  clear hz0 HR0
  go_loopg [8, 15] 16 (fun g s8 s15 wz => ∃ (n : Nat) (D : ByteArray) (Wt B : Nat → ByteArray) (wr : World), wr = wz ∧ n + g = 16 ∧ s15 = .int .i64 n ∧ s8 = .string D ∧ Hid (Outer L a n Wt B) ∧ Hid (n = 16 → D = L 4 0) ∧ Hid (Three w wr z0 Wt B))
  case atStart => exact ⟨0, _, e4, e4, _, rfl, by omega, rfl, rfl, Lib.hid outer0, Lib.hid (fun h => absurd h (by decide)), HRR⟩
  case round =>
    obtain ⟨n, D, Wt, B, wr, rfl, hng, rfl, rfl, HO, HD, HR⟩ := hrel
    cases gk with
    | zero =>
      have hnz : ¬ ((n : Int) < 16) := by omega
      have HN := Lib.hid (show n = 16 by omega)
      have HDD := Lib.hid (HD.out HN.out)
      have HBS := Lib.hid (outer_beside ha (show Outer L a 16 Wt B by have := HO.out; rw [HN.out] at this; exact this))
      obtain ⟨o0, o1, o2, o3, hz⟩ : ∃ o0 o1 o2 o3, z0 = [o0, o1, o2, o3] := by
        have := Z0.out
        match z0, this with
        | [o0, o1, o2, o3], _ => exact ⟨o0, o1, o2, o3, rfl⟩
      subst hz
      have r0 : wr.cell? ⟨w.heap.size + 1 + 1, 0, none⟩ = some (.string (B 0)) := HR.out.2.2.1.cell 0
      have r1 : wr.cell? ⟨w.heap.size + 1 + 1, 1, none⟩ = some (.string (B 1)) := HR.out.2.2.1.cell 1
      have r2 : wr.cell? ⟨w.heap.size + 1 + 1, 2, none⟩ = some (.string (B 2)) := HR.out.2.2.1.cell 2
      have r3 : wr.cell? ⟨w.heap.size + 1 + 1, 3, none⟩ = some (.string (B 3)) := HR.out.2.2.1.cell 3
      have k0 : wr.cell? ⟨w.heap.size, 0, none⟩ = some o0 := HR.out.1.cell 0
      have k1 : wr.cell? ⟨w.heap.size, 1, none⟩ = some o1 := HR.out.1.cell 1
      have k2 : wr.cell? ⟨w.heap.size, 2, none⟩ = some o2 := HR.out.1.cell 2
      have k3 : wr.cell? ⟨w.heap.size, 3, none⟩ = some o3 := HR.out.1.cell 3
      have f0 : wr.frozen? ⟨w.heap.size, 0, none⟩ = false := HR.out.1.frozen 0
      have f1 : wr.frozen? ⟨w.heap.size, 1, none⟩ = false := HR.out.1.frozen 1
      have f2 : wr.frozen? ⟨w.heap.size, 2, none⟩ = false := HR.out.1.frozen 2
      have f3 : wr.frozen? ⟨w.heap.size, 3, none⟩ = false := HR.out.1.frozen 3
      clear HO HD hng H3 HLF HL0 HLS HSZ
      go_wp2
      go_region
      have HRO := Lib.hid (show Row ((((wr.setCell ⟨w.heap.size, 0, none⟩ (.string (B 0))).setCell ⟨w.heap.size, 1, none⟩ (.string (B 1))).setCell ⟨w.heap.size, 2, none⟩ (.string (B 2))).setCell ⟨w.heap.size, 3, none⟩ (.string (B 3))).drew w.heap.size 66 (sc4 B) from
        ((((HR.out.1.set 0 _).set 1 _).set 2 _).set 3 _).drew)
      have HBE := Lib.hid (show Below w.heap.size w ((((wr.setCell ⟨w.heap.size, 0, none⟩ (.string (B 0))).setCell ⟨w.heap.size, 1, none⟩ (.string (B 1))).setCell ⟨w.heap.size, 2, none⟩ (.string (B 2))).setCell ⟨w.heap.size, 3, none⟩ (.string (B 3))).drew from
        ((((HR.out.2.2.2.1.setCell (Nat.le_refl _) _).setCell (Nat.le_refl _) _).setCell (Nat.le_refl _) _).setCell (Nat.le_refl _) _).drew)
      clear r0 r1 r2 r3 k0 k1 k2 k3 f0 f1 f2 f3 HR
      generalize World.drew _ = w9 at *
      go_wp2
      try rw [Exit.noGoto_ret]
      refine bodyPost_ret (v := .tuple #[.string D, .agg (sc4 B).toArray]) ?_ rfl ⟨B, by rw [HDD.out], HBS.out, HBE.out⟩
      exact results_tmp_cell_row rfl _ _ w.heap.size _ _ rfl (load4 HRO.out) rfl
    | succ g =>
      have hnz : (n : Int) < 16 := by omega
      have hn0 : (0 : Int) ≤ (n : Int) := by omega
      have hn16 : n < 16 := by omega
      obtain ⟨b, o, rfl, hc⟩ := H3.out (by omega)
      have c0 := hc n (by omega)
      rw [← HR.out.2.2.2.1.cell (World.block_lt_of_cell? w _ c0)] at c0
      unfold sc at c0
      clear hc
      have HF := Lib.hid (HLF.out n hn16 wr (TT.out.below HR.out.2.2.2.1 HTL.out))
      have HI := Lib.hid (inner0 HO.out)
      rw [← HL0.out n] at HF
      have HNG := Lib.hid hng
      clear hng HO HD
      generalize L 0 n = D0 at *
      generalize f n = s at *
      go_wp2_with fail
      refine HF.out.mono ?_
      rintro e w1 ⟨rfl, hb⟩
      have HR1 := Lib.hid (three_below HR.out hb)
      clear hb HR c0 HF
      go_wp2_with fail
      go_loopg [8, 23] 4 (fun g2 s8 s23 wz => ∃ (k : Nat) (D : ByteArray) (B : Nat → ByteArray) (wr : World), wr = wz ∧ k + g2 = 4 ∧ s23 = .int .i64 k ∧ s8 = .string D ∧ Hid (Inner L a n k Wt B D) ∧ Hid (Three w wr z0 Wt B))
      case atStart => exact ⟨0, D0, B, _, rfl, by omega, rfl, rfl, HI, HR1⟩
      case round =>
        clear HR1 HI
        obtain ⟨k, D, B, wr, rfl, hkg, rfl, rfl, HI, HR⟩ := hrel
        cases gk with
        | zero =>
          have hkz : ¬ ((k : Int) < 4) := by omega
          have HK := Lib.hid (show k = 4 by omega)
          have HE := Lib.hid (outer_end hn16 (show Inner L a n 4 Wt B D by have := HI.out; rw [HK.out] at this; exact this))
          clear HI hkg
          go_wp2
          go_roundg g
          case measure => omega
          case rel => exact ⟨n + 1, D, Wt, B, _, rfl, by have := HNG.out; omega, by go_num, rfl, Lib.hid HE.out.2.2, Lib.hid (fun _ => HE.out.2.1), HR⟩
        | succ g2 =>
          have hkz : (k : Int) < 4 := by omega
          have hk0 : (0 : Int) ≤ (k : Int) := by omega
          have hk4 : k < 4 := by omega
          have HKG := Lib.hid hkg
          have hq16 := num8 n hn16 k hk4
          have hp16 := num8 a ha k hk4
          have HMM := Lib.hid (fun h => mid_miss ha hn16 hk4 HI.out h)
          have HMH := Lib.hid (fun h => mid_hit ha hn16 hk4 HI.out h)
          have HOL := Lib.hid (fun B' (h : Mid L a n k Wt B' D) he => outer_left hn16 hk4 h he)
          have HIR := Lib.hid (fun B' (h : Mid L a n k Wt B' D) ho => inner_right HLS.out hn16 hk4 h ho)
          have HWT := Lib.hid (fun (ho : (n / 2 ^ k) % 2 = 1) => (by rw [HI.out.2.2.1 k hk4 ho]; exact HSZ.out _ _ : (Wt k).size = 32))
          have HDS := Lib.hid (show D.size = 32 by rw [HI.out.1]; exact HSZ.out _ _)
          have HN6 := Lib.hid (num6 n hn16 k hk4 HI.out.2.1)
          have s1 : (n : Int) / 2 ^ k = ((n / 2 ^ k : Nat) : Int) := by simp
          have s2 : (a : Int) / 2 ^ k = ((a / 2 ^ k : Nat) : Int) := by simp
          have HSC := Lib.hid (fun B' (u : World) (h : Three w u z0 Wt B') => sc4_cells hk4 h)
          have HSB := Lib.hid (fun (u : World) x (h : Three w u z0 Wt B) => three_beside hk4 x h)
          have HSW := Lib.hid (fun B' (u : World) x (h : Three w u z0 Wt B') => three_waits hk4 x h)
          clear HI hkg
          generalize n / 2 ^ k = q at *
          generalize a / 2 ^ k = p at *
          have hx : bits .xor .i64 (q : Int) 1 = ((q ^^^ 1 : Nat) : Int) := Word.i64_xor q 1 (by omega) (by omega)
          generalize q ^^^ 1 = y at *
          have HQ := Lib.hid (Tree1.isLeft q (by omega))
          obtain ⟨⟨cB, fB⟩, _, _⟩ := HSC.out B wr HR.out
          by_cases hit : y = p
          · have eh : ((y : Int) == (p : Int)) = true := by simp; omega
            have HM := Lib.hid (HMH.out hit)
            clear hit HMH HMM
            have HR2 := Lib.hid (HSB.out wr D HR.out)
            by_cases he : q % 2 = 0
            · rw [decide_eq_true he] at HQ
              have HOO := Lib.hid (HOL.out _ HM.out he)
              have H6 := Lib.hid (HN6.out he)
              clear he HOL HIR HN6 HWT
              go_wp2_with fail
              refine (HQ.out _).mono ?_
              rintro e w2 ⟨rfl, hw⟩
              have HR3 : Hid (Three w w2 z0 Wt (upd B k D)) := Lib.hid (by rw [hw]; exact HR2.out)
              clear hw HR2 HR cB fB
              obtain ⟨_, ⟨cW, fW⟩, _⟩ := HSC.out _ w2 HR3.out
              go_wp2
              go_roundg g
              case measure => omega
              case rel => exact ⟨n + 1, D, upd Wt k D, (upd B k D), _, rfl, by have := HNG.out; omega, by go_num, rfl, HOO, Lib.hid (fun h => by have := H6.out; omega), Lib.hid (HSW.out _ w2 D HR3.out)⟩
            · rw [decide_eq_false he] at HQ
              have HOO := Lib.hid (HIR.out _ HM.out (by omega))
              have HWS := Lib.hid (HWT.out (by omega))
              clear he HOL HIR HN6 HWT
              go_wp2_with fail
              refine (HQ.out _).mono ?_
              rintro e w2 ⟨rfl, hw⟩
              have HR3 : Hid (Three w w2 z0 Wt (upd B k D)) := Lib.hid (by rw [hw]; exact HR2.out)
              clear hw HR2 HR cB fB
              obtain ⟨_, ⟨cW, fW⟩, _⟩ := HSC.out _ w2 HR3.out
              have HJ := Lib.hid (Tree1.joined (Wt k) D HWS.out HDS.out w2 (TT.out.below HR3.out.2.2.2.1 HTL.out))
              generalize joinT (Wt k) D = D2 at *
              generalize Wt k = x at *
              go_wp2_with fail
              refine HJ.out.mono ?_
              rintro e w3 ⟨rfl, hb⟩
              have HR4 := Lib.hid (three_below HR3.out hb)
              clear hb cW fW HJ
              go_wp2
              go_roundg g2
              case measure => omega
              case rel => exact ⟨k + 1, D2, (upd B k D), _, rfl, by have := HKG.out; omega, by go_num, rfl, HOO, HR4⟩
          · have eh : ((y : Int) == (p : Int)) = false := by simp; omega
            have HM := Lib.hid (HMM.out hit)
            clear hit HMH HMM
            have HR2 := HR
            by_cases he : q % 2 = 0
            · rw [decide_eq_true he] at HQ
              have HOO := Lib.hid (HOL.out _ HM.out he)
              have H6 := Lib.hid (HN6.out he)
              clear he HOL HIR HN6 HWT
              go_wp2_with fail
              refine (HQ.out _).mono ?_
              rintro e w2 ⟨rfl, hw⟩
              have HR3 : Hid (Three w w2 z0 Wt B) := Lib.hid (by rw [hw]; exact HR2.out)
              clear hw HR2 HR cB fB
              obtain ⟨_, ⟨cW, fW⟩, _⟩ := HSC.out _ w2 HR3.out
              go_wp2
              go_roundg g
              case measure => omega
              case rel => exact ⟨n + 1, D, upd Wt k D, B, _, rfl, by have := HNG.out; omega, by go_num, rfl, HOO, Lib.hid (fun h => by have := H6.out; omega), Lib.hid (HSW.out _ w2 D HR3.out)⟩
            · rw [decide_eq_false he] at HQ
              have HOO := Lib.hid (HIR.out _ HM.out (by omega))
              have HWS := Lib.hid (HWT.out (by omega))
              clear he HOL HIR HN6 HWT
              go_wp2_with fail
              refine (HQ.out _).mono ?_
              rintro e w2 ⟨rfl, hw⟩
              have HR3 : Hid (Three w w2 z0 Wt B) := Lib.hid (by rw [hw]; exact HR2.out)
              clear hw HR2 HR cB fB
              obtain ⟨_, ⟨cW, fW⟩, _⟩ := HSC.out _ w2 HR3.out
              have HJ := Lib.hid (Tree1.joined (Wt k) D HWS.out HDS.out w2 (TT.out.below HR3.out.2.2.2.1 HTL.out))
              generalize joinT (Wt k) D = D2 at *
              generalize Wt k = x at *
              go_wp2_with fail
              refine HJ.out.mono ?_
              rintro e w3 ⟨rfl, hb⟩
              have HR4 := Lib.hid (three_below HR3.out hb)
              clear hb cW fW HJ
              go_wp2
              go_roundg g2
              case measure => omega
              case rel => exact ⟨k + 1, D2, B, _, rfl, by have := HKG.out; omega, by go_num, rfl, HOO, HR4⟩
end Go.Proofs.YtemlmffoehclhaaDoor.Tree5
