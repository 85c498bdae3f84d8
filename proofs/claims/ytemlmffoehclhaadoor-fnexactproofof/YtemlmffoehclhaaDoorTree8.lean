/-
  What is proved: the model's proof of a leaf, with its codes, in new memory (contract for the walks).
-/
import Derived.Test.YtemlmffoehclhaaDoorRows
import Derived.Test.YtemlmffoehclhaaDoorTree7
namespace Go.Proofs.YtemlmffoehclhaaDoor.Tree8
open Go.ChangeShapes Go.WideShapes Go.ChangeAt Go.RowKit
open Sl (Sl Own Off)
open OpenSl (tc nc pc)
open Dev
open Tree1 (joinT)
open Tree2 (lv lv_size tx sc tc_sc ask_zero cl_succ)
open Tree4 Tree6 Tree7
set_option linter.unusedVariables false

theorem beside_lt (a : Nat) (ha : a < 16) (k n : Nat) (hk : k < 4) (h : n * 2 ^ k = 16) : (a / 2 ^ k) ^^^ 1 < n := by
  have := num9 a ha k hk
  obtain rfl | rfl | rfl | rfl : k = 0 ∨ k = 1 ∨ k = 2 ∨ k = 3 := by omega
  all_goals (simp at h this ⊢; omega)
theorem half_at (a k p : Nat) (h : p = a / 2 ^ k) : p / 2 = a / 2 ^ (k + 1) := by
  rw [h, Nat.div_div_eq_div_mul, Nat.pow_succ]

set_option maxRecDepth 100000 in
set_option maxHeartbeats 1600000 in
theorem proofSpec (w : World) (v : Value) (ts : List ByteArray) (z : Int) (h : Sl w 1 v ts.length (tc ts)) (hs : ∀ s ∈ ts, s.size ≤ maxLen) :
    Calls Tryd.prog 38 #[v, .int .i64 z] w fun e w' => ∃ r, e = .returned (.tuple #[r, .int .i64 (proofC ts z)]) ∧ Own w' w.heap.size 1 r (proofT ts z).length (tc (proofT ts z)) ∧ Below w.heap.size w w' := by
  have HA := Lib.hid (Tree2.l07Ask w v ts h hs)
  unfold proofT
  by_cases h0 : Tree2.ask ts = 0
  · have HI := Lib.hid (Tree1.l01In16 z)
    by_cases h1 : 0 ≤ z ∧ z < 16
    · have hc : proofC ts z = 0 := by unfold proofC; rw [if_pos h0, if_pos h1]
      rw [if_pos hc, hc]
      rw [h0] at HA
      rw [decide_eq_true h1] at HI
      obtain ⟨hn, hf⟩ := ask_zero ts h0
      rw [hn, tc_sc] at h
      obtain ⟨a, rfl⟩ : ∃ a : Nat, z = a := ⟨z.toNat, by omega⟩
      rw [Int.toNat_natCast]
      obtain ⟨i0, hi0, hz0, hz1, hz2⟩ := info_parts LawS.info9
      have HL := Lib.hid (fun u (hb : Below w.heap.size w u) => Tree2.l07Leaves u v 16 (by omega) (tx ts) hf (h.below hb))
      have HP := Lib.hid (prfL_tc (tx ts) a)
      have HPB := Lib.hid (show ∀ j, bes (tx ts) a j = lv (tx ts) j ((a / 2 ^ j) ^^^ 1) from fun _ => rfl)
      have HLS := Lib.hid (show ∀ k j, lv (tx ts) (k + 1) j = joinT (lv (tx ts) k (2 * j)) (lv (tx ts) k (2 * j + 1)) from fun _ _ => rfl)
      have HSZ := Lib.hid (lv_size (tx ts))
      rw [show (prfL (tx ts) a).length = 4 from rfl]
      generalize tc (prfL (tx ts) a) = P at *
      generalize bes (tx ts) a = Q at *
      generalize lv (tx ts) = L at *
      obtain ⟨ad, cap, rfl, g1, g2⟩ := h.form
      have HC := Lib.hid (show ∀ k, sc Q k = .string (Q k) from fun _ => rfl)
      have HSN := Lib.hid (cl_succ (sc Q))
      have HZ := Lib.hid (show Cop.cl (sc Q) 0 = [] from rfl)
      have HOWN := Lib.hid (fun (u : World) (v : Value) (k : Nat) (h : u.ownsRow w.heap.size 9 1 v k (Cop.cl (sc Q) k)) => (Cop.row_own (c := sc Q) (by rw [Nat.mul_one]; exact h) : Own u w.heap.size 1 v k (sc Q)))
      generalize Cop.cl (sc Q) = CL at *
      have ha : a < 16 := by omega
      have HAA := Lib.hid ha
      clear h hs h0 hn hf hc g1 g2
      go_enter Tryd.func38, Tryd.ntmps38
      go_wp2_with fail
      refine HA.out.mono ?_
      rintro e w1 ⟨rfl, rfl⟩
      go_wp2_with fail
      refine (HI.out _).mono ?_
      rintro e w1 ⟨rfl, rfl⟩
      go_wp2_with fail
      refine (HL.out _ ((Below.refl _ _).alloc (Nat.le_refl _) _)).mono ?_
      rintro e w2 ⟨r2, rfl, ho, hb⟩
      have hsz : (w1.alloc (.cells #[] 9)).heap.size = w1.heap.size + 1 := by simp
      have HO2 := Lib.hid (ho.base (base' := w1.heap.size) (by rw [hsz]; omega))
      have HOF := Lib.hid (show ∀ g, (Value.slice (some ⟨w1.heap.size, 0, none⟩) 0 0).ownBlock = some g → Off r2 g from by
        intro g hg
        refine own_low ho g ?_
        have : w1.heap.size = g := by simpa [Value.ownBlock] using hg
        rw [hsz]
        omega)
      have HR2 := Lib.hid (show w2.ownsRow w1.heap.size 9 1 (.slice (some ⟨w1.heap.size, 0, none⟩) 0 0) 0 (CL 0) by
        rw [HZ.out]
        exact Cop.row_below (World.ownsRow_made w1 #[] 0 (Nat.le_refl _) (by unfold maxLen; omega) rfl) hb)
      have HB2 := Lib.hid (((Below.refl w1.heap.size w1).alloc (Nat.le_refl _) (.cells #[] 9)).trans (hb.mono (by rw [hsz]; omega)))
      clear ho hb hsz HL HA HI
      go_wp2_with fail
      go_loopg [1, 7, 8] 4 (fun g s1 s7 s8 wz => ∃ (k n p : Nat) (wr : World), wr = wz ∧ k + g = 4 ∧ s1 = .int .i64 p ∧ Hid (p = a / 2 ^ k) ∧ Hid (n * 2 ^ k = 16) ∧ Hid (wr.ownsRow w1.heap.size 9 1 s7 k (CL k)) ∧ Hid (Own wr w1.heap.size 1 s8 n (sc (L k))) ∧ Hid (∀ g, s7.ownBlock = some g → Off s8 g) ∧ Hid (Below w1.heap.size w1 wr))
      case atStart => exact ⟨0, 16, a, _, rfl, by omega, rfl, Lib.hid (by simp), Lib.hid rfl, HR2, HO2, HOF, HB2⟩
      case round =>
        clear HR2 HO2 HOF HB2
        obtain ⟨k, n, p, wr, rfl, hkg, rfl, HPP, HN, R, HO, HOF, HB⟩ := hrel
        obtain ⟨ad2, cap2, rfl, f1, f2⟩ := HO.out.sl.form
        unfold maxLen at f2
        cases gk with
        | zero =>
          have HK := Lib.hid (show k = 4 by omega)
          have HN1 := Lib.hid (last n (by have := HN.out; rw [HK.out] at this; exact this))
          have hn1 : ¬ (1 : Int) < (n : Int) := by have := HN1.out; omega
          have HO4 := Lib.hid (HOWN.out _ _ _ (show wr.ownsRow w1.heap.size 9 1 _ 4 (CL 4) by have := R.out; rw [HK.out] at this; exact this))
          clear hkg HOF R HO
          go_wp2
          go_ret2
          exact ⟨_, rfl, HO4.out.congr (fun j hj => by rw [HP.out j (by omega)]; rfl), HB.out⟩
        | succ g =>
          obtain ⟨m, e1, e2, e3, e4⟩ := half k n (by omega) HN.out
          have hn1 : (1 : Int) < (n : Int) := by omega
          have HM := Lib.hid e4
          have HKG := Lib.hid hkg
          have hy := beside_lt a HAA.out k n (by omega) HN.out
          rw [← HPP.out] at hy
          have hp16 : p ≤ 16 := by rw [HPP.out]; exact Nat.le_trans (Nat.div_le_self _ _) (by have := HAA.out; omega)
          have hx : bits .xor .i64 (p : Int) 1 = ((p ^^^ 1 : Nat) : Int) := Word.i64_xor p 1 (by omega) (by omega)
          have HCK := Lib.hid (show CL (k + 1) = CL k ++ [.string (L k (p ^^^ 1))] by rw [HSN.out k, HC.out k, HPB.out k, ← HPP.out])
          have HP2 := Lib.hid (half_at a k p HPP.out)
          obtain ⟨b, o, rfl, hc⟩ := HO.out.sl.at (by omega)
          have c0 := hc (p ^^^ 1) (by omega)
          unfold sc at c0
          have HV := Lib.hid (fun (u : World) (s : Value) (h : Sl u 1 s n (sc (L k))) => Tree2.l07Level u s m n e1 e2 (L k) (HSZ.out k) h)
          rw [sc_next L HLS.out k] at HV
          generalize L k (p ^^^ 1) = x at *
          generalize p ^^^ 1 = y at *
          generalize CL k = cs at *
          have hy0 : (0 : Int) ≤ (y : Int) := by omega
          have hyn : (y : Int) < (n : Int) := by omega
          have hz1' := Lib.hid HB.out.size
          have hk4 : k < 4 := by omega
          clear e1 e4 hkg hc
          go_wp2_with (at_builtin; refine wpList_append_lies _ rfl _ _ _ rfl w1.heap.size 9 i0 _ 1 16 Tryd.underlying36 hi0 hz0 hz1 hz2 rfl (by omega) _ k cs (by rfl) (World.ownsRow.alloc R.out _) ⟨wr.heap.size, 0, none⟩ 1 1 [.string x] (by rfl) (by rfl) (World.news_of_block (cs := #[.string x]) (t := 9) (fr := (0, 0)) (heap_alloc_new wr _)) (by simp [Value.oneCell']) (by omega) (by unfold maxLen; omega) (by omega) (by have := hz1'.out; simp; omega) (wr.heap.size + 1) (by simp) ?_; intro gg cap w2 hown1 hgrow hat hlt1; have HO1 := Lib.hid hown1; have HG := Lib.hid hgrow; have HLT := Lib.hid hlt1; clear hown1 hgrow hat hlt1)
          have HOL := Lib.hid (Cop.own_grown (HO.out.below ((Below.refl wr.heap.size wr).alloc (Nat.le_refl _) (.cells #[.string x] 9))) HG.out HOF.out)
          have HBW := Lib.hid ((HB.out.trans ((Below.refl _ _).alloc HB.out.size _)).grown HG.out (by have := hz1'.out; simp; omega) (fun k hk => (World.ownsRow.lt R.out k hk).1))
          clear HO HOF R c0 HG HB
          go_wp2_with fail
          refine (HV.out _ _ HOL.out.sl).mono ?_
          rintro e w3 ⟨r3, rfl, ho, hb⟩
          have HO3 := Lib.hid (ho.base (base' := w1.heap.size) HBW.out.size)
          have HOF3 := Lib.hid (show ∀ g, (Value.slice (some ⟨gg, 0, none⟩) (k + 1) cap).ownBlock = some g → Off r3 g from by
            intro g hg
            refine own_low ho g ?_
            have : gg = g := by simpa [Value.ownBlock] using hg
            have := HLT.out
            omega)
          have HR3 := Lib.hid (Cop.row_below HO1.out hb)
          have HB3 := Lib.hid (HBW.out.trans (hb.mono HBW.out.size))
          clear ho hb HOL HBW HV HO1
          go_wp2
          go_roundg g
          case measure => omega
          case rel => exact ⟨k + 1, m, p / 2, _, rfl, by have := HKG.out; omega, by go_num, HP2, HM, Lib.hid (by rw [HCK.out]; exact HR3.out), HO3, HOF3, HB3⟩
    · have hc : proofC ts z = 4 := by unfold proofC; rw [if_pos h0, if_neg h1]
      rw [if_neg (by rw [hc]; decide), hc]
      rw [h0] at HA
      rw [decide_eq_false h1] at HI
      obtain ⟨hn, hf⟩ := ask_zero ts h0
      obtain ⟨ad, cap, rfl, g1, g2⟩ := h.form
      rw [hn] at *
      clear h hs h0 h1 hc hf hn
      go_enter Tryd.func38, Tryd.ntmps38
      go_wp2_with fail
      refine HA.out.mono ?_
      rintro e w1 ⟨rfl, rfl⟩
      go_wp2_with fail
      refine (HI.out _).mono ?_
      rintro e w1 ⟨rfl, rfl⟩
      go_wp2
      go_ret2
      exact ⟨_, rfl, own_nil _ _ _, (Below.refl _ _).alloc (Nat.le_refl _) _⟩
  · have hc : proofC ts z = Tree2.ask ts := by unfold proofC; rw [if_neg h0]
    rw [if_neg (by rw [hc]; exact h0), hc]
    obtain ⟨ad, cap, rfl, g1, g2⟩ := h.form
    unfold maxLen at g2
    by_cases hl : 4096 < ts.length
    · rw [Tree2.ask_long ts hl]
      clear h hs h0 HA hc
      generalize ts.length = n at *
      go_enter Tryd.func38, Tryd.ntmps38
      go_wp2
      go_ret2
      exact ⟨_, rfl, own_nil _ _ _, (Below.refl _ _).alloc (Nat.le_refl _) _⟩
    · clear hc
      generalize Tree2.ask ts = c at *
      have b0 : (c != 0) = true := by simp; exact h0
      clear h hs h0
      generalize ts.length = n at *
      go_enter Tryd.func38, Tryd.ntmps38
      go_wp2_with fail
      refine HA.out.mono ?_
      rintro e w1 ⟨rfl, rfl⟩
      go_wp2
      go_ret2
      exact ⟨_, rfl, own_nil _ _ _, (Below.refl _ _).alloc (Nat.le_refl _) _⟩
end Go.Proofs.YtemlmffoehclhaaDoor.Tree8
