/-
  What is proved: the program's keysFrom answers the numbers that are not below one, rising, in new memory; where the first number of a slice stands (contracts for the walks).
-/
import Derived.Test.YtealdpkgfmokpaaRows
import Derived.Test.YtealdpkgfmokpaaSortV
import Derived.Test.YtealdpkgfmokpaaMofP
namespace Go.Proofs.Ytealdpkgfmokpaa.KeysF
open Go.ChangeShapes Go.WideShapes Go.ChangeAt Go.RowKit
open Sl (Sl Off)
open OpenSl (nc)
open Dev MofP
set_option linter.unusedVariables false
attribute [local go_sem] Oper.semAt_some

theorem row_sl {w : World} {base n : Nat} {v : Value} {zs : List Int} (h : w.ownsRow base 3 1 v n (zs.map (Value.int .i64))) (hn : zs.length = n) : Sl.Own w base 1 v n (nc zs) := by
  subst hn
  exact own_of_row h _ (fun j hj => by
    unfold nc
    rw [List.getElem?_map, List.getD_eq_getElem?_getD, List.getElem?_eq_getElem (by omega)]
    rfl)

set_option maxRecDepth 100000 in
set_option maxHeartbeats 3200000 in
theorem keysFrom (w : World) (v : Value) (zs : List Int) (h : Sl w 1 v zs.length (nc zs)) (h0 : 0 < zs.length) (hl : zs.length ≤ 1000) (x : Int) :
    Calls Try.prog 101 #[v, .int .i64 x] w fun e w' => ∃ r, e = .returned r ∧ Sl.Own w' w.heap.size 1 r (sf zs x).length (nc (sf zs x)) ∧ Below w.heap.size w w' := by
  refine (callsIn_wide (n := 8)).1 ?_
  obtain ⟨a, cap, rfl, m1, m2, m3⟩ := h
  obtain ⟨b, o, rfl, hc⟩ := m3 h0
  have hb : b < w.heap.size := World.block_lt_of_cell? w _ (hc 0 (by omega))
  obtain ⟨U, eU, hbU, hsU, cU⟩ : ∃ U, w.alloc (.cells #[.slice (some ⟨b, o, none⟩) zs.length cap] 22) = U ∧ Below w.heap.size w U ∧ U.heap.size = w.heap.size + 1 ∧ U.cell? ⟨w.heap.size, 0, none⟩ = some (.slice (some ⟨b, o, none⟩) zs.length cap) := ⟨_, rfl, (Below.refl _ _).alloc (Nat.le_refl _) _, by simp, by go_simp⟩
  have cV := SortV.values_in 7 (some ⟨b, o, none⟩) zs.length cap w
  have cS := SortV.sorted_in 7 (by omega) w.heap.size b o cap zs h0 hl U cU (by omega) (fun j hj => by
    have := hc j (by omega)
    rw [hbU.cell (World.block_lt_of_cell? w _ this), this]
    rfl)
  have hSS := Lib.hid (fun (u : World) (base : Nat) (r : Value) (hr : u.ownsRow base 3 1 r zs.length ((so zs).map (Value.int .i64))) => ShelfK.search u base zs.length r (so zs) (by rw [so_len]; exact hr) (so_sorted zs) (by rw [so_len]; exact hl) x)
  have hfV : Fence.wide.fn 141 := trivial
  have hfS : Fence.wide.fn 140 := trivial
  have hfB : Fence.wide.fn 142 := trivial
  have h1 : 1 ≤ 8 := by omega
  have HBU := Lib.hid hbU
  have HSL := Lib.hid (so_len zs)
  have hkn : (so zs).countP (· < x) ≤ zs.length := by have := List.countP_le_length (p := (· < x)) (l := so zs); rw [so_len] at this; exact this
  have HSF := Lib.hid (show sf zs x = (so zs).drop ((so zs).countP (· < x)) from rfl)
  rw [eU] at cV
  clear hc m3 hbU hsU cU
  obtain ⟨S, eS⟩ : ∃ S, so zs = S := ⟨_, rfl⟩
  have eS2 : zs.mergeSort (fun x y => decide (x ≤ y)) = S := eS
  rw [eS2] at cS
  rw [eS] at hSS hkn HSL HSF
  clear eS eS2
  obtain ⟨q, hq⟩ : ∃ q, S.contains x = q := ⟨_, rfl⟩
  rw [hq] at hSS
  clear hq
  obtain ⟨k, hk⟩ : ∃ k, S.countP (· < x) = k := ⟨_, rfl⟩
  rw [hk] at hSS hkn HSF
  clear hk
  generalize zs.length = n at *
  generalize sf zs x = R at *
  have HSS := hSS
  refine callsIn_of_wp Try.func101 rfl trivial ?_ rfl
  simp only [Try.ntmps101, List.size_toArray, List.length_cons, List.length_nil, Nat.reduceAdd, Nat.reduceSub, Array.replicate_succ, Array.replicate_zero, List.push_toArray, List.append_toArray, List.nil_append, List.cons_append]
  gi_wp2_with (first
    | (gi_at_call 141; refine cV.mono ?_; rintro e w' ⟨rfl, rfl⟩)
    | (gi_at_call 140; refine cS.mono ?_; rintro e w2 ⟨r2, rfl, hrow, hbl⟩))
  have HROW := Lib.hid (row_sl hrow HSL.out)
  have HF2 := Lib.hid (HBU.out.trans (hbl.mono HBU.out.size))
  have HS2 := Lib.hid HBU.out.size
  have cB := (callsIn_wide (n := 7)).2 (HSS.out w2 _ r2 hrow)
  obtain ⟨a2, cap2, rfl, hn2, hm2⟩ := (row_sl hrow HSL.out).sl.form
  clear hrow hbl HSS hSS cV cS
  refine cB.mono ?_
  rintro e w3 ⟨rfl, m, rfl⟩
  clear cB
  have HLR := Lib.hid (show R.length = n - k by rw [HSF.out, List.length_drop, HSL.out])
  have HOWN := Lib.hid (show ∀ b' o', a2 = some ⟨b', o', none⟩ → k < n → ∀ c', n - k ≤ c' → c' ≤ maxLen → Sl.Own (w2.drewN m) w.heap.size 1 (.slice (some ⟨b', o' + k, none⟩) (n - k) c') R.length (nc R) from fun b' o' e hkn c' hc1 hc2 => by
    rw [HLR.out]
    refine ⟨_, c', rfl, hc1, hc2, fun hpos => ⟨b', o' + k, rfl, ?_, fun j hj => ?_⟩⟩
    · obtain ⟨b1, o1, e1, hb1, _⟩ := HROW.out.at (by omega)
      rw [e] at e1
      cases e1
      exact Nat.le_trans HS2.out hb1
    · obtain ⟨b1, o1, e1, hb1, hc⟩ := HROW.out.at (by omega)
      rw [e] at e1
      cases e1
      have := hc (k + j) (by omega)
      rw [← Nat.add_assoc] at this
      refine ⟨?_, this.2⟩
      show w2.cell? _ = _
      rw [this.1, HSF.out]
      unfold nc
      rw [List.getD_eq_getElem?_getD, List.getD_eq_getElem?_getD, List.getElem?_drop])
  have HNIL := Lib.hid (show k = n → ∀ a' c', c' ≤ maxLen → Sl.Own (w2.drewN m) w.heap.size 1 (.slice a' 0 c') R.length (nc R) from fun e a' c' hc' => by
    rw [HLR.out, e, Nat.sub_self]
    exact ⟨a', c', rfl, Nat.zero_le _, hc', fun h => absurd h (by omega)⟩)
  have HF3 := Lib.hid (below_drewN HF2.out m)
  obtain ⟨b9, o9, e9⟩ : ∃ b9 o9, a2 = some ⟨b9, o9, none⟩ := by
    obtain ⟨b1, o1, e1, _⟩ := HROW.out.at (by omega)
    exact ⟨b1, o1, e1⟩
  subst e9
  by_cases hk : k = n
  · subst hk
    have HN2 := Lib.hid (HNIL.out rfl)
    have HM2 := Lib.hid hm2
    clear HNIL HOWN
    by_cases hck : cap2 = k
    · subst hck
      gi_wp2
      go_ret
      exact ⟨_, rfl, HN2.out _ _ (by unfold maxLen; omega), HF3.out⟩
    · gi_wp2
      go_ret
      exact ⟨_, rfl, HN2.out _ _ (by have := HM2.out; omega), HF3.out⟩
  · have hkl : k < n := by omega
    have hck : ¬ cap2 = k := by omega
    have HO2 := Lib.hid (HOWN.out _ _ rfl hkl)
    have HM2 := Lib.hid (show n - k ≤ cap2 - k ∧ cap2 - k ≤ maxLen by omega)
    clear HNIL HOWN
    gi_wp2
    go_ret
    exact ⟨_, rfl, HO2.out _ HM2.out.1 HM2.out.2, HF3.out⟩

/-- Where a number first stands. -/
def At (zs : List Int) (z r : Int) : Prop := (r = -1 ∧ z ∉ zs) ∨ ∃ k : Nat, k < zs.length ∧ r = k ∧ zs.getD k 0 = z
set_option maxRecDepth 100000 in
set_option maxHeartbeats 800000 in
theorem index (w : World) (v : Value) (zs : List Int) (z : Int) (h : Sl w 1 v zs.length (nc zs)) :
    Calls Try.prog 102 #[v, .int .i64 z] w fun e w' => (∃ r : Int, e = .returned (.int .i64 r) ∧ At zs z r) ∧ w' = w := by
  obtain ⟨a, cap, rfl, h1, h2, h3⟩ := h
  have H3 := Lib.hid h3
  unfold maxLen at h2
  have HA1 := Lib.hid (show (∀ k, k < zs.length → zs.getD k 0 ≠ z) → At zs z (-1) from fun hn => .inl ⟨rfl, fun hm => by
    obtain ⟨k, hk, e⟩ := List.getElem_of_mem hm
    exact hn k hk (by rw [List.getD_eq_getElem?_getD, List.getElem?_eq_getElem hk]; exact e)⟩)
  have HA2 := Lib.hid (show ∀ k : Nat, k < zs.length → zs.getD k 0 = z → At zs z k from fun k hk e => .inr ⟨k, hk, rfl, e⟩)
  clear h3
  generalize At zs z = P at *
  generalize zs.length = n at *
  go_enter Try.func102, Try.ntmps102
  go_wp2
  go_loopw [8] (fun i wr => ∃ k : Nat, k ≤ n ∧ i = .int .i64 k ∧ w = wr ∧ Hid (∀ j, j < k → zs.getD j 0 ≠ z)) (fun i _ => n - (Go.RowKit.intOf i).toNat)
  case atStart => exact ⟨0, by omega, rfl, rfl, Lib.hid fun j hj => by omega⟩
  case round =>
    obtain ⟨k, hk, rfl, rfl, HJ⟩ := hrel
    by_cases hkn : k < n
    · obtain ⟨b', o, rfl, hc⟩ := H3.out (by omega)
      have c0 := hc k (by omega)
      unfold nc at c0
      have HAK := Lib.hid (HA2.out k hkn)
      have HJ2 := Lib.hid (show zs.getD k 0 ≠ z → ∀ j, j < k + 1 → zs.getD j 0 ≠ z from fun hn j hj => by
        by_cases ej : j = k
        · rw [ej]; exact hn
        · exact HJ.out j (by omega))
      clear hc
      generalize zs.getD k 0 = s at *
      by_cases hb : s = z
      · have HR := Lib.hid (HAK.out hb)
        subst hb
        go_wp2
        go_ret
        exact ⟨⟨_, rfl, HR.out⟩, rfl⟩
      · have d1 : ¬ z = s := fun e => hb e.symm
        have d2 : (z == s) = false := beq_eq_false_iff_ne.2 d1
        have d3 : decide (z = s) = false := decide_eq_false d1
        go_wp2
        go_roundw
        case rel => exact ⟨k + 1, by omega, by go_num, by trivial, Lib.hid (HJ2.out hb)⟩
        case measure => simp [Go.RowKit.intOf]; omega
    · have HR := Lib.hid (HA1.out fun j hj => HJ.out j (by omega))
      go_wp2
      go_ret
      exact ⟨⟨_, rfl, HR.out⟩, rfl⟩
end Go.Proofs.Ytealdpkgfmokpaa.KeysF
