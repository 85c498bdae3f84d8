/-
  What is proved: both MapGet answer the plain value and code (contracts for the walks); the model's search of a key.
-/
import Derived.Test.YtifkihjjkomfiaaRows
import Derived.Test.YtifkihjjkomfiaaMapW
import Derived.Test.YtifkihjjkomfiaaMapOkS
namespace Go.Proofs.Ytifkihjjkomfiaa.MapGet
open Go.ChangeShapes Go.WideShapes Go.ChangeAt Go.RowKit Go.Maps
open Sl (Sl Own Off)
open Dev Orm LawE MapP MapOk MapOkS MapW
set_option linter.unusedVariables false

/-- The code of a map, and of what is to be done with it. -/
def mf (xs : List En) (r q : Bool) : Int := if 4096 < xs.length then 2 else if r = true ∧ q = true then 0 else 1
set_option maxRecDepth 100000 in
theorem mapFault (w : World) (v : Value) (xs : List En) (h : Sl w 2 v xs.length (ec xs)) (r q : Bool) (hq : decide (MOk xs) = q) :
    Calls Try.prog 57 #[v, .bool r] w fun e w' => e = .returned (.int .i64 (mf xs r q)) ∧ Below w.heap.size w w' := by
  have HI := Lib.hid (implOk w v xs h q hq)
  have HM := Lib.hid (show mf xs r q = if 4096 < xs.length then 2 else if r = true ∧ q = true then 0 else 1 from rfl)
  obtain ⟨a, cap, rfl, _, _⟩ := h.form
  clear h hq
  generalize mf xs r q = m at *
  generalize xs.length = n at *
  by_cases hl : 4096 < n
  · obtain rfl : m = 2 := by rw [HM.out, if_pos hl]
    go_enter Try.func57, Try.ntmps57
    go_wp2_with fail
    go_ret
    exact ⟨rfl, Below.refl _ _⟩
  cases r with
  | false =>
    obtain rfl : m = 1 := by rw [HM.out, if_neg hl]; simp
    go_enter Try.func57, Try.ntmps57
    go_wp2_with fail
    go_ret
    exact ⟨rfl, Below.refl _ _⟩
  | true =>
    cases q with
    | false =>
      obtain rfl : m = 1 := by rw [HM.out, if_neg hl]; simp
      go_enter Try.func57, Try.ntmps57
      go_wp2_with fail
      refine HI.out.mono ?_
      rintro e w1 ⟨rfl, hb⟩
      have HB := Lib.hid hb
      clear hb
      go_wp2_with fail
      go_ret
      exact ⟨rfl, HB.out⟩
    | true =>
      obtain rfl : m = 0 := by rw [HM.out, if_neg hl]; simp
      go_enter Try.func57, Try.ntmps57
      go_wp2_with fail
      refine HI.out.mono ?_
      rintro e w1 ⟨rfl, hb⟩
      have HB := Lib.hid hb
      clear hb
      go_wp2_with fail
      go_ret
      exact ⟨rfl, HB.out⟩

/-- What MapGet answers. -/
def gv (xs : List En) (q : Bool) (z : Int) : Int := if q = true then vl xs z else 0
def gc (xs : List En) (q : Bool) (z : Int) : Int := if 4096 < xs.length then 2 else if q = true then (if z ∈ ks xs then 0 else 5) else 1

set_option maxRecDepth 100000 in
set_option maxHeartbeats 1600000 in
theorem implGet (w : World) (v : Value) (xs : List En) (h : Sl w 2 v xs.length (ec xs)) (q : Bool) (hq : decide (MOk xs) = q) (z : Int) (hz : (Lit.int .i64 z).wf = true) :
    Calls Try.prog 15 #[v, .int .i64 z] w fun e w' => e = .returned (.tuple #[.int .i64 (gv xs q z), .int .i64 (gc xs q z)]) ∧ Below w.heap.size w w' := by
  have HF := Lib.hid (mapFault w v xs h true q hq)
  have HV := Lib.hid h
  obtain ⟨a, cap, rfl, _, _⟩ := h.form
  clear h
  by_cases hl : 4096 < xs.length
  · have e0 : q = false := by rw [← hq]; exact decide_eq_false (fun h => by have := h.1; omega)
    have e1 : mf xs true q = 2 := by unfold mf; rw [if_pos hl]
    have e2 : gv xs q z = 0 := by unfold gv; rw [e0]; simp
    have e3 : gc xs q z = 2 := by unfold gc; rw [if_pos hl]
    rw [e1] at HF
    rw [e2, e3]
    clear e0 e1 e2 e3 hl hq
    generalize xs.length = n at *
    go_enter Try.func15, Try.ntmps15
    go_wp2_with fail
    refine HF.out.mono ?_
    rintro e w1 ⟨rfl, hb⟩
    have HB := Lib.hid hb
    clear hb
    go_wp2_with fail
    go_ret2
    exact ⟨rfl, HB.out⟩
  cases q with
  | false =>
    have e1 : mf xs true false = 1 := by unfold mf; rw [if_neg hl]; simp
    have e2 : gv xs false z = 0 := by unfold gv; simp
    have e3 : gc xs false z = 1 := by unfold gc; rw [if_neg hl]; simp
    rw [e1] at HF
    rw [e2, e3]
    clear e1 e2 e3 hl hq
    generalize xs.length = n at *
    go_enter Try.func15, Try.ntmps15
    go_wp2_with fail
    refine HF.out.mono ?_
    rintro e w1 ⟨rfl, hb⟩
    have HB := Lib.hid hb
    clear hb
    go_wp2_with fail
    go_ret2
    exact ⟨rfl, HB.out⟩
  | true =>
    have hok : MOk xs := of_decide_eq_true hq
    have e1 : mf xs true true = 0 := by unfold mf; rw [if_neg hl]; simp
    have e2 : gv xs true z = vl xs z := by unfold gv; simp
    have e3 : gc xs true z = if z ∈ ks xs then 0 else 5 := by unfold gc; rw [if_neg hl]; simp
    rw [e1] at HF
    rw [e2, e3]
    have HW := Lib.hid (fun u x (hx : Sl u 2 x xs.length (ec xs)) => workOn u x xs hx hok)
    have HKEY := Lib.hid (keyOf_int_mk Try.underlying3 hz)
    have HAT := Lib.hid (dm_at xs z)
    have HHAS := Lib.hid (dm_has xs z)
    have HVN := Lib.hid (vl_not (xs := xs) (k := z))
    clear e1 e2 e3 hl hq hok
    obtain ⟨C, eC⟩ : ∃ C : Int, (if z ∈ ks xs then (0 : Int) else 5) = C := ⟨_, rfl⟩
    have HC := Lib.hid eC
    rw [eC]
    clear eC
    obtain ⟨VV, eV⟩ : ∃ VV, vl xs z = VV := ⟨_, rfl⟩
    rw [eV] at HAT HVN ⊢
    clear eV
    go_enter Try.func15, Try.ntmps15
    go_wp2_with fail
    refine HF.out.mono ?_
    rintro e w1 ⟨rfl, hb⟩
    have HB := Lib.hid hb
    have HV1 := Lib.hid (HV.out.below hb)
    clear hb
    go_wp2_with fail
    refine (HW.out _ _ HV1.out).mono ?_
    rintro e w2 ⟨g, B, rfl, hk, hb⟩
    have HB2 := Lib.hid (HB.out.trans (hb.mono HB.out.size))
    have c0 := hk.c0
    have HO := Lib.hid hk.own
    clear hb hk
    generalize dm xs = D at HO HAT HHAS
    by_cases hz : z ∈ ks xs
    · rw [decide_eq_true hz] at HHAS
      have e0 := HC.out
      rw [if_pos hz] at e0
      subst e0
      clear hz
      go_wp2_with (at_lookup; refine wpList_lookup_own_ok_int _ rfl _ _ 103 rfl 3 3 .i64 law3 Try.underlying103 Try.underlying3 (zero3 _) B xs.length D rfl HO.out _ _ rfl HKEY.out ?_; intro c hat hwc; rw [HHAS.out])
      have hc : c = VV := by
        have := hat.symm.trans HAT.out
        injection this with h1
        injection h1
      clear hat hwc
      subst hc
      go_ret2
      exact ⟨rfl, HB2.out⟩
    · rw [decide_eq_false hz] at HHAS
      have e0 := HC.out
      rw [if_neg hz] at e0
      subst e0
      have e0 := HVN.out hz
      subst e0
      clear hz
      go_wp2_with (at_lookup; refine wpList_lookup_own_ok_int _ rfl _ _ 103 rfl 3 3 .i64 law3 Try.underlying103 Try.underlying3 (zero3 _) B xs.length D rfl HO.out _ _ rfl HKEY.out ?_; intro c hat hwc; rw [HHAS.out])
      go_ret2
      exact ⟨rfl, HB2.out⟩

/-- The place of the first entry that has the key. -/
def FPost (xs : List En) (z : Int) (e : Ending) : Prop := ∃ r : Int, e = .returned (.int .i64 r) ∧ Hid (r = -1 ∧ ¬ z ∈ ks xs ∨ ∃ j : Nat, r = j ∧ j < xs.length ∧ (xs.getD j (0, 0)).1 = z ∧ ∀ i, i < j → (xs.getD i (0, 0)).1 ≠ z)
set_option maxRecDepth 100000 in
set_option maxHeartbeats 1600000 in
theorem l10Find (w : World) (v : Value) (xs : List En) (h : Sl w 2 v xs.length (ec xs)) (z : Int) :
    Calls Try.prog 89 #[v, .int .i64 z] w fun e w' => FPost xs z e ∧ w' = w := by
  have HNK := Lib.hid (show (∀ i, i < xs.length → (xs.getD i (0, 0)).1 ≠ z) → FPost xs z (.returned (.int .i64 (-1))) from fun hh => ⟨_, rfl, Lib.hid (.inl ⟨rfl, no_key hh⟩)⟩)
  have HYK := Lib.hid (show ∀ j : Nat, j < xs.length → (xs.getD j (0, 0)).1 = z → (∀ i, i < j → (xs.getD i (0, 0)).1 ≠ z) → FPost xs z (.returned (.int .i64 (j : Int))) from fun j h1 h2 h3 => ⟨_, rfl, Lib.hid (.inr ⟨j, rfl, h1, h2, h3⟩)⟩)
  obtain ⟨a, cap, rfl, h1, h2, h3⟩ := h
  have H3 := Lib.hid h3
  unfold maxLen at h2
  clear h3
  generalize FPost xs z = FP at *
  generalize xs.length = n at *
  go_enter Try.func89, Try.ntmps89
  go_wp2
  go_loopw [5] (fun i wz => ∃ (k : Nat), w = wz ∧ k ≤ n ∧ i = .int .i64 k ∧ Hid (∀ i, i < k → (xs.getD i (0, 0)).1 ≠ z)) (fun i _ => n - (Go.RowKit.intOf i).toNat)
  case atStart => exact ⟨0, rfl, by omega, rfl, Lib.hid (fun i hi => by omega)⟩
  case round =>
    obtain ⟨k, rfl, hk, rfl, HJ⟩ := hrel
    by_cases hlt : k < n
    · obtain ⟨b, o, rfl, hc⟩ := H3.out (by omega)
      have c0 := hc (k * 2) (by omega)
      rw [ec0] at c0
      have HY := Lib.hid (HYK.out k hlt)
      have HN := Lib.hid (show (xs.getD k (0, 0)).1 ≠ z → ∀ i, i < k + 1 → (xs.getD i (0, 0)).1 ≠ z from fun hne i hi => by
        by_cases e : i = k
        · rw [e]; exact hne
        · exact HJ.out i (by omega))
      clear hc
      generalize (xs.getD k (0, 0)).1 = y at *
      by_cases hy : y = z
      · have HE := Lib.hid (HY.out hy HJ.out)
        have b1 : (y == z) = true := by simp [hy]
        have b2 : decide (y = z) = true := decide_eq_true hy
        clear hy
        go_wp2
        go_ret
        exact ⟨HE.out, rfl⟩
      · have HE := Lib.hid (HN.out hy)
        have b1 : (y == z) = false := beq_eq_false_iff_ne.2 hy
        have b2 : decide (y = z) = false := decide_eq_false hy
        clear hy
        go_wp2
        go_roundw
        case rel => exact ⟨k + 1, by first | rfl | trivial, by omega, by go_num, HE⟩
        case measure => simp [Go.RowKit.intOf]; omega
    · have hk2 := Lib.hid (show k = n by omega)
      have HE := Lib.hid (HNK.out (fun i hi => HJ.out i (by have := hk2.out; omega)))
      go_wp2
      go_ret
      exact ⟨HE.out, rfl⟩

set_option maxRecDepth 100000 in
set_option maxHeartbeats 1600000 in
theorem specGet (w : World) (v : Value) (xs : List En) (h : Sl w 2 v xs.length (ec xs)) (q : Bool) (hq : decide (MOk xs) = q) (z : Int) :
    Calls Try.prog 29 #[v, .int .i64 z] w fun e w' => e = .returned (.tuple #[.int .i64 (gv xs q z), .int .i64 (gc xs q z)]) ∧ Below w.heap.size w w' := by
  have HS := Lib.hid (fun u x (hx : Sl u 2 x xs.length (ec xs)) => specOk u x xs hx q hq)
  have HF := Lib.hid (fun u x (hx : Sl u 2 x xs.length (ec xs)) => l10Find u x xs hx z)
  have HV := Lib.hid h
  obtain ⟨a, cap, rfl, _, hm, _⟩ := h
  unfold maxLen at hm
  by_cases hl : 4096 < xs.length
  · have e0 : q = false := by rw [← hq]; exact decide_eq_false (fun h => by have := h.1; omega)
    have e2 : gv xs q z = 0 := by unfold gv; rw [e0]; simp
    have e3 : gc xs q z = 2 := by unfold gc; rw [if_pos hl]
    rw [e2, e3]
    clear e0 e2 e3 hq
    generalize xs.length = n at *
    go_enter Try.func29, Try.ntmps29
    go_wp2_with fail
    go_ret2
    exact ⟨rfl, Below.refl _ _⟩
  cases q with
  | false =>
    have e2 : gv xs false z = 0 := by unfold gv; simp
    have e3 : gc xs false z = 1 := by unfold gc; rw [if_neg hl]; simp
    rw [e2, e3]
    clear e2 e3 hq
    generalize xs.length = n at *
    go_enter Try.func29, Try.ntmps29
    go_wp2_with fail
    refine (HS.out _ _ HV.out).mono ?_
    rintro e w1 ⟨rfl, hb⟩
    have HB := Lib.hid hb
    clear hb
    go_wp2_with fail
    go_ret2
    exact ⟨rfl, HB.out⟩
  | true =>
    have e2 : gv xs true z = vl xs z := by unfold gv; simp
    have e3 : gc xs true z = if z ∈ ks xs then 0 else 5 := by unfold gc; rw [if_neg hl]; simp
    rw [e2, e3]
    have HVN := Lib.hid (vl_not (xs := xs) (k := z))
    have HVA := Lib.hid (fun (j : Nat) (h1 : j < xs.length) (h2 : (xs.getD j (0, 0)).1 = z) (h3 : ∀ i, i < j → (xs.getD i (0, 0)).1 ≠ z) => show vl xs z = (xs.getD j (0, 0)).2 ∧ z ∈ ks xs by
      have := vl_at h1 (by rw [h2]; exact h3)
      rw [h2] at this
      exact this)
    have HEC := Lib.hid (ec1 xs)
    clear e2 e3 hq
    obtain ⟨C, eC⟩ : ∃ C : Int, (if z ∈ ks xs then (0 : Int) else 5) = C := ⟨_, rfl⟩
    have HC := Lib.hid eC
    rw [eC]
    clear eC
    generalize vl xs z = VV at *
    obtain ⟨n, en⟩ : ∃ n, xs.length = n := ⟨_, rfl⟩
    have HEN := Lib.hid en
    rw [en] at HV HVA HS HF hl ⊢
    clear en
    go_enter Try.func29, Try.ntmps29
    go_wp2_with fail
    refine (HS.out _ _ HV.out).mono ?_
    rintro e w1 ⟨rfl, hb⟩
    have HB := Lib.hid hb
    have HV1 := Lib.hid (HV.out.below hb)
    clear hb
    go_wp2_with fail
    refine (HF.out _ _ HV1.out).mono ?_
    rintro e w2 ⟨⟨r, rfl, HR⟩, rfl⟩
    rcases HR.out with ⟨rfl, hn⟩ | ⟨j, rfl, hj, hy, hf⟩
    · have e0 := HC.out
      rw [if_neg hn] at e0
      subst e0
      have e0 := HVN.out hn
      subst e0
      clear hn
      go_wp2_with fail
      go_ret2
      exact ⟨rfl, HB.out⟩
    · rw [HEN.out] at hj
      obtain ⟨ev, hm2⟩ := HVA.out j hj hy hf
      have e0 := HC.out
      rw [if_pos hm2] at e0
      subst e0
      obtain ⟨b, o, e5, hc⟩ := HV1.out.at (by omega)
      obtain rfl : a = some ⟨b, o, none⟩ := by simpa using e5
      have c1 := hc (j * 2 + 1) (by omega)
      rw [HEC.out, ← Nat.add_assoc, ← ev] at c1
      clear hc hy hf hm2 e5 ev
      go_wp2_with fail
      go_ret2
      exact ⟨rfl, HB.out⟩
end Go.Proofs.Ytifkihjjkomfiaa.MapGet
